/-
  route.mayBinding, mayBindings, May, walked.
-/
import Derived.Test.YtlghphmehlmehaaDoorRtMayX
import Derived.Test.YtlghphmehlmehaaDoorTMay
namespace Go.Proofs.YtlghphmehlmehaaDoor.Rt
open Go.RowKit Top
set_option linter.unusedVariables false

/-- a binding, an exchange in a block of its own. -/
structure BoxB (w : World) (g : Nat) (b : Bd) : Prop where
  c0 : w.cell? ⟨g, 0, none⟩ = some (.string ⟨b.ex.toArray⟩)
  c1 : w.cell? ⟨g, 1, none⟩ = some (.string ⟨b.q.toArray⟩)
  c2 : w.cell? ⟨g, 2, none⟩ = some (.string ⟨b.key.toArray⟩)
  c3 : w.cell? ⟨g, 3, none⟩ = some (.int .i64 b.wt)
structure BoxX (w : World) (g : Nat) (e : Ex) : Prop where
  c0 : w.cell? ⟨g, 0, none⟩ = some (.string ⟨e.name.toArray⟩)
  c1 : w.cell? ⟨g, 1, none⟩ = some (.int .i64 e.kind)
theorem boxB (w : World) (b : Bd) : BoxB (w.alloc (.cells #[.string ⟨b.ex.toArray⟩, .string ⟨b.q.toArray⟩, .string ⟨b.key.toArray⟩, .int .i64 b.wt] 28)) w.heap.size b := by
  constructor
  all_goals (rw [cell_of_row _ _ _ _ _ _ (heap_alloc_new w _)]; rfl)
theorem boxX (w : World) (e : Ex) : BoxX (w.alloc (.cells #[.string ⟨e.name.toArray⟩, .int .i64 e.kind] 25)) w.heap.size e := by
  constructor
  all_goals (rw [cell_of_row _ _ _ _ _ _ (heap_alloc_new w _)]; rfl)
theorem BoxB.below {w w' : World} {g : Nat} {b : Bd} (h : BoxB w g b) (hb : Below w.heap.size w w') : BoxB w' g b :=
  ⟨(hb.cell (lt_of_cell h.c0)).trans h.c0, (hb.cell (lt_of_cell h.c1)).trans h.c1, (hb.cell (lt_of_cell h.c2)).trans h.c2, (hb.cell (lt_of_cell h.c3)).trans h.c3⟩
theorem BoxX.below {w w' : World} {g : Nat} {b : Ex} (h : BoxX w g b) (hb : Below w.heap.size w w') : BoxX w' g b :=
  ⟨(hb.cell (lt_of_cell h.c0)).trans h.c0, (hb.cell (lt_of_cell h.c1)).trans h.c1⟩

theorem not_mayBd {x : List Ex} {b : Bd} (h : ∀ i, fnd b.ex x = some i → MayNm b.q → b.key.length ≤ 255 → ¬ WtOk (kindAt x i) b.wt b.key) : decide (MayBd x b) = false := by
  rw [decide_eq_false_iff_not]
  rintro ⟨i, h1, h2, h3, h4⟩
  exact h i h1 h2 h3 h4
theorem yes_mayBd {x : List Ex} {b : Bd} (i : Nat) (h1 : fnd b.ex x = some i) (h2 : MayNm b.q) (h3 : b.key.length ≤ 255) (h4 : WtOk (kindAt x i) b.wt b.key) : decide (MayBd x b) = true := by
  rw [decide_eq_true_iff]
  exact ⟨i, h1, h2, h3, h4⟩
theorem kind_at {x : List Ex} {i : Nat} (h : i < x.length) : kindAt x i = x[i].kind := by
  unfold kindAt
  rw [List.getElem?_eq_getElem h]
  rfl

set_option maxRecDepth 100000 in
set_option maxHeartbeats 1000000 in
theorem mayB1_any (a : Option Addr) (cap : Nat) (x : List Ex) (b : Bd) (w : World) (hf : XsAt w a cap x) :
    Calls Tryd.prog 28 #[.slice a x.length cap, .agg #[.string ⟨b.ex.toArray⟩, .string ⟨b.q.toArray⟩, .string ⟨b.key.toArray⟩, .int .i64 b.wt]] w fun e w' => e = .returned (.bool (decide (MayBd x b))) ∧ Below w.heap.size w w' := by
  have ha0 : Below w.heap.size w (w.alloc (.cells #[.string ⟨b.ex.toArray⟩, .string ⟨b.q.toArray⟩, .string ⟨b.key.toArray⟩, .int .i64 b.wt] 28)) := (Below.refl _ _).alloc (Nat.le_refl _) _
  have HA0 := Lib.hid ha0
  have HFIND := Lib.hid (find_any a cap x b.ex _ (hf.below ha0))
  have HF := Lib.hid (hf.below ha0)
  have HBOX := Lib.hid (boxB w b)
  have hcap := hf.max
  have hlen := hf.len
  unfold maxLen at hcap
  clear ha0 hf
  cases hi : fnd b.ex x with
  | none =>
    rw [hi] at HFIND
    have hpl : pl none = -1 := rfl
    rw [hpl] at HFIND
    go_enter Tryd.func28, Tryd.ntmps28
    go_wp2_with (go_at_call 16; refine HFIND.out.mono ?_; rintro e w2 ⟨rfl, hb2⟩; have HB2 := Lib.hid (HA0.out.trans (hb2.mono HA0.out.size)); clear hb2)
    go_ret
    refine ⟨?_, HB2.out⟩
    rw [not_mayBd fun j hj => by rw [hi] at hj; cases hj]
    rfl
  | some i =>
    rw [hi] at HFIND
    have hpl : pl (some i) = (i : Int) := rfl
    rw [hpl] at HFIND
    have HI := Lib.hid hi
    have hlt := fnd_lt hi
    have hlti : (i : Int) < (x.length : Int) := by omega
    have h0i : (0 : Int) ≤ (i : Int) := by omega
    have hno : ((i : Int) < 0) = False := by simp
    clear hi hpl
    have hkind := kind_at hlt
    have HK := Lib.hid hkind
    clear hkind
    have wFIND := Lib.hid (show ∀ Q : Ending → World → Prop, (∀ w2 xb xo, a = some ⟨xb, xo, none⟩ → Below w.heap.size w w2 → BoxB w2 w.heap.size b → w2.cell? ⟨xb, xo + i * 2 + 1, none⟩ = some (.int .i64 x[i].kind) → Q (.returned (.int .i64 i)) w2) → Calls Tryd.prog 16 #[.slice a x.length cap, .string ⟨b.ex.toArray⟩] (w.alloc (.cells #[.string ⟨b.ex.toArray⟩, .string ⟨b.q.toArray⟩, .string ⟨b.key.toArray⟩, .int .i64 b.wt] 28)) Q from fun Q hQ => by
      refine HFIND.out.mono ?_
      rintro e w2 ⟨rfl, hb2⟩
      obtain ⟨xb, xo, ha, x0, x1⟩ := XsAt.get (HF.out.below hb2) i hlt
      exact hQ w2 xb xo ha (HA0.out.trans (hb2.mono HA0.out.size)) (HBOX.out.below hb2) x1)
    clear HFIND HF HBOX HA0
    by_cases h1 : MayNm b.q
    case neg =>
      have hn := name_any b.q
      rw [decide_eq_false h1] at hn
      go_enter Tryd.func28, Tryd.ntmps28
      go_wp2_with (first | (go_at_call 16; refine wFIND.out _ ?_; rintro w2 xb xo rfl hb2 ⟨k0, k1, k2, k3⟩ x1; have HB2 := Lib.hid hb2; clear hb2) | (go_at_call 27; refine (hn _).mono ?_; rintro e w2 ⟨rfl, rfl⟩))
      go_ret
      refine ⟨?_, HB2.out⟩
      rw [not_mayBd fun j _ hj => absurd hj h1]
      rfl
    have hn := name_any b.q
    rw [decide_eq_true h1] at hn
    by_cases h2 : b.key.length ≤ 255
    case neg =>
      have h2' : (255 : Int) < (b.key.length : Int) := by omega
      go_enter Tryd.func28, Tryd.ntmps28
      go_wp2_with (first | (go_at_call 16; refine wFIND.out _ ?_; rintro w2 xb xo rfl hb2 ⟨k0, k1, k2, k3⟩ x1; have HB2 := Lib.hid hb2; clear hb2) | (go_at_call 27; refine (hn _).mono ?_; rintro e w2 ⟨rfl, rfl⟩))
      go_ret
      refine ⟨?_, HB2.out⟩
      rw [not_mayBd fun j _ _ hj => absurd hj h2]
      rfl
    have h2' : ((255 : Int) < (b.key.length : Int)) = False := by simp; omega
    have HR := Lib.hid (show ∀ r : Bool, (r = true ↔ WtOk x[i].kind b.wt b.key) → decide (MayBd x b) = r from fun r hr => by
      rw [← HK.out] at hr
      cases r
      · exact not_mayBd fun j hj _ _ hw => by rw [HI.out] at hj; injection hj with hj; subst hj; exact absurd (hr.2 hw) (by simp)
      · exact yes_mayBd i HI.out h1 h2 (hr.1 rfl))
    clear h1 HI HK
    generalize x[i].kind = k at wFIND HR
    by_cases hk4 : k = 4
    · subst hk4
      by_cases hw1 : 1 ≤ b.wt
      · go_enter Tryd.func28, Tryd.ntmps28
        go_wp2_with (first | (go_at_call 16; refine wFIND.out _ ?_; rintro w2 xb xo rfl hb2 ⟨k0, k1, k2, k3⟩ x1; have HB2 := Lib.hid hb2; clear hb2) | (go_at_call 27; refine (hn _).mono ?_; rintro e w2 ⟨rfl, rfl⟩))
        go_ret
        refine ⟨?_, HB2.out⟩
        rw [HR.out (decide (b.wt ≤ 4)) (by rw [decide_eq_true_iff]; unfold WtOk; omega)]
        rfl
      · go_enter Tryd.func28, Tryd.ntmps28
        go_wp2_with (first | (go_at_call 16; refine wFIND.out _ ?_; rintro w2 xb xo rfl hb2 ⟨k0, k1, k2, k3⟩ x1; have HB2 := Lib.hid hb2; clear hb2) | (go_at_call 27; refine (hn _).mono ?_; rintro e w2 ⟨rfl, rfl⟩))
        go_ret
        refine ⟨?_, HB2.out⟩
        rw [HR.out false (by simp only [WtOk]; simp; omega)]
        rfl
    have b4 : (k == 4) = false := by simpa using hk4
    by_cases hk3 : k = 3
    · subst hk3
      by_cases hw0 : b.wt = 0
      · have hm := Lib.hid (may_any b.key (by omega))
        have w0 : (b.wt == 0) = true := by simpa using hw0
        have HW0 := Lib.hid hw0
        clear hw0
        go_enter Tryd.func28, Tryd.ntmps28
        go_wp2_with (first | (go_at_call 16; refine wFIND.out _ ?_; rintro w2 xb xo rfl hb2 ⟨k0, k1, k2, k3⟩ x1; have HB2 := Lib.hid hb2; clear hb2) | (go_at_call 27; refine (hn _).mono ?_; rintro e w2 ⟨rfl, rfl⟩) | (go_at_call 19; refine (hm.out _).mono ?_; rintro e w3 ⟨rfl, hb3⟩; have HB3 := Lib.hid (HB2.out.trans (hb3.mono HB2.out.size)); clear hb3))
        go_ret
        refine ⟨?_, HB3.out⟩
        rw [HR.out (mayB b.key) (by simp [WtOk, HW0.out])]
        rfl
      · have w0 : (b.wt == 0) = false := by simpa using hw0
        go_enter Tryd.func28, Tryd.ntmps28
        go_wp2_with (first | (go_at_call 16; refine wFIND.out _ ?_; rintro w2 xb xo rfl hb2 ⟨k0, k1, k2, k3⟩ x1; have HB2 := Lib.hid hb2; clear hb2) | (go_at_call 27; refine (hn _).mono ?_; rintro e w2 ⟨rfl, rfl⟩))
        go_ret
        refine ⟨?_, HB2.out⟩
        rw [HR.out false (by simp [WtOk, hw0])]
        rfl
    have b3 : (k == 3) = false := by simpa using hk3
    go_enter Tryd.func28, Tryd.ntmps28
    go_wp2_with (first | (go_at_call 16; refine wFIND.out _ ?_; rintro w2 xb xo rfl hb2 ⟨k0, k1, k2, k3⟩ x1; have HB2 := Lib.hid hb2; clear hb2) | (go_at_call 27; refine (hn _).mono ?_; rintro e w2 ⟨rfl, rfl⟩))
    go_ret
    refine ⟨?_, HB2.out⟩
    rw [HR.out (b.wt == 0) (by simp [WtOk, hk3, hk4])]
    rfl

def mayLRel (a c : Option Addr) (ac cc : Nat) (x : List Ex) (l : List Bd) (w : World) (m : Nat) (a' : Act) (w' : World) : Prop :=
  ∃ (i : Nat) (u6 u7 u8 u9 u10 u11 u12 u13 u14 u15 u16 u17 u18 u19 u20 u21 u22 u23 u24 u25 u26 u27 u28 u29 u30 : Value), a' = { tmps := #[.slice a x.length ac, .slice c l.length cc, undef, undef, .bool false, .int .i64 i, u6, u7, u8, u9, u10, u11, u12, u13, u14, u15, u16, u17, u18, u19, u20, u21, u22, u23, u24, u25, u26, u27, u28, u29, u30], defers := [] } ∧
    m = l.length - i ∧ i ≤ l.length ∧ (∀ (j : Nat) (h : j < i) (h' : j < l.length), MayBd x l[j] ∧ alk l[j] l = some j) ∧ l.length ≤ 64 ∧ Below w.heap.size w w'

theorem not_mayL {x : List Ex} {l : List Bd} (i : Nat) (hi : i < l.length) (h : ¬ (MayBd x l[i] ∧ alk l[i] l = some i)) : decide (MayL x l) = false := by
  rw [decide_eq_false_iff_not]
  exact fun hm => h (hm.2 i hi)

set_option maxRecDepth 100000 in
set_option maxHeartbeats 1000000 in
theorem mayL_any (a : Option Addr) (ac : Nat) (x : List Ex) (c : Option Addr) (cc : Nat) (l : List Bd) (w : World) (hx : XsAt w a ac x) (hl : BsAt w c cc l) :
    Calls Tryd.prog 15 #[.slice a x.length ac, .slice c l.length cc] w fun e w' => e = .returned (.bool (decide (MayL x l))) ∧ Below w.heap.size w w' := by
  have HX := Lib.hid hx
  have HL := Lib.hid hl
  clear hx hl
  go_enter Tryd.func15, Tryd.ntmps15
  go_wp2_with fail
  refine wp_scope_ghost 0 (mayLRel a c ac cc x l w) rfl ?_ ?_
  · intro H hb'
    have HBK := Lib.hid hb'
    clear hb'
    by_cases h64 : l.length ≤ 64
    · have hle : ¬ (64 : Int) < (l.length : Int) := by omega
      go_wp2_with fail
      go_step3
      rename_i hK
      refine hK _ _ (HBK.out l.length _ _ ⟨0, ?_⟩)
      repeat apply Exists.intro
      exact ⟨rfl, by omega, by omega, fun j h => by omega, h64, Below.refl _ _⟩
    · have hgt : (64 : Int) < (l.length : Int) := by omega
      go_wp2_with fail
      simp only [Exit.jump]
      go_ret
      refine ⟨?_, Below.refl _ _⟩
      rw [show decide (MayL x l) = false by rw [decide_eq_false_iff_not]; exact fun hm => h64 hm.1]
      rfl
  · rintro m a' w' ⟨i, u6, u7, u8, u9, u10, u11, u12, u13, u14, u15, u16, u17, u18, u19, u20, u21, u22, u23, u24, u25, u26, u27, u28, u29, u30, rfl, rfl, hi, hno, h64, hb1⟩ H hH
    have HH := Lib.hid hH
    have HNO := Lib.hid hno
    have HB1 := Lib.hid hb1
    have hx1 := HX.out.below hb1
    have hl1 := HL.out.below hb1
    clear hH hno hb1
    by_cases hlt : i < l.length
    · have hlti : (i : Int) < (l.length : Int) := by omega
      have h0i : (0 : Int) ≤ (i : Int) := by omega
      have hne : ((i : Int) == (l.length : Int)) = false := by simp; omega
      have c4 : IntKind.i64.wrap ((i : Int) + 1) = (i : Int) + 1 := IntWalk.i64_in _ (by omega)
      have HMAY := Lib.hid (mayB1_any a ac x l[i] w' hx1)
      have HALK := Lib.hid (fun w2 (h : Below w'.heap.size w' w2) => alike_any c cc l l[i] w2 (hl1.below h))
      have HLB := Lib.hid (fun w2 (h : Below w'.heap.size w' w2) => BsAt.get (hl1.below h) i hlt)
      have HW := Lib.hid (show ∀ w2, Below w'.heap.size w' w2 → Below w.heap.size w w2 from fun w2 h => HB1.out.trans (h.mono HB1.out.size))
      obtain ⟨b, o, rfl, c0, c1, c2, c3⟩ := BsAt.get hl1 i hlt
      clear hx1 hl1
      by_cases h1 : MayBd x l[i]
      case neg =>
        rw [decide_eq_false h1] at HMAY
        have H1 := Lib.hid h1
        clear h1
        go_wp2_with (go_at_call 28; refine HMAY.out.mono ?_; rintro e w2 ⟨rfl, hb2⟩; have HB2 := Lib.hid (HW.out _ hb2); clear hb2)
        simp only [Exit.jump]
        go_ret
        refine ⟨?_, HB2.out⟩
        rw [not_mayL i hlt fun h => H1.out h.1]
        rfl
      rw [decide_eq_true h1] at HMAY
      have H1 := Lib.hid h1
      clear h1
      by_cases h2 : alk l[i] l = some i
      · have hpl : ((pl (alk l[i] l)) == (i : Int)) = true := by rw [h2]; simp [pl]
        have H2 := Lib.hid h2
        generalize pl (alk l[i] l) = k at HALK hpl
        clear h2
        go_wp2_with (first | (go_at_call 28; refine HMAY.out.mono ?_; rintro e w2 ⟨rfl, hb2⟩; have HB2 := Lib.hid hb2; obtain ⟨b', o', he, d0, d1, d2, d3⟩ := HLB.out w2 hb2; injection he with he; injection he with e1 e2; subst e1 e2; clear hb2) | (go_at_call 24; refine (HALK.out _ HB2.out).mono ?_; rintro e w3 ⟨rfl, hb3⟩; have HB3 := Lib.hid (HW.out _ (HB2.out.trans (hb3.mono HB2.out.size))); clear hb3))
        go_step3
        refine ⟨rfl, HH.out (l.length - (i + 1)) _ _ (by omega) ⟨i + 1, ?_⟩⟩
        repeat apply Exists.intro
        refine ⟨rfl, rfl, by omega, fun j h h' => ?_, h64, HB3.out⟩
        by_cases hji : j = i
        · subst hji; exact ⟨H1.out, H2.out⟩
        · exact HNO.out j (by omega) h'
      · have hpl : ((pl (alk l[i] l)) == (i : Int)) = false := by
          simp only [beq_eq_false_iff_ne, ne_eq, pl_some]
          exact h2
        have H2 := Lib.hid h2
        generalize pl (alk l[i] l) = k at HALK hpl
        clear h2
        go_wp2_with (first | (go_at_call 28; refine HMAY.out.mono ?_; rintro e w2 ⟨rfl, hb2⟩; have HB2 := Lib.hid hb2; obtain ⟨b', o', he, d0, d1, d2, d3⟩ := HLB.out w2 hb2; injection he with he; injection he with e1 e2; subst e1 e2; clear hb2) | (go_at_call 24; refine (HALK.out _ HB2.out).mono ?_; rintro e w3 ⟨rfl, hb3⟩; have HB3 := Lib.hid (HW.out _ (HB2.out.trans (hb3.mono HB2.out.size))); clear hb3))
        simp only [Exit.jump]
        go_ret
        refine ⟨?_, HB3.out⟩
        rw [not_mayL i hlt fun h => H2.out h.2]
        rfl
    · obtain rfl : i = l.length := by omega
      have hne : ((l.length : Int) == (l.length : Int)) = true := by simp
      go_wp2_with fail
      simp only [Exit.jump]
      go_ret
      refine ⟨?_, HB1.out⟩
      rw [show decide (MayL x l) = true by rw [decide_eq_true_iff]; exact ⟨h64, fun j hj => HNO.out j hj hj⟩]
      rfl

set_option maxHeartbeats 400000 in
theorem mayR_any (a : Option Addr) (ac : Nat) (x : List Ex) (c : Option Addr) (cc : Nat) (l : List Bd) (w : World) (hx : XsAt w a ac x) (hl : BsAt w c cc l) :
    Calls Tryd.prog 8 #[.slice a x.length ac, .slice c l.length cc] w fun e w' => e = .returned (.bool (decide (MayR x l))) ∧ Below w.heap.size w w' := by
  have HX := Lib.hid (mayX_any a ac x w hx)
  have HL := Lib.hid (fun w2 (h : Below w.heap.size w w2) => mayL_any a ac x c cc l w2 (hx.below h) (hl.below h))
  clear hx hl
  by_cases h1 : MayX x
  case neg =>
    rw [decide_eq_false h1] at HX
    have H1 := Lib.hid h1
    clear h1
    go_enter Tryd.func8, Tryd.ntmps8
    go_wp2_with (go_at_call 14; refine HX.out.mono ?_; rintro e w2 ⟨rfl, hb2⟩; have HB2 := Lib.hid hb2; clear hb2)
    go_ret
    refine ⟨?_, HB2.out⟩
    rw [show decide (MayR x l) = false by rw [decide_eq_false_iff_not]; exact fun hm => H1.out hm.1]
    rfl
  rw [decide_eq_true h1] at HX
  rw [show decide (MayR x l) = decide (MayL x l) by rw [decide_eq_decide]; exact ⟨fun h => h.2, fun h => ⟨h1, h⟩⟩]
  clear h1
  generalize decide (MayL x l) = r at HL ⊢
  go_enter Tryd.func8, Tryd.ntmps8
  go_wp2_with (first | (go_at_call 14; refine HX.out.mono ?_; rintro e w2 ⟨rfl, hb2⟩; have HB2 := Lib.hid hb2; clear hb2) | (go_at_call 15; refine (HL.out _ HB2.out).mono ?_; rintro e w3 ⟨rfl, hb3⟩; have HB3 := Lib.hid (HB2.out.trans (hb3.mono HB2.out.size)); clear hb3))
  go_ret
  exact ⟨rfl, HB3.out⟩

end Go.Proofs.YtlghphmehlmehaaDoor.Rt
