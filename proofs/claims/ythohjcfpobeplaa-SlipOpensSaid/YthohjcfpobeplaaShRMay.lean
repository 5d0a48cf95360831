/-
  The document's MayShard, walked.
-/
import Derived.Test.YthohjcfpobeplaaShRLast
import Derived.Test.YthohjcfpobeplaaShDat
import Derived.Deep.QuietTactic
import Derived.Test.YthohjcfpobeplaaShLeaf
import Derived.Test.YthohjcfpobeplaaShGetG
namespace Go.Proofs.Ythohjcfpobeplaa.Sh
open Go.RowKit Rg Go.Sort
set_option linter.unusedVariables false
set_option linter.unusedSimpArgs false

theorem box3k {w : World} {g : Nat} {x y z : Value} {t : TypeId} (h : w.heap[g]? = some (.cells #[x, y, z] t (0, 0))) :
    (w.cell? ⟨g, 0, none⟩ = some x ∧ w.cell? ⟨g, 1, none⟩ = some y ∧ w.cell? ⟨g, 2, none⟩ = some z) ∧ w.frozen? ⟨g, 0, none⟩ = false ∧ w.frozen? ⟨g, 1, none⟩ = false ∧ w.frozen? ⟨g, 2, none⟩ = false := by
  refine ⟨⟨?_, ?_, ?_⟩, ?_, ?_, ?_⟩
  all_goals first | (rw [cell_of_row w _ _ _ _ _ h]; rfl) | simp [World.frozen?, h]
def upRel (ok : (i : Nat) → Prop) (N : Nat) (W : World) (m : Nat) (v : Value) (wr : World) : Prop :=
  ∃ i : Nat, i ≤ N ∧ (∀ j, j < i → ok j) ∧ v = .int .i64 i ∧ m = N - i ∧ Below W.heap.size W wr
theorem up_more {ok : Nat → Prop} {i : Nat} (h : ∀ j, j < i → ok j) (h1 : ok i) : ∀ j, j < i + 1 → ok j := fun j hj => by
  by_cases e : j = i
  · subst e; exact h1
  · exact h j (by omega)
set_option maxRecDepth 100000 in
set_option maxHeartbeats 8000000 in
theorem rmay_any (s : Sd) (ra : Option Addr) (rc : Nat) (ha : Option Addr) (hc : Nat) (ma : Option Addr) (mc : Nat) (w : World) (hs : SdAt w ra rc ha hc ma mc s) :
    Calls Try.prog 25 #[.agg #[.bool s.fr, .int .i64 s.nx, .slice ra s.rd.length rc, .slice ha s.hd.length hc, .slice ma s.ms.length mc]] w fun e w' => e = .returned (.bool (decide (MaySd s))) ∧ Below w.heap.size w w' := by
  have hl1 := hs.sm.1
  have hl2 := hs.sm.2.1
  have hl3 := hs.sm.2.2
  obtain ⟨hx, hb0, hWs⟩ := one_box (w := w) (.cells #[.bool s.fr, .int .i64 s.nx, .slice ra s.rd.length rc, .slice ha s.hd.length hc, .slice ma s.ms.length mc] 26)
  obtain ⟨W, hW⟩ : ∃ W, W = w.alloc (.cells #[.bool s.fr, .int .i64 s.nx, .slice ra s.rd.length rc, .slice ha s.hd.length hc, .slice ma s.ms.length mc] 26) := ⟨_, rfl⟩
  rw [← hW] at hx hb0 hWs
  have HB0 := Lib.hid hb0
  have HS1 := Lib.hid (hs.below ra rc ha hc ma mc hb0)
  have HBX : Hid (∀ wx, Below W.heap.size W wx → (wx.cell? ⟨w.heap.size, 0, none⟩ = some (.bool s.fr) ∧ wx.cell? ⟨w.heap.size, 1, none⟩ = some (.int .i64 s.nx) ∧ wx.cell? ⟨w.heap.size, 2, none⟩ = some (.slice ra s.rd.length rc) ∧ wx.cell? ⟨w.heap.size, 3, none⟩ = some (.slice ha s.hd.length hc) ∧ wx.cell? ⟨w.heap.size, 4, none⟩ = some (.slice ma s.ms.length mc)) ∧ w.heap.size < wx.heap.size ∧ ¬ w.heap.size = wx.heap.size) := Lib.hid fun wx hx' => ⟨(box5 ((hx'.block _ (by rw [hWs]; omega)).trans hx)).1, by have := hx'.size; omega, by have := hx'.size; omega⟩
  have HW := Lib.hid hW
  have e0 : IntKind.i64.wrap ((s.rd.length : Int) + (s.hd.length : Int)) = (s.rd.length : Int) + (s.hd.length : Int) := IntWalk.i64_in _ (by omega)
  clear hs hx hb0 hWs hW
  by_cases h0 : 1 ≤ s.nx
  case neg =>
    as_aux_lemma =>
      have HR : Hid (decide (MaySd s) = false) := Lib.hid (decide_eq_false fun h => h0 ((rmay_is s).1 h).1)
      have e1 : s.nx < 1 := by omega
      clear h0
      go_enter Try.func25, Try.ntmps25
      go_wp2_with fail
      go_ret
      exact ⟨by rw [HR.out]; rfl, by rw [← HW.out]; exact HB0.out⟩
  have e1 : ¬ s.nx < 1 := by omega
  by_cases h1 : s.nx ≤ 1073741824
  case neg =>
    as_aux_lemma =>
      have HR : Hid (decide (MaySd s) = false) := Lib.hid (decide_eq_false fun h => h1 ((rmay_is s).1 h).2.1)
      have e2 : 1073741824 < s.nx := by omega
      clear h0 h1
      go_enter Try.func25, Try.ntmps25
      go_wp2_with fail
      go_ret
      exact ⟨by rw [HR.out]; rfl, by rw [← HW.out]; exact HB0.out⟩
  have e2 : ¬ 1073741824 < s.nx := by omega
  by_cases h2 : s.rd.length + s.hd.length ≤ 48
  case neg =>
    as_aux_lemma =>
      have HR : Hid (decide (MaySd s) = false) := Lib.hid (decide_eq_false fun h => h2 ((rmay_is s).1 h).2.2.1)
      have e3 : (48 : Int) < (s.rd.length : Int) + (s.hd.length : Int) := by omega
      clear h0 h1 h2
      go_enter Try.func25, Try.ntmps25
      go_wp2_with fail
      go_ret
      exact ⟨by rw [HR.out]; rfl, by rw [← HW.out]; exact HB0.out⟩
  have e3 : ¬ (48 : Int) < (s.rd.length : Int) + (s.hd.length : Int) := by omega
  by_cases h3 : s.ms.length ≤ 64
  case neg =>
    as_aux_lemma =>
      have HR : Hid (decide (MaySd s) = false) := Lib.hid (decide_eq_false fun h => h3 ((rmay_is s).1 h).2.2.2.1)
      have e4 : (64 : Int) < (s.ms.length : Int) := by omega
      clear h0 h1 h2 h3
      go_enter Try.func25, Try.ntmps25
      go_wp2_with fail
      go_ret
      exact ⟨by rw [HR.out]; rfl, by rw [← HW.out]; exact HB0.out⟩
  have e4 : ¬ (64 : Int) < (s.ms.length : Int) := by omega
  have HL := Lib.hid (And.intro h0 (And.intro h1 (And.intro h2 h3)))
  clear h0 h1 h2 h3
  go_enter Try.func25, Try.ntmps25
  go_wp2_with fail
  clear e0 e1 e2 e3 e4
  rw [← HW.out]
  go_loopg [3] s.ms.length (upRel (fun i => ∀ h : i < s.ms.length, R1 s i h) s.ms.length W)
  case atStart => exact ⟨0, Nat.zero_le _, fun j h => by omega, rfl, rfl, Below.refl _ _⟩
  case round =>
    as_aux_lemma =>
      obtain ⟨i, hi, hok, rfl, rfl, hb⟩ := hrel
      have HOK := Lib.hid hok
      have HB := Lib.hid hb
      clear hok hb
      by_cases hlt : i < s.ms.length
      · have hlti : (i : Int) < (s.ms.length : Int) := by omega
        have h0i : (0 : Int) ≤ (i : Int) := by omega
        have h4 : IntKind.i64.wrap ((i : Int) + 1) = (i : Int) + 1 := IntWalk.i64_in _ (by omega)
        obtain ⟨⟨b0, b1, b2, b3, b4⟩, g0, g1⟩ := HBX.out _ HB.out
        have HSr := Lib.hid (HS1.out.below _ _ _ _ _ _ HB.out)
        obtain ⟨b, o, hma, d0, d1, d2⟩ := MksAt.get HSr.out.ms i hlt
        subst hma
        have HM := Lib.hid fun wx => rmayMsg_any ⟨s.ms[i].pub, s.ms[i].seq, s.ms[i].key, [], false⟩ wx
        obtain ⟨t1, t2, -⟩ := one_box (w := wr) (.cells #[.int .i64 s.ms[i].pub, .string ⟨s.ms[i].key.toArray⟩, .int .i64 s.ms[i].seq] 93)
        have HBI := Lib.hid (HB.out.trans (t2.mono HB.out.size))
        have HSZ := Lib.hid HB.out.size
        have HT1 := Lib.hid t1
        clear t1 t2
        go_wp2_with fail
        refine (HM.out _).mono ?_
        rintro e w2 ⟨rfl, hg⟩
        have HB2 := Lib.hid (HBI.out.trans (hg.below.mono HBI.out.size))
        have HX2 := Lib.hid (box_bl HT1.out hg.below)
        have HZ2 := Lib.hid hg.below.size
        clear hg HM HT1 HBI b0 b1 b2 b3 b4 g0 g1 d0 d1 d2
        by_cases hst : MayMg ⟨s.ms[i].pub, s.ms[i].seq, s.ms[i].key, [], false⟩
        case neg =>
          as_aux_lemma =>
            have HR : Hid (decide (MaySd s) = false) := Lib.hid (decide_eq_false fun h => hst ⟨(((rmay_is s).1 h).2.2.2.2.1 i hlt).1, by simp⟩)
            rw [decide_eq_false hst]
            clear hst
            go_wp2_with fail
            go_ret
            exact ⟨by rw [HR.out]; rfl, HB0.out.trans (HB2.out.mono HB0.out.size)⟩
        have HST := Lib.hid hst.1
        rw [decide_eq_true hst]
        clear hst
        go_wp2_with fail
        go_loopg [5] i (upRel (fun k => ∀ h : k < i, ¬ (s.ms[k].pub = s.ms[i].pub ∧ s.ms[k].key = s.ms[i].key)) i w2)
        case atStart => exact ⟨0, Nat.zero_le _, fun j h => by omega, rfl, rfl, Below.refl _ _⟩
        case round =>
          as_aux_lemma =>
            obtain ⟨k, hki, hok, rfl, rfl, hb⟩ := hrel
            have HOK1 := Lib.hid hok
            have HB3 := Lib.hid (HB2.out.trans (hb.mono HB2.out.size))
            have HX3 := Lib.hid (box_bl HX2.out hb)
            have HBb := Lib.hid hb
            clear hok hb
            obtain ⟨⟨b0, b1, b2, b3, b4⟩, g0, g1⟩ := HBX.out _ HB3.out
            by_cases hlt1 : k < i
            · have hlti1 : (k : Int) < (i : Int) := by omega
              have hltl1 : (k : Int) < (s.ms.length : Int) := by omega
              have h0k : (0 : Int) ≤ (k : Int) := by omega
              have h5 : IntKind.i64.wrap ((k : Int) + 1) = (k : Int) + 1 := IntWalk.i64_in _ (by omega)
              obtain ⟨b', o', hma, d0, d1, d2⟩ := MksAt.get (HS1.out.below _ _ _ _ _ _ HB3.out).ms k (by omega)
              obtain ⟨rfl, rfl⟩ : b = b' ∧ o = o' := by injection hma with he; injection he with e1 e2; exact ⟨e1, e2⟩
              obtain ⟨⟨x0, x1, x2⟩, -⟩ := box3k HX3.out
              obtain ⟨y0, y1, y2⟩ := box_lt HX3.out
              have HKN := Lib.hid (fun (h : ¬ (s.ms[k].pub = s.ms[i].pub ∧ s.ms[k].key = s.ms[i].key)) => up_more (ok := fun k => ∀ h : k < i, ¬ (s.ms[k].pub = s.ms[i].pub ∧ s.ms[k].key = s.ms[i].key)) HOK1.out (show ∀ _ : k < i, ¬ (s.ms[k].pub = s.ms[i].pub ∧ s.ms[k].key = s.ms[i].key) from fun _ => h))
              have HKY : Hid (s.ms[k].pub = s.ms[i].pub ∧ s.ms[k].key = s.ms[i].key → decide (MaySd s) = false) := Lib.hid fun h => decide_eq_false fun g => (((rmay_is s).1 g).2.2.2.2.1 i hlt).2 k hlt1 h
              generalize hxk : s.ms[k] = xk at *
              generalize hxi : s.ms[i] = xi at *
              clear hxk hxi hma
              by_cases q1 : xk.pub = xi.pub
              · have f1 : (xk.pub == xi.pub) = true := by simpa using q1
                by_cases q2 : xk.key = xi.key
                · have f2 : (xk.key == xi.key) = true := by simpa using q2
                  have HR := Lib.hid (HKY.out ⟨q1, q2⟩)
                  clear q1 q2 HKY HKN
                  go_wp2_with fail
                  go_quiet (fail)
                  go_wp2_with fail
                  go_ret
                  exact ⟨by rw [HR.out]; rfl, HB0.out.trans (Below.drewN (HB3.out.mono HB0.out.size) _)⟩
                · have f2 : (xk.key == xi.key) = false := by simpa using q2
                  have HR := Lib.hid (HKN.out fun h => q2 h.2)
                  clear q1 q2 HKY HKN
                  go_wp2_with fail
                  go_quiet (fail)
                  go_wp2_with fail
                  go_roundg (i - (k + 1))
                  case measure => omega
                  case rel => exact ⟨k + 1, by omega, HR.out, by go_num, rfl, Below.drewN HBb.out _⟩
              · have f1 : (xk.pub == xi.pub) = false := by simpa using q1
                have HR := Lib.hid (HKN.out fun h => q1 h.1)
                clear q1 HKY HKN
                go_wp2_with fail
                go_quiet (fail)
                go_wp2_with fail
                go_roundg (i - (k + 1))
                case measure => omega
                case rel => exact ⟨k + 1, by omega, HR.out, by go_num, rfl, Below.drewN HBb.out _⟩
            · obtain rfl : k = i := by omega
              have hnlt : ¬ (k : Int) < (k : Int) := by omega
              have HR1 : Hid (∀ h : k < s.ms.length, R1 s k h) := Lib.hid fun _ => ⟨HST.out, fun j hj => HOK1.out j hj hj⟩
              go_wp2_with fail
              go_roundg (s.ms.length - (k + 1))
              case measure => omega
              case rel => exact ⟨k + 1, by omega, up_more HOK.out HR1.out, by go_num, rfl, HB3.out⟩
      · obtain rfl : i = s.ms.length := by omega
        have HOM : Hid (∀ i h, R1 s i h) := Lib.hid fun i h => HOK.out i h h
        obtain ⟨⟨b0, b1, b2, b3, b4⟩, g0, g1⟩ := HBX.out _ HB.out
        go_wp2_with fail
        clear b0 b1 b2 b3 b4 g0 g1 HOK hlt hi
        have HBs := Lib.hid HB.out
        clear HB
        go_loopg [6] s.hd.length (upRel (fun i => ∀ h : i < s.hd.length, R2 s i h) s.hd.length W)
        case atStart => exact ⟨0, Nat.zero_le _, fun j h => by omega, rfl, rfl, HBs.out⟩
        case round =>
          as_aux_lemma =>
            obtain ⟨i, hi, hok, rfl, rfl, hb⟩ := hrel
            have HOK := Lib.hid hok
            have HB := Lib.hid hb
            clear hok hb HBs
            by_cases hlt : i < s.hd.length
            · have h4 : IntKind.i64.wrap ((i : Int) + 1) = (i : Int) + 1 := IntWalk.i64_in _ (by omega)
              have hlti : (i : Int) < (s.hd.length : Int) := by omega
              have h0i : (0 : Int) ≤ (i : Int) := by omega
              obtain ⟨⟨b0, b1, b2, b3, b4⟩, g0, g1⟩ := HBX.out _ HB.out
              have HSr := Lib.hid (HS1.out.below _ _ _ _ _ _ HB.out)
              obtain ⟨b, o, hha, d0, d1, d2, d3, d4, d5⟩ := HdsAt.get HSr.out.hd i hlt
              subst hha
              obtain ⟨t1, t2, t3⟩ := one_box (w := wr) (.cells #[.int .i64 s.hd[i].tag, .int .i64 (s.hd[i].m).pub, .int .i64 (s.hd[i].m).seq, .string ⟨(s.hd[i].m).key.toArray⟩, .string ⟨(s.hd[i].m).body.toArray⟩, .bool (s.hd[i].m).again] 37)
              have HB2 := Lib.hid (HB.out.trans (t2.mono HB.out.size))
              have HF1 : Hid (¬ MayMg s.hd[i].m → decide (MaySd s) = false) := Lib.hid fun h => decide_eq_false fun g => h (((rmay_is s).1 g).2.2.2.2.2.1 i hlt).1
              have HF2 : Hid (s.hd[i].tag < 1 → decide (MaySd s) = false) := Lib.hid fun h => decide_eq_false fun g => by have := (((rmay_is s).1 g).2.2.2.2.2.1 i hlt).2.1; omega
              have HF3 : Hid (s.nx ≤ s.hd[i].tag → decide (MaySd s) = false) := Lib.hid fun h => decide_eq_false fun g => by have := (((rmay_is s).1 g).2.2.2.2.2.1 i hlt).2.2.1; omega
              have HF4 : Hid (0 < i → s.hd[i].tag ≤ s.hd[i - 1].tag → decide (MaySd s) = false) := Lib.hid fun h0 h => decide_eq_false fun g => by have := (((rmay_is s).1 g).2.2.2.2.2.1 i hlt).2.2.2.1 h0; omega
              have HF5 : Hid (lastF s.ms s.hd[i].m.pub s.hd[i].m.key < s.hd[i].m.seq → decide (MaySd s) = false) := Lib.hid fun h => decide_eq_false fun g => by have := (((rmay_is s).1 g).2.2.2.2.2.1 i hlt).2.2.2.2.1; omega
              have HF6 : Hid (∀ k (hk : k < i), s.hd[k].m.key = s.hd[i].m.key → decide (MaySd s) = false) := Lib.hid fun k hk h => decide_eq_false fun g => (((rmay_is s).1 g).2.2.2.2.2.1 i hlt).2.2.2.2.2 k hk h
              have HOKX : Hid (MayMg s.hd[i].m → ¬ s.hd[i].tag < 1 → ¬ s.nx ≤ s.hd[i].tag → (0 < i → ¬ s.hd[i].tag ≤ s.hd[i - 1].tag) → ¬ lastF s.ms s.hd[i].m.pub s.hd[i].m.key < s.hd[i].m.seq → (∀ k (hk : k < i), ¬ s.hd[k].m.key = s.hd[i].m.key) → R2 s i hlt) := Lib.hid fun h1 h2 h3 h4 h5 h6 => ⟨h1, by omega, by omega, fun h0 => by have := h4 h0; omega, by omega, h6⟩
              have HPR : Hid (∀ h0 : 0 < i, wr.cell? ⟨b, o + (i - 1) * 6, none⟩ = some (.int .i64 s.hd[i - 1].tag) ∧ b < wr.heap.size) := Lib.hid fun h0 => by
                obtain ⟨b', o', hma, u0, -⟩ := HdsAt.get HSr.out.hd (i - 1) (by omega)
                obtain ⟨rfl, rfl⟩ : b = b' ∧ o = o' := by injection hma with he; injection he with e1 e2; exact ⟨e1, e2⟩
                exact ⟨u0, World.block_lt_of_cell? _ _ u0⟩
              generalize hxi : s.hd[i] = x at *
              clear hxi
              go_wp2_with fail
              obtain ⟨W2, hW2⟩ : ∃ W2, W2 = wr.alloc (.cells #[.int .i64 x.tag, .int .i64 x.m.pub, .int .i64 x.m.seq, .string ⟨x.m.key.toArray⟩, .string ⟨x.m.body.toArray⟩, .bool x.m.again] 37) := ⟨_, rfl⟩
              rw [← hW2] at t1 t2 t3 HB2 ⊢
              have hb6 := box6 t1
              obtain ⟨⟨x0, x1, x2, x3, x4, x5⟩, -⟩ := hb6
              have z0 := fun p : Und W2 => cell_und x0 p
              have z1 := fun p : Und W2 => cell_und x1 p
              have z2 := fun p : Und W2 => cell_und x2 p
              have z3 := fun p : Und W2 => cell_und x3 p
              have z4 := fun p : Und W2 => cell_und x4 p
              have z5 := fun p : Und W2 => cell_und x5 p
              have y0 := fun p : Und W2 => (HBX.out _ (HB2.out.trans (p.hb.mono HB2.out.size))).1.1
              have y1 := fun p : Und W2 => (HBX.out _ (HB2.out.trans (p.hb.mono HB2.out.size))).1.2.1
              have y2 := fun p : Und W2 => (HBX.out _ (HB2.out.trans (p.hb.mono HB2.out.size))).1.2.2.1
              have y3 := fun p : Und W2 => (HBX.out _ (HB2.out.trans (p.hb.mono HB2.out.size))).1.2.2.2.1
              have y4 := fun p : Und W2 => (HBX.out _ (HB2.out.trans (p.hb.mono HB2.out.size))).1.2.2.2.2
              have HX2 := Lib.hid t1
              have HZ2 := Lib.hid t3
              have HB3 := Lib.hid t2
              have HM := Lib.hid fun p : Und W2 => (rmayMsg_any x.m p.wx).mono fun e w' (h : e = .returned (.bool (decide (MayMg x.m))) ∧ Grew p.wx w') => And.intro h.1 h.2.below
              have HLS := Lib.hid fun p : Und W2 => rlast_any s _ _ _ _ _ _ x.m.pub x.m.key p.wx (HS1.out.below _ _ _ _ _ _ (HB2.out.trans (p.hb.mono HB2.out.size)))
              have HP2 : Hid (∀ h0 : 0 < i, ∀ p : Und W2, p.wx.cell? ⟨b, o + (i - 1) * 6, none⟩ = some (.int .i64 s.hd[i - 1].tag)) := Lib.hid fun h0 p => by
                have := HPR.out h0
                exact (p.hb.cell (by show b < _; rw [HZ2.out]; have := this.2; omega)).trans ((HB3.out.cell this.2).trans this.1)
              have mixed : Try.prog.follows .mixedOrders = true := by kernel_rfl
              clear x0 x1 x2 x3 x4 x5 t1 t2 hW2 b0 b1 b2 b3 b4 g0 g1 d0 d1 d2 d3 d4 d5 t3 HPR HZ2
              by_cases h1 : MayMg x.m
              case neg =>
                as_aux_lemma =>
                  have HR := Lib.hid (HF1.out h1)
                  rw [decide_eq_false h1] at HM
                  clear h1
                  (refine wp_region_quiet_below (by assumption) (by kernel_rfl) ?_; (try dsimp only [List.append]); (repeat (go_big_quiet_step (first | (go_at_call 75; with_reducible exact Calls.below_of (HM.out _)) | (go_at_call 67; with_reducible exact Calls.below_of (HLS.out _))))); refine wpQuiet_nil ?_; intro _ hw'; obtain ⟨wq, hw''⟩ := hw'; subst hw''; have HBQ := Lib.hid wq.hb)
                  go_wp2_with fail
                  go_ret
                  exact ⟨by rw [HR.out]; rfl, HB0.out.trans ((HB2.out.trans (HBQ.out.mono HB2.out.size)).mono HB0.out.size)⟩
              rw [decide_eq_true h1] at HM
              have HQ1 := Lib.hid h1
              by_cases h2 : x.tag < 1
              case pos =>
                as_aux_lemma =>
                  have HR := Lib.hid (HF2.out h2)
                  have c2 : decide (x.tag < 1) = true := decide_eq_true h2
                  clear h1 h2
                  (refine wp_region_quiet_below (by assumption) (by kernel_rfl) ?_; (try dsimp only [List.append]); (repeat (go_big_quiet_step (first | (go_at_call 75; with_reducible exact Calls.below_of (HM.out _)) | (go_at_call 67; with_reducible exact Calls.below_of (HLS.out _))))); refine wpQuiet_nil ?_; intro _ hw'; obtain ⟨wq, hw''⟩ := hw'; subst hw''; have HBQ := Lib.hid wq.hb)
                  go_wp2_with fail
                  go_ret
                  exact ⟨by rw [HR.out]; rfl, HB0.out.trans ((HB2.out.trans (HBQ.out.mono HB2.out.size)).mono HB0.out.size)⟩
              have c2 : decide (x.tag < 1) = false := decide_eq_false h2
              by_cases h3 : s.nx ≤ x.tag
              case pos =>
                as_aux_lemma =>
                  have HR := Lib.hid (HF3.out h3)
                  have c3 : decide (s.nx ≤ x.tag) = true := decide_eq_true h3
                  clear h1 h2 h3
                  (refine wp_region_quiet_below (by assumption) (by kernel_rfl) ?_; (try dsimp only [List.append]); (repeat (go_big_quiet_step (first | (go_at_call 75; with_reducible exact Calls.below_of (HM.out _)) | (go_at_call 67; with_reducible exact Calls.below_of (HLS.out _))))); refine wpQuiet_nil ?_; intro _ hw'; obtain ⟨wq, hw''⟩ := hw'; subst hw''; have HBQ := Lib.hid wq.hb)
                  go_wp2_with fail
                  go_ret
                  exact ⟨by rw [HR.out]; rfl, HB0.out.trans ((HB2.out.trans (HBQ.out.mono HB2.out.size)).mono HB0.out.size)⟩
              have c3 : decide (s.nx ≤ x.tag) = false := decide_eq_false h3
              have HQ2 := Lib.hid (And.intro h2 h3)
              clear h1 h2 h3 HF1 HF2 HF3
              rcases i with _ | j
              · have hz : decide ((0 : Int) < ((0 : Nat) : Int)) = false := by decide
                have hz2 : decide ((0 : Int) < 0) = false := by decide
                have HQ4 : Hid (0 < 0 → ¬ x.tag ≤ s.hd[0 - 1].tag) := Lib.hid fun h => by omega
                simp only [Int.natCast_zero] at hlti h0i h4
                by_cases h5 : lastF s.ms x.m.pub x.m.key < x.m.seq
                case pos =>
                  as_aux_lemma =>
                    have HR := Lib.hid (HF5.out h5)
                    have c5 : decide (lastF s.ms x.m.pub x.m.key < x.m.seq) = true := decide_eq_true h5
                    clear h5
                    (refine wp_region_quiet_below (by assumption) (by kernel_rfl) ?_; (try dsimp only [List.append]); (repeat (go_big_quiet_step (first | (go_at_call 75; with_reducible exact Calls.below_of (HM.out _)) | (go_at_call 67; with_reducible exact Calls.below_of (HLS.out _))))); refine wpQuiet_nil ?_; intro _ hw'; obtain ⟨wq, hw''⟩ := hw'; subst hw''; have HBQ := Lib.hid wq.hb)
                    go_wp2_with fail
                    go_ret
                    exact ⟨by rw [HR.out]; rfl, HB0.out.trans ((HB2.out.trans (HBQ.out.mono HB2.out.size)).mono HB0.out.size)⟩
                have c5 : decide (lastF s.ms x.m.pub x.m.key < x.m.seq) = false := decide_eq_false h5
                have HQ5 := Lib.hid h5
                clear h5
                (refine wp_region_quiet_below (by assumption) (by kernel_rfl) ?_; (try dsimp only [List.append]); (repeat (go_big_quiet_step (first | (go_at_call 75; with_reducible exact Calls.below_of (HM.out _)) | (go_at_call 67; with_reducible exact Calls.below_of (HLS.out _))))); refine wpQuiet_nil ?_; intro _ hw'; obtain ⟨wq, hw''⟩ := hw'; subst hw''; have HBQ := Lib.hid wq.hb)
                go_wp2_with fail
                have HB4 := Lib.hid (HB2.out.trans (HBQ.out.mono HB2.out.size))
                have HX4 := Lib.hid (box_bl HX2.out HBQ.out)
                clear HX2 HBQ HLS HM HB3 z0 z1 z2 z3 z4 z5 y0 y1 y2 y3 y4
                obtain ⟨W4, hW4⟩ : ∃ W4, W4 = wq.wx := ⟨_, rfl⟩
                rw [← hW4] at HB4 HX4 ⊢
                clear hW4
                go_loopg [8] (0) (upRel (fun k => ∀ h : k < 0, ¬ s.hd[k].m.key = x.m.key) (0) W4)
                case atStart => exact ⟨0, Nat.zero_le _, fun j h => by omega, rfl, (by first | rfl | simp), Below.refl _ _⟩
                case round =>
                  as_aux_lemma =>
                    obtain ⟨k, hki, hok, rfl, rfl, hb⟩ := hrel
                    have HOK1 := Lib.hid hok
                    have HB5 := Lib.hid (HB4.out.trans (hb.mono HB4.out.size))
                    have HX5 := Lib.hid (box_bl HX4.out hb)
                    have HBb := Lib.hid hb
                    clear hok hb
                    obtain ⟨⟨b0, b1, b2, b3, b4⟩, g0, g1⟩ := HBX.out _ HB5.out
                    by_cases hlt1 : k < 0
                    · exact absurd hlt1 (Nat.not_lt_zero k)
                    · obtain rfl : k = 0 := by omega
                      have hnlt : ¬ ((0 : Nat) : Int) < ((0 : Nat) : Int) := by omega
                      have HR2 : Hid (∀ h : 0 < s.hd.length, R2 s (0) h) := Lib.hid fun _ => HOKX.out HQ1.out HQ2.out.1 HQ2.out.2 HQ4.out HQ5.out fun j hj => HOK1.out j hj hj
                      go_wp2_with fail
                      go_roundg (s.hd.length - (0 + 1))
                      case measure => omega
                      case rel => exact ⟨0 + 1, by omega, up_more HOK.out HR2.out, by go_num, rfl, HB5.out⟩
              · have hz : decide ((0 : Int) < (j : Int) + 1) = true := decide_eq_true (by omega)
                have wj1 : IntKind.i64.wrap ((j : Int) + 1 - 1) = (j : Int) := by rw [show (j : Int) + 1 - 1 = (j : Int) by omega]; exact IntWalk.i64_in _ (by omega)
                have wj2 : IntKind.i64.wrap (j : Int) = (j : Int) := IntWalk.i64_in _ (by omega)
                simp only [Int.natCast_add, Int.natCast_one] at hlti h0i h4
                have hjl : (j : Int) < (s.hd.length : Int) := by omega
                have h0j : (0 : Int) ≤ (j : Int) := by omega
                have zp := HP2.out (by omega)
                have HF4' := Lib.hid (HF4.out (by omega))
                have HYE : Hid (s.hd[j + 1 - 1]'(by omega) = s.hd[j]'(by omega)) := Lib.hid rfl
                simp only [Nat.add_sub_cancel] at zp HF4' HOKX
                generalize hyj : s.hd[j] = y at *
                clear hyj HP2 HF4
                by_cases hp : x.tag ≤ y.tag
                case pos =>
                  as_aux_lemma =>
                    have HR := Lib.hid (HF4'.out hp)
                    have c4 : decide (x.tag ≤ y.tag) = true := decide_eq_true hp
                    clear hp
                    (refine wp_region_quiet_below (by assumption) (by kernel_rfl) ?_; (try dsimp only [List.append]); (repeat (go_big_quiet_step (first | (go_at_call 75; with_reducible exact Calls.below_of (HM.out _)) | (go_at_call 67; with_reducible exact Calls.below_of (HLS.out _))))); refine wpQuiet_nil ?_; intro _ hw'; obtain ⟨wq, hw''⟩ := hw'; subst hw''; have HBQ := Lib.hid wq.hb)
                    go_wp2_with fail
                    go_ret
                    exact ⟨by rw [HR.out]; rfl, HB0.out.trans ((HB2.out.trans (HBQ.out.mono HB2.out.size)).mono HB0.out.size)⟩
                have c4 : decide (x.tag ≤ y.tag) = false := decide_eq_false hp
                have HQ4 : Hid (0 < j + 1 → ¬ x.tag ≤ y.tag) := Lib.hid fun _ => hp
                clear hp
                by_cases h5 : lastF s.ms x.m.pub x.m.key < x.m.seq
                case pos =>
                  as_aux_lemma =>
                    have HR := Lib.hid (HF5.out h5)
                    have c5 : decide (lastF s.ms x.m.pub x.m.key < x.m.seq) = true := decide_eq_true h5
                    clear h5
                    (refine wp_region_quiet_below (by assumption) (by kernel_rfl) ?_; (try dsimp only [List.append]); (repeat (go_big_quiet_step (first | (go_at_call 75; with_reducible exact Calls.below_of (HM.out _)) | (go_at_call 67; with_reducible exact Calls.below_of (HLS.out _))))); refine wpQuiet_nil ?_; intro _ hw'; obtain ⟨wq, hw''⟩ := hw'; subst hw''; have HBQ := Lib.hid wq.hb)
                    go_wp2_with fail
                    go_ret
                    exact ⟨by rw [HR.out]; rfl, HB0.out.trans ((HB2.out.trans (HBQ.out.mono HB2.out.size)).mono HB0.out.size)⟩
                have c5 : decide (lastF s.ms x.m.pub x.m.key < x.m.seq) = false := decide_eq_false h5
                have HQ5 := Lib.hid h5
                clear h5
                (refine wp_region_quiet_below (by assumption) (by kernel_rfl) ?_; (try dsimp only [List.append]); (repeat (go_big_quiet_step (first | (go_at_call 75; with_reducible exact Calls.below_of (HM.out _)) | (go_at_call 67; with_reducible exact Calls.below_of (HLS.out _))))); refine wpQuiet_nil ?_; intro _ hw'; obtain ⟨wq, hw''⟩ := hw'; subst hw''; have HBQ := Lib.hid wq.hb)
                go_wp2_with fail
                have HB4 := Lib.hid (HB2.out.trans (HBQ.out.mono HB2.out.size))
                have HX4 := Lib.hid (box_bl HX2.out HBQ.out)
                clear HX2 HBQ HLS HM HB3 z0 z1 z2 z3 z4 z5 y0 y1 y2 y3 y4
                obtain ⟨W4, hW4⟩ : ∃ W4, W4 = wq.wx := ⟨_, rfl⟩
                rw [← hW4] at HB4 HX4 ⊢
                clear hW4
                go_loopg [8] (j + 1) (upRel (fun k => ∀ h : k < j + 1, ¬ s.hd[k].m.key = x.m.key) (j + 1) W4)
                case atStart => exact ⟨0, Nat.zero_le _, fun j h => by omega, rfl, (by first | rfl | simp), Below.refl _ _⟩
                case round =>
                  as_aux_lemma =>
                    obtain ⟨k, hki, hok, rfl, rfl, hb⟩ := hrel
                    have HOK1 := Lib.hid hok
                    have HB5 := Lib.hid (HB4.out.trans (hb.mono HB4.out.size))
                    have HX5 := Lib.hid (box_bl HX4.out hb)
                    have HBb := Lib.hid hb
                    clear hok hb
                    obtain ⟨⟨b0, b1, b2, b3, b4⟩, g0, g1⟩ := HBX.out _ HB5.out
                    by_cases hlt1 : k < j + 1
                    · have hlti1 : (k : Int) < ((j + 1 : Nat) : Int) := by omega
                      have hltl1 : (k : Int) < (s.hd.length : Int) := by omega
                      have h0k : (0 : Int) ≤ (k : Int) := by omega
                      have h5 : IntKind.i64.wrap ((k : Int) + 1) = (k : Int) + 1 := IntWalk.i64_in _ (by omega)
                      have hpu : (k : Int) < ((j + 1 : Nat) : Int) := hlti1
                      try simp only [Int.natCast_add, Int.natCast_one] at hlti1
                      obtain ⟨b', o', hma, d0, d1, d2, d3, d4, d5⟩ := HdsAt.get (HS1.out.below _ _ _ _ _ _ HB5.out).hd k (by omega)
                      obtain ⟨rfl, rfl⟩ : b = b' ∧ o = o' := by injection hma with he; injection he with e1 e2; exact ⟨e1, e2⟩
                      obtain ⟨⟨x0, x1, x2, x3, x4, x5⟩, -⟩ := box6 HX5.out
                      obtain ⟨v0, v1, v2⟩ := box_lt HX5.out
                      have HKN := Lib.hid (fun (h : ¬ s.hd[k].m.key = x.m.key) => up_more (ok := fun k => ∀ h : k < j + 1, ¬ s.hd[k].m.key = x.m.key) HOK1.out (show ∀ _ : k < j + 1, ¬ s.hd[k].m.key = x.m.key from fun _ => h))
                      have HKY := Lib.hid (HF6.out k hlt1)
                      generalize hxk : s.hd[k] = xk at *
                      clear hxk hma
                      by_cases q2 : xk.m.key = x.m.key
                      · have f2 : (xk.m.key == x.m.key) = true := by simpa using q2
                        have HR := Lib.hid (HKY.out q2)
                        clear q2 HKY HKN
                        go_wp2_with fail
                        go_quiet (fail)
                        go_wp2_with fail
                        go_ret
                        exact ⟨by rw [HR.out]; rfl, HB0.out.trans (Below.drewN (HB5.out.mono HB0.out.size) _)⟩
                      · have f2 : (xk.m.key == x.m.key) = false := by simpa using q2
                        have HR := Lib.hid (HKN.out q2)
                        clear q2 HKY HKN
                        go_wp2_with fail
                        go_quiet (fail)
                        go_wp2_with fail
                        go_roundg (j + 1 - (k + 1))
                        case measure => omega
                        case rel => exact ⟨k + 1, by omega, HR.out, by go_num, rfl, Below.drewN HBb.out _⟩
                    · obtain rfl : k = j + 1 := by omega
                      have hnlt : ¬ ((j + 1 : Nat) : Int) < ((j + 1 : Nat) : Int) := by omega
                      have HR2 : Hid (∀ h : j + 1 < s.hd.length, R2 s (j + 1) h) := Lib.hid fun _ => HOKX.out HQ1.out HQ2.out.1 HQ2.out.2 HQ4.out HQ5.out fun j hj => HOK1.out j hj hj
                      go_wp2_with fail
                      go_roundg (s.hd.length - (j + 1 + 1))
                      case measure => omega
                      case rel => exact ⟨j + 1 + 1, by omega, up_more HOK.out HR2.out, by go_num, rfl, HB5.out⟩
            · obtain rfl : i = s.hd.length := by omega
              have HOH : Hid (∀ i h, R2 s i h) := Lib.hid fun i h => HOK.out i h h
              obtain ⟨⟨b0, b1, b2, b3, b4⟩, g0, g1⟩ := HBX.out _ HB.out
              go_wp2_with fail
              clear b0 b1 b2 b3 b4 g0 g1 HOK hlt hi
              have HBs := Lib.hid HB.out
              clear HB
              go_loopg [9] s.rd.length (upRel (fun i => ∀ h : i < s.rd.length, R3 s i h) s.rd.length W)
              case atStart => exact ⟨0, Nat.zero_le _, fun j h => by omega, rfl, rfl, HBs.out⟩
              case round =>
                as_aux_lemma =>
                  obtain ⟨i, hi, hok, rfl, rfl, hb⟩ := hrel
                  have HOK := Lib.hid hok
                  have HB := Lib.hid hb
                  clear hok hb HBs
                  by_cases hlt : i < s.rd.length
                  · have h4 : IntKind.i64.wrap ((i : Int) + 1) = (i : Int) + 1 := IntWalk.i64_in _ (by omega)
                    have hlti : (i : Int) < (s.rd.length : Int) := by omega
                    have h0i : (0 : Int) ≤ (i : Int) := by omega
                    obtain ⟨⟨b0, b1, b2, b3, b4⟩, g0, g1⟩ := HBX.out _ HB.out
                    have HSr := Lib.hid (HS1.out.below _ _ _ _ _ _ HB.out)
                    obtain ⟨b, o, hra, d0, d1, d2, d3, d4⟩ := MgsAt.get HSr.out.rd i hlt
                    subst hra
                    obtain ⟨t1, t2, t3⟩ := one_box (w := wr) (.cells #[.int .i64 s.rd[i].pub, .int .i64 s.rd[i].seq, .string ⟨s.rd[i].key.toArray⟩, .string ⟨s.rd[i].body.toArray⟩, .bool s.rd[i].again] 35)
                    have HB2 := Lib.hid (HB.out.trans (t2.mono HB.out.size))
                    have HF1 : Hid (¬ MayMg s.rd[i] → decide (MaySd s) = false) := Lib.hid fun h => decide_eq_false fun g => h (((rmay_is s).1 g).2.2.2.2.2.2 i hlt).1
                    have HF5 : Hid (lastF s.ms s.rd[i].pub s.rd[i].key < s.rd[i].seq → decide (MaySd s) = false) := Lib.hid fun h => decide_eq_false fun g => by have := (((rmay_is s).1 g).2.2.2.2.2.2 i hlt).2.1; omega
                    have HF6 : Hid (∀ k (hk : k < i), s.rd[k].pub = s.rd[i].pub → s.rd[k].key = s.rd[i].key → s.rd[i].seq ≤ s.rd[k].seq → decide (MaySd s) = false) := Lib.hid fun k hk h1 h2 h3 => decide_eq_false fun g => (((rmay_is s).1 g).2.2.2.2.2.2 i hlt).2.2.1 k hk ⟨h1, h2, h3⟩
                    have HF7 : Hid (∀ k (hk : k < s.hd.length), s.hd[k].m.pub = s.rd[i].pub → s.hd[k].m.key = s.rd[i].key → s.rd[i].seq ≤ s.hd[k].m.seq → decide (MaySd s) = false) := Lib.hid fun k hk h1 h2 h3 => decide_eq_false fun g => (((rmay_is s).1 g).2.2.2.2.2.2 i hlt).2.2.2 k hk ⟨h1, h2, h3⟩
                    have HOKX : Hid (MayMg s.rd[i] → ¬ lastF s.ms s.rd[i].pub s.rd[i].key < s.rd[i].seq → (∀ k (hk : k < i), ¬ (s.rd[k].pub = s.rd[i].pub ∧ s.rd[k].key = s.rd[i].key ∧ s.rd[i].seq ≤ s.rd[k].seq)) → (∀ k (hk : k < s.hd.length), ¬ (s.hd[k].m.pub = s.rd[i].pub ∧ s.hd[k].m.key = s.rd[i].key ∧ s.rd[i].seq ≤ s.hd[k].m.seq)) → R3 s i hlt) := Lib.hid fun h1 h2 h3 h4 => ⟨h1, by omega, h3, h4⟩
                    generalize hxi : s.rd[i] = x at *
                    clear hxi
                    go_wp2_with fail
                    obtain ⟨W2, hW2⟩ : ∃ W2, W2 = wr.alloc (.cells #[.int .i64 x.pub, .int .i64 x.seq, .string ⟨x.key.toArray⟩, .string ⟨x.body.toArray⟩, .bool x.again] 35) := ⟨_, rfl⟩
                    rw [← hW2] at t1 t2 HB2 ⊢
                    have hb6 := box5 t1
                    obtain ⟨⟨x0, x1, x2, x3, x4⟩, -⟩ := hb6
                    have z0 := fun p : Und W2 => cell_und x0 p
                    have z1 := fun p : Und W2 => cell_und x1 p
                    have z2 := fun p : Und W2 => cell_und x2 p
                    have z3 := fun p : Und W2 => cell_und x3 p
                    have z4 := fun p : Und W2 => cell_und x4 p
                    have y0 := fun p : Und W2 => (HBX.out _ (HB2.out.trans (p.hb.mono HB2.out.size))).1.1
                    have y1 := fun p : Und W2 => (HBX.out _ (HB2.out.trans (p.hb.mono HB2.out.size))).1.2.1
                    have y2 := fun p : Und W2 => (HBX.out _ (HB2.out.trans (p.hb.mono HB2.out.size))).1.2.2.1
                    have y3 := fun p : Und W2 => (HBX.out _ (HB2.out.trans (p.hb.mono HB2.out.size))).1.2.2.2.1
                    have y4 := fun p : Und W2 => (HBX.out _ (HB2.out.trans (p.hb.mono HB2.out.size))).1.2.2.2.2
                    have HX2 := Lib.hid t1
                    have HM := Lib.hid fun p : Und W2 => (rmayMsg_any x p.wx).mono fun e w' (h : e = .returned (.bool (decide (MayMg x))) ∧ Grew p.wx w') => And.intro h.1 h.2.below
                    have HLS := Lib.hid fun p : Und W2 => rlast_any s _ _ _ _ _ _ x.pub x.key p.wx (HS1.out.below _ _ _ _ _ _ (HB2.out.trans (p.hb.mono HB2.out.size)))
                    have mixed : Try.prog.follows .mixedOrders = true := by kernel_rfl
                    clear x0 x1 x2 x3 x4 t1 t2 hW2 b0 b1 b2 b3 b4 g0 g1 d0 d1 d2 d3 d4 t3
                    by_cases h1 : MayMg x
                    case neg =>
                      as_aux_lemma =>
                        have HR := Lib.hid (HF1.out h1)
                        rw [decide_eq_false h1] at HM
                        clear h1
                        (refine wp_region_quiet_below (by assumption) (by kernel_rfl) ?_; (try dsimp only [List.append]); (repeat (go_big_quiet_step (first | (go_at_call 75; with_reducible exact Calls.below_of (HM.out _)) | (go_at_call 67; with_reducible exact Calls.below_of (HLS.out _))))); refine wpQuiet_nil ?_; intro _ hw'; obtain ⟨wq, hw''⟩ := hw'; subst hw''; have HBQ := Lib.hid wq.hb)
                        go_wp2_with fail
                        go_ret
                        exact ⟨by rw [HR.out]; rfl, HB0.out.trans ((HB2.out.trans (HBQ.out.mono HB2.out.size)).mono HB0.out.size)⟩
                    rw [decide_eq_true h1] at HM
                    have HQ1 := Lib.hid h1
                    clear h1
                    by_cases h5 : lastF s.ms x.pub x.key < x.seq
                    case pos =>
                      as_aux_lemma =>
                        have HR := Lib.hid (HF5.out h5)
                        have c5 : decide (lastF s.ms x.pub x.key < x.seq) = true := decide_eq_true h5
                        clear h5
                        (refine wp_region_quiet_below (by assumption) (by kernel_rfl) ?_; (try dsimp only [List.append]); (repeat (go_big_quiet_step (first | (go_at_call 75; with_reducible exact Calls.below_of (HM.out _)) | (go_at_call 67; with_reducible exact Calls.below_of (HLS.out _))))); refine wpQuiet_nil ?_; intro _ hw'; obtain ⟨wq, hw''⟩ := hw'; subst hw''; have HBQ := Lib.hid wq.hb)
                        go_wp2_with fail
                        go_ret
                        exact ⟨by rw [HR.out]; rfl, HB0.out.trans ((HB2.out.trans (HBQ.out.mono HB2.out.size)).mono HB0.out.size)⟩
                    have c5 : decide (lastF s.ms x.pub x.key < x.seq) = false := decide_eq_false h5
                    have HQ5 := Lib.hid h5
                    clear h5
                    (refine wp_region_quiet_below (by assumption) (by kernel_rfl) ?_; (try dsimp only [List.append]); (repeat (go_big_quiet_step (first | (go_at_call 75; with_reducible exact Calls.below_of (HM.out _)) | (go_at_call 67; with_reducible exact Calls.below_of (HLS.out _))))); refine wpQuiet_nil ?_; intro _ hw'; obtain ⟨wq, hw''⟩ := hw'; subst hw''; have HBQ := Lib.hid wq.hb)
                    go_wp2_with fail
                    have HB4 := Lib.hid (HB2.out.trans (HBQ.out.mono HB2.out.size))
                    have HX4 := Lib.hid (box_bl HX2.out HBQ.out)
                    clear HX2 HBQ HLS HM z0 z1 z2 z3 z4 y0 y1 y2 y3 y4 c5
                    obtain ⟨W4, hW4⟩ : ∃ W4, W4 = wq.wx := ⟨_, rfl⟩
                    rw [← hW4] at HB4 HX4 ⊢
                    clear hW4
                    have HEND : Hid (∀ wx : World, Below W4.heap.size W4 wx → Below W.heap.size W wx) := Lib.hid fun wx h => HB4.out.trans (h.mono HB4.out.size)
                    go_loopg [11] i (upRel (fun k => ∀ h : k < i, ¬ (s.rd[k].pub = x.pub ∧ s.rd[k].key = x.key ∧ x.seq ≤ s.rd[k].seq)) i W4)
                    case atStart => exact ⟨0, Nat.zero_le _, fun j h => by omega, rfl, rfl, Below.refl _ _⟩
                    case round =>
                      as_aux_lemma =>
                        obtain ⟨k, hki, hok, rfl, rfl, hb⟩ := hrel
                        have HOK1 := Lib.hid hok
                        have HB5 := Lib.hid (HEND.out _ hb)
                        have HX5 := Lib.hid (box_bl HX4.out hb)
                        have HBb := Lib.hid hb
                        clear hok hb
                        obtain ⟨⟨b0, b1, b2, b3, b4⟩, g0, g1⟩ := HBX.out _ HB5.out
                        by_cases hlt1 : k < i
                        · have hlti1 : (k : Int) < ((i : Nat) : Int) := by omega
                          have hltl1 : (k : Int) < (s.rd.length : Int) := by omega
                          have h0k : (0 : Int) ≤ (k : Int) := by omega
                          have h5 : IntKind.i64.wrap ((k : Int) + 1) = (k : Int) + 1 := IntWalk.i64_in _ (by omega)
                          obtain ⟨b', o', hma, d0, d1, d2, d3, d4⟩ := MgsAt.get (HS1.out.below _ _ _ _ _ _ HB5.out).rd k (by omega)
                          obtain ⟨rfl, rfl⟩ : b = b' ∧ o = o' := by injection hma with he; injection he with e1 e2; exact ⟨e1, e2⟩
                          clear hma
                          obtain ⟨⟨x0, x1, x2, x3, x4⟩, -⟩ := box5 HX5.out
                          obtain ⟨v0, v1, v2⟩ := box_lt HX5.out
                          have HKN := Lib.hid (fun (h : ¬ (s.rd[k].pub = x.pub ∧ s.rd[k].key = x.key ∧ x.seq ≤ s.rd[k].seq)) => up_more (ok := fun k => ∀ h : k < i, ¬ (s.rd[k].pub = x.pub ∧ s.rd[k].key = x.key ∧ x.seq ≤ s.rd[k].seq)) HOK1.out (show ∀ _ : k < i, ¬ (s.rd[k].pub = x.pub ∧ s.rd[k].key = x.key ∧ x.seq ≤ s.rd[k].seq) from fun _ => h))
                          have HKY := Lib.hid (HF6.out k hlt1)
                          generalize hxk : s.rd[k] = xk at *
                          clear hxk
                          by_cases q1 : xk.pub = x.pub
                          · have f1 : (xk.pub == x.pub) = true := by simpa using q1
                            by_cases q2 : xk.key = x.key
                            · have f2 : (xk.key == x.key) = true := by simpa using q2
                              by_cases q3 : x.seq ≤ xk.seq
                              · have f3 : decide (x.seq ≤ xk.seq) = true := decide_eq_true q3
                                have HR := Lib.hid (HKY.out q1 q2 q3)
                                clear q1 q2 q3 HKY HKN
                                go_wp2_with fail
                                go_quiet (fail)
                                go_wp2_with fail
                                go_ret
                                exact ⟨by rw [HR.out]; rfl, HB0.out.trans (Below.drewN (HB5.out.mono HB0.out.size) _)⟩
                              · have f3 : decide (x.seq ≤ xk.seq) = false := decide_eq_false q3
                                have HR := Lib.hid (HKN.out fun h => q3 h.2.2)
                                clear q1 q2 q3 HKY HKN
                                go_wp2_with fail
                                go_quiet (fail)
                                go_wp2_with fail
                                go_roundg (i - (k + 1))
                                case measure => omega
                                case rel => exact ⟨k + 1, by omega, HR.out, by go_num, rfl, Below.drewN HBb.out _⟩
                            · have f2 : (xk.key == x.key) = false := by simpa using q2
                              have HR := Lib.hid (HKN.out fun h => q2 h.2.1)
                              clear q1 q2 HKY HKN
                              go_wp2_with fail
                              go_quiet (fail)
                              go_wp2_with fail
                              go_roundg (i - (k + 1))
                              case measure => omega
                              case rel => exact ⟨k + 1, by omega, HR.out, by go_num, rfl, Below.drewN HBb.out _⟩
                          · have f1 : (xk.pub == x.pub) = false := by simpa using q1
                            have HR := Lib.hid (HKN.out fun h => q1 h.1)
                            clear q1 HKY HKN
                            go_wp2_with fail
                            go_quiet (fail)
                            go_wp2_with fail
                            go_roundg (i - (k + 1))
                            case measure => omega
                            case rel => exact ⟨k + 1, by omega, HR.out, by go_num, rfl, Below.drewN HBb.out _⟩
                        · obtain rfl : k = i := by omega
                          have hnlt : ¬ (k : Int) < (k : Int) := by omega
                          have HQ6 : Hid (∀ j (hj : j < k), ¬ (s.rd[j].pub = x.pub ∧ s.rd[j].key = x.key ∧ x.seq ≤ s.rd[j].seq)) := Lib.hid fun j hj => HOK1.out j hj hj
                          go_wp2_with fail
                          clear b0 b1 b2 b3 b4 g0 g1 HX4 HOK1 HF6 HEND hnlt hlt1 hki
                          obtain ⟨W5, hW5⟩ : ∃ W5, W5 = wr := ⟨_, rfl⟩
                          rw [← hW5] at HB5 HX5 HBb ⊢
                          have HX4 := Lib.hid HX5.out
                          have HEND : Hid (∀ wx : World, Below W5.heap.size W5 wx → Below W.heap.size W wx) := Lib.hid fun wx h => HB5.out.trans (h.mono HB5.out.size)
                          clear HX5 HB5 HBb hW5
                          go_loopg [12] s.hd.length (upRel (fun k => ∀ h : k < s.hd.length, ¬ (s.hd[k].m.pub = x.pub ∧ s.hd[k].m.key = x.key ∧ x.seq ≤ s.hd[k].m.seq)) s.hd.length W5)
                          case atStart => exact ⟨0, Nat.zero_le _, fun j h => by omega, rfl, rfl, Below.refl _ _⟩
                          case round =>
                            as_aux_lemma =>
                              obtain ⟨i0, hki, hok, rfl, rfl, hb⟩ := hrel
                              have HOK1 := Lib.hid hok
                              have HB5 := Lib.hid (HEND.out _ hb)
                              have HX5 := Lib.hid (box_bl HX4.out hb)
                              have HBb := Lib.hid hb
                              clear hok hb
                              obtain ⟨⟨b0, b1, b2, b3, b4⟩, g0, g1⟩ := HBX.out _ HB5.out
                              by_cases hlt1 : i0 < s.hd.length
                              · have hlti1 : (i0 : Int) < ((s.hd.length : Nat) : Int) := by omega
                                have hltl1 : (i0 : Int) < (s.hd.length : Int) := by omega
                                have h0k : (0 : Int) ≤ (i0 : Int) := by omega
                                have h5 : IntKind.i64.wrap ((i0 : Int) + 1) = (i0 : Int) + 1 := IntWalk.i64_in _ (by omega)
                                obtain ⟨b', o', hma, d0, d1, d2, d3, d4, d5⟩ := HdsAt.get (HS1.out.below _ _ _ _ _ _ HB5.out).hd i0 (by omega)
                                subst hma
                                obtain ⟨⟨x0, x1, x2, x3, x4⟩, -⟩ := box5 HX5.out
                                obtain ⟨v0, v1, v2⟩ := box_lt HX5.out
                                have HKN := Lib.hid (fun (h : ¬ (s.hd[i0].m.pub = x.pub ∧ s.hd[i0].m.key = x.key ∧ x.seq ≤ s.hd[i0].m.seq)) => up_more (ok := fun i0 => ∀ h : i0 < s.hd.length, ¬ (s.hd[i0].m.pub = x.pub ∧ s.hd[i0].m.key = x.key ∧ x.seq ≤ s.hd[i0].m.seq)) HOK1.out (show ∀ _ : i0 < s.hd.length, ¬ (s.hd[i0].m.pub = x.pub ∧ s.hd[i0].m.key = x.key ∧ x.seq ≤ s.hd[i0].m.seq) from fun _ => h))
                                have HKY := Lib.hid (HF7.out i0 hlt1)
                                generalize hxk : s.hd[i0] = xk at *
                                clear hxk
                                by_cases q1 : xk.m.pub = x.pub
                                · have f1 : (xk.m.pub == x.pub) = true := by simpa using q1
                                  by_cases q2 : xk.m.key = x.key
                                  · have f2 : (xk.m.key == x.key) = true := by simpa using q2
                                    by_cases q3 : x.seq ≤ xk.m.seq
                                    · have f3 : decide (x.seq ≤ xk.m.seq) = true := decide_eq_true q3
                                      have HR := Lib.hid (HKY.out q1 q2 q3)
                                      clear q1 q2 q3 HKY HKN
                                      go_wp2_with fail
                                      go_quiet (fail)
                                      go_wp2_with fail
                                      go_ret
                                      exact ⟨by rw [HR.out]; rfl, HB0.out.trans (Below.drewN (HB5.out.mono HB0.out.size) _)⟩
                                    · have f3 : decide (x.seq ≤ xk.m.seq) = false := decide_eq_false q3
                                      have HR := Lib.hid (HKN.out fun h => q3 h.2.2)
                                      clear q1 q2 q3 HKY HKN
                                      go_wp2_with fail
                                      go_quiet (fail)
                                      go_wp2_with fail
                                      go_roundg (s.hd.length - (i0 + 1))
                                      case measure => omega
                                      case rel => exact ⟨i0 + 1, by omega, HR.out, by go_num, rfl, Below.drewN HBb.out _⟩
                                  · have f2 : (xk.m.key == x.key) = false := by simpa using q2
                                    have HR := Lib.hid (HKN.out fun h => q2 h.2.1)
                                    clear q1 q2 HKY HKN
                                    go_wp2_with fail
                                    go_quiet (fail)
                                    go_wp2_with fail
                                    go_roundg (s.hd.length - (i0 + 1))
                                    case measure => omega
                                    case rel => exact ⟨i0 + 1, by omega, HR.out, by go_num, rfl, Below.drewN HBb.out _⟩
                                · have f1 : (xk.m.pub == x.pub) = false := by simpa using q1
                                  have HR := Lib.hid (HKN.out fun h => q1 h.1)
                                  clear q1 HKY HKN
                                  go_wp2_with fail
                                  go_quiet (fail)
                                  go_wp2_with fail
                                  go_roundg (s.hd.length - (i0 + 1))
                                  case measure => omega
                                  case rel => exact ⟨i0 + 1, by omega, HR.out, by go_num, rfl, Below.drewN HBb.out _⟩
                              · obtain rfl : i0 = s.hd.length := by omega
                                have hnlt : ¬ (s.hd.length : Int) < (s.hd.length : Int) := by omega
                                have HR2 : Hid (∀ h : k < s.rd.length, R3 s k h) := Lib.hid fun _ => HOKX.out HQ1.out HQ5.out HQ6.out fun j hj => HOK1.out j hj hj
                                go_wp2_with fail
                                go_roundg (s.rd.length - (k + 1))
                                case measure => omega
                                case rel => exact ⟨k + 1, by omega, up_more HOK.out HR2.out, by go_num, rfl, HB5.out⟩
                  · obtain rfl : i = s.rd.length := by omega
                    obtain ⟨⟨b0, b1, b2, b3, b4⟩, g0, g1⟩ := HBX.out _ HB.out
                    have HR : Hid (decide (MaySd s) = true) := Lib.hid (decide_eq_true ((rmay_is s).2 ⟨HL.out.1, HL.out.2.1, HL.out.2.2.1, HL.out.2.2.2, HOM.out, HOH.out, fun i h => HOK.out i h h⟩))
                    go_wp2_with fail
                    go_ret
                    exact ⟨by rw [HR.out]; rfl, HB0.out.trans (HB.out.mono HB0.out.size)⟩

end Go.Proofs.Ythohjcfpobeplaa.Sh
