/-
  slices.Clone of exchanges and of bindings; route.Declare, walked.
  route.Declare, walked.
  route.Bind, walked.
-/
import Derived.Test.YtiobcgolcoocnaaGreatDoorRtMayL
import Derived.Deep.QuietTactic

namespace Go.Proofs.YtiobcgolcoocnaaGreatDoor.Rt
open Go.RowKit Top
set_option linter.unusedVariables false

theorem rows_src {α : Type} {k : Nat} {f : α → List Value} (hk : ∀ x, (f x).length = k) (h0 : 0 < k) {w : World} {x : Addr} {cap : Nat} {l : List α} (h : RowsAt k f w (some x) cap l) :
    ∀ j u, (l.flatMap f)[j]? = some u → w.cell? (x.add j) = some u := by
  by_cases hl : 0 < l.length
  · obtain ⟨b, o, he, _⟩ := h.at' hl
    injection he with he
    subst he
    exact rows_news hk h0 hl h
  · obtain rfl : l = [] := List.eq_nil_of_length_eq_zero (by omega)
    intro j u hu
    simp at hu
theorem rows_none {α : Type} {k : Nat} {f : α → List Value} {w : World} {cap : Nat} {l : List α} (h : RowsAt k f w none cap l) : l = [] := by
  by_cases hl : 0 < l.length
  · obtain ⟨b, o, he, _⟩ := h.at' hl
    cases he
  · exact List.eq_nil_of_length_eq_zero (by omega)

set_option maxRecDepth 100000 in
set_option maxHeartbeats 400000 in
theorem cloneX_any (a : Option Addr) (cap : Nat) (l : List Ex) (hl9 : l.length ≤ 1000000) (w : World) (hat : XsAt w a cap l) :
    Calls Tryz.prog 65 #[.slice a l.length cap] w fun e w' => ∃ v, e = .returned v ∧ OwnX w' w.heap.size v l ∧ Below w.heap.size w w' := by
  cases a with
  | none =>
    obtain rfl := rows_none hat
    have hnil : (binOp .eql 49 (.slice none 0 cap) (.slice none 0 0)).run Tryz.prog w = .ok (.bool true) w := Lib.run_eql_slice_nil w 49 78 none 0 cap 0 0 Tryz.underlying49
    go_enter Tryz.func65, Tryz.ntmps65
    go_wp2_with fail
    go_ret
    exact ⟨_, rfl, OwnX.nil _ _, Below.refl _ _⟩
  | some x =>
    have hb0 : Below w.heap.size w (w.alloc (.cells #[] 78)) := (Below.refl _ _).alloc (Nat.le_refl _) _
    have HB0 := Lib.hid hb0
    have HAT := Lib.hid (hat.below hb0)
    have hown : OwnX (w.alloc (.cells #[] 78)) w.heap.size (.slice (some ⟨w.heap.size, 0, none⟩) 0 0) [] := World.ownsRow_made w #[] 0 (Nat.le_refl _) (by decide) (by simp)
    have HOWN := Lib.hid hown
    clear hat hb0 hown
    have hnil : (binOp .eql 49 (.slice (some x) l.length cap) (.slice none 0 0)).run Tryz.prog w = .ok (.bool false) w := Lib.run_eql_slice_nil w 49 78 (some x) l.length cap 0 0 Tryz.underlying49
    obtain ⟨i0, hi, hz0, hz1, hz2⟩ := info_parts ex_info
    go_enter Tryz.func65, Tryz.ntmps65
    go_wp2_with (at_builtin; refine wpList_append_own_at _ rfl (.tmp 5) (.tmp 6) 49 rfl w.heap.size 78 i0 _ 2 24 Tryz.underlying49 hi hz0 hz1 hz2 rfl (by decide) _ 0 [] rfl HOWN.out x l.length cap (l.flatMap exC) rfl (flats_length exC_len l) (rows_src exC_len (by decide) HAT.out) (exC_one l) (by unfold maxLen; omega) (by omega) HB0.out.size ?_; intro v2 w2 hb2 hg2 _ _; have HB2 := Lib.hid hb2; have HBEL2 := Lib.hid (OwnX.grown HB0.out HOWN.out hg2 HB0.out.size); clear hb2 hg2)
    go_ret
    refine ⟨_, rfl, ?_, HBEL2.out⟩
    have := HB2.out
    rw [Nat.zero_add] at this
    exact this

set_option maxRecDepth 100000 in
set_option maxHeartbeats 400000 in
theorem cloneB_any (a : Option Addr) (cap : Nat) (l : List Bd) (hl9 : l.length ≤ 1000000) (w : World) (hat : BsAt w a cap l) :
    Calls Tryz.prog 68 #[.slice a l.length cap] w fun e w' => ∃ v, e = .returned v ∧ OwnB w' w.heap.size v l ∧ Below w.heap.size w w' := by
  cases a with
  | none =>
    obtain rfl := rows_none hat
    have hnil : (binOp .eql 50 (.slice none 0 cap) (.slice none 0 0)).run Tryz.prog w = .ok (.bool true) w := Lib.run_eql_slice_nil w 50 92 none 0 cap 0 0 Tryz.underlying50
    go_enter Tryz.func68, Tryz.ntmps68
    go_wp2_with fail
    go_ret
    exact ⟨_, rfl, OwnB.nil _ _, Below.refl _ _⟩
  | some x =>
    have hb0 : Below w.heap.size w (w.alloc (.cells #[] 92)) := (Below.refl _ _).alloc (Nat.le_refl _) _
    have HB0 := Lib.hid hb0
    have HAT := Lib.hid (hat.below hb0)
    have hown : OwnB (w.alloc (.cells #[] 92)) w.heap.size (.slice (some ⟨w.heap.size, 0, none⟩) 0 0) [] := World.ownsRow_made w #[] 0 (Nat.le_refl _) (by decide) (by simp)
    have HOWN := Lib.hid hown
    clear hat hb0 hown
    have hnil : (binOp .eql 50 (.slice (some x) l.length cap) (.slice none 0 0)).run Tryz.prog w = .ok (.bool false) w := Lib.run_eql_slice_nil w 50 92 (some x) l.length cap 0 0 Tryz.underlying50
    obtain ⟨i0, hi, hz0, hz1, hz2⟩ := info_parts bd_info
    go_enter Tryz.func68, Tryz.ntmps68
    go_wp2_with (at_builtin; refine wpList_append_own_at _ rfl (.tmp 5) (.tmp 6) 50 rfl w.heap.size 92 i0 _ 4 56 Tryz.underlying50 hi hz0 hz1 hz2 rfl (by decide) _ 0 [] rfl HOWN.out x l.length cap (l.flatMap bdC) rfl (flats_length bdC_len l) (rows_src bdC_len (by decide) HAT.out) (bdC_one l) (by unfold maxLen; omega) (by omega) HB0.out.size ?_; intro v2 w2 hb2 hg2 _ _; have HB2 := Lib.hid hb2; have HBEL2 := Lib.hid (OwnB.grown HB0.out HOWN.out hg2 HB0.out.size); clear hb2 hg2)
    go_ret
    refine ⟨_, rfl, ?_, HBEL2.out⟩
    have := HB2.out
    rw [Nat.zero_add] at this
    exact this

end Go.Proofs.YtiobcgolcoocnaaGreatDoor.Rt

namespace Go.Proofs.YtiobcgolcoocnaaGreatDoor.Rt
open Go.RowKit Top
set_option linter.unusedVariables false

def DeclQ (x : List Ex) (e : Ex) (w : World) (r : Ending) (w' : World) : Prop :=
  Below w.heap.size w w' ∧ ∃ v y c, r = .returned (.tuple #[v, .int .i64 c]) ∧ DeclR x e y c ∧ OwnX w' w.heap.size v y

theorem OwnX.mono {w : World} {base base' : Nat} {v : Value} {l : List Ex} (h : OwnX w base v l) (hb : base' ≤ base) : OwnX w base' v l := own_mono h hb
theorem OwnB.mono {w : World} {base base' : Nat} {v : Value} {l : List Bd} (h : OwnB w base v l) (hb : base' ≤ base) : OwnB w base' v l := own_mono h hb
theorem OwnX.may {w : World} {base g n cap : Nat} {x : List Ex} (hn : n = x.length) (h : OwnX w base (.slice (some ⟨g, 0, none⟩) n cap) x) {c : Option Addr} {cc : Nat} {l : List Bd} (hl : BsAt w c cc l) :
    Calls Tryz.prog 67 #[.slice (some ⟨g, 0, none⟩) n cap, .slice c l.length cc] w fun e w' => e = .returned (.bool (decide (MayR x l))) ∧ Below w.heap.size w w' := by
  subst hn
  obtain ⟨a', c', he, hat⟩ := OwnX.at h
  injection he with e1 _ e3
  subst e1 e3
  exact mayR_any _ _ _ _ _ _ w hat hl
theorem OwnX.lt {w : World} {base : Nat} {v : Value} {l : List Ex} (h : OwnX w base v l) (k : Nat) (e : v.ownBlock = some k) : base ≤ k := (World.ownsRow.lt h k e).1

set_option maxRecDepth 100000 in
set_option maxHeartbeats 1000000 in
theorem declare_any (a : Option Addr) (ac : Nat) (x : List Ex) (e : Ex) (hl9 : x.length ≤ 100000) (w : World) (hx : XsAt w a ac x) :
    Calls Tryz.prog 52 #[.slice a x.length ac, .agg #[.string ⟨e.name.toArray⟩, .int .i64 e.kind]] w (DeclQ x e w) := by
  have ha0 : Below w.heap.size w (w.alloc (.cells #[.string ⟨e.name.toArray⟩, .int .i64 e.kind] 78)) := (Below.refl _ _).alloc (Nat.le_refl _) _
  have HCL := Lib.hid (cloneX_any a ac x (by omega) _ (hx.below ha0))
  have HA0 := Lib.hid ha0
  have HBOX := Lib.hid (boxX w e)
  have hsz : (w.alloc (.cells #[.string ⟨e.name.toArray⟩, .int .i64 e.kind] 78)).heap.size = w.heap.size + 1 := by simp
  have HSZ := Lib.hid hsz
  clear ha0 hx hsz
  cases hi : fnd e.name x with
  | some i =>
    have HI := Lib.hid hi
    have hlt := fnd_lt hi
    have hlti : (i : Int) < (x.length : Int) := by omega
    have h0i : (0 : Int) ≤ (i : Int) := by omega
    have hpl : pl (some i) = (i : Int) := rfl
    obtain ⟨q, hq⟩ : ∃ q, decide (x[i] = e) = q := ⟨_, rfl⟩
    have hql := ex_eql x[i] e q hq
    have HQ := Lib.hid hq
    have hst := standing_any q
    clear hi hq
    go_enter Tryz.func52, Tryz.ntmps52
    go_wp2_with (first | (go_at_call 65; refine HCL.out.mono ?_; rintro r1 w1 ⟨v, rfl, hown, hb1⟩; obtain ⟨va, vc, rfl, hat⟩ := OwnX.at hown; have HOWN := Lib.hid hown; have HAT := Lib.hid hat; have HB1 := Lib.hid hb1; have HBB := Lib.hid (HA0.out.trans (hb1.mono HA0.out.size)); obtain ⟨k0, k1⟩ := HBOX.out.below hb1; clear hown hat hb1) | (go_at_call 43; refine (find_any va vc x e.name _ HAT.out).mono ?_; rw [HI.out]; rintro r2 w2 ⟨rfl, hb2⟩; have HOWN2 := Lib.hid (OwnX.below1 HOWN.out hb2); have HAT2 := Lib.hid (HAT.out.below hb2); have HBB2 := Lib.hid (HBB.out.trans (hb2.mono HBB.out.size)); obtain ⟨k0, k1⟩ := (HBOX.out.below HB1.out).below hb2; obtain ⟨xb, xo, rfl, x0, x1⟩ := XsAt.get HAT2.out i hlt; clear hb2))
    go_quiet ((go_at_call 66; exact Calls.quiet_of_same ((hst _).mono fun e w' h => ⟨h.1, h.2.symm⟩)))
    go_wp2_with fail
    go_ret2
    have ho := OwnX.mono (base' := w.heap.size) HOWN2.out (by rw [HSZ.out]; omega)
    refine ⟨Below.drewN HBB2.out _, _, x, _, rfl, .inl ⟨i, hlt, HI.out, rfl, ?_⟩, OwnX.below1 ho (Below.drewN (Below.refl _ _) _)⟩
    rw [← HQ.out]
    simp [stnd]
  | none =>
    have HI := Lib.hid hi
    have hpl : pl none = -1 := rfl
    obtain ⟨q, hq⟩ : ∃ q, decide (MayR (x ++ [e]) []) = q := ⟨_, rfl⟩
    have HQ := Lib.hid hq
    clear hi hq
    have hx9 : (x.length : Int) + 1 ≤ 9223372036854775807 := by omega
    go_enter Tryz.func52, Tryz.ntmps52
    go_wp2_with (first | (go_at_call 65; refine HCL.out.mono ?_; rintro r1 w1 ⟨v, rfl, hown, hb1⟩; obtain ⟨va, vc, rfl, hat⟩ := OwnX.at hown; have HOWN := Lib.hid hown; have HAT := Lib.hid hat; have HB1 := Lib.hid hb1; have HBB := Lib.hid (HA0.out.trans (hb1.mono HA0.out.size)); obtain ⟨k0, k1⟩ := HBOX.out.below hb1; clear hown hat hb1) | (go_at_call 43; refine (find_any va vc x e.name _ HAT.out).mono ?_; rw [HI.out]; rintro r2 w2 ⟨rfl, hb2⟩; have HOWN2 := Lib.hid (OwnX.mono (base' := w.heap.size) (OwnX.below1 HOWN.out hb2) (by rw [HSZ.out]; omega)); have HBB2 := Lib.hid (HBB.out.trans (hb2.mono HBB.out.size)); obtain ⟨k0, k1⟩ := (HBOX.out.below HB1.out).below hb2; clear hb2) | (at_builtin; refine put_ex e rfl (.tmp 24) (.tmp 26) rfl HOWN2.out HBB2.out.size (by omega) rfl _ rfl rfl ?_; intro g4 cap4 w4 hown4 hold4 hg4; have HOWN4 := Lib.hid hown4; have HOLD4 := Lib.hid hold4; have HBB4 := Lib.hid (OwnX.grown HBB2.out HOWN2.out hg4 HBB2.out.size); clear hown4 hold4 hg4))
    have hm := OwnX.may (by simp) HOWN4.out (l := []) (RowsAt.nil 4 bdC w4 none 0 (by decide))
    rw [HQ.out] at hm
    refine hm.mono ?_
    rintro r5 w5 ⟨rfl, hb5⟩
    have HBB5 := Lib.hid (HBB4.out.trans (hb5.mono HBB4.out.size))
    have HOWN5 := Lib.hid (OwnX.below1 HOWN4.out hb5)
    have HOLD5 := Lib.hid (OwnX.below1 HOLD4.out hb5)
    clear hb5 hm
    cases q
    · go_wp2_with fail
      go_ret2
      exact ⟨HBB5.out, _, x, 1, rfl, .inr (.inr ⟨HI.out, by simpa using HQ.out, rfl, rfl⟩), HOLD5.out⟩
    · go_wp2_with fail
      go_ret2
      exact ⟨HBB5.out, _, x ++ [e], 0, rfl, .inr (.inl ⟨HI.out, by simpa using HQ.out, rfl, rfl⟩), HOWN5.out⟩

end Go.Proofs.YtiobcgolcoocnaaGreatDoor.Rt

namespace Go.Proofs.YtiobcgolcoocnaaGreatDoor.Rt
open Go.RowKit Top
set_option linter.unusedVariables false

def BindQ (x : List Ex) (l : List Bd) (b : Bd) (w : World) (r : Ending) (w' : World) : Prop :=
  Below w.heap.size w w' ∧ ∃ v y c, r = .returned (.tuple #[v, .int .i64 c]) ∧ BindR x l b y c ∧ OwnB w' w.heap.size v y

theorem OwnB.may {w : World} {base g n cap : Nat} {l : List Bd} (hn : n = l.length) (h : OwnB w base (.slice (some ⟨g, 0, none⟩) n cap) l) {c : Option Addr} {cc : Nat} {x : List Ex} (hx : XsAt w c cc x) :
    Calls Tryz.prog 67 #[.slice c x.length cc, .slice (some ⟨g, 0, none⟩) n cap] w fun e w' => e = .returned (.bool (decide (MayR x l))) ∧ Below w.heap.size w w' := by
  subst hn
  obtain ⟨a', c', he, hat⟩ := OwnB.at h
  injection he with e1 _ e3
  subst e1 e3
  exact mayR_any _ _ _ _ _ _ w hx hat

set_option maxRecDepth 100000 in
set_option maxHeartbeats 1000000 in
theorem bind_any (a : Option Addr) (ac : Nat) (x : List Ex) (c : Option Addr) (cc : Nat) (l : List Bd) (b : Bd) (hl9 : l.length ≤ 100000) (w : World) (hx : XsAt w a ac x) (hl : BsAt w c cc l) :
    Calls Tryz.prog 54 #[.slice a x.length ac, .slice c l.length cc, .agg #[.string ⟨b.ex.toArray⟩, .string ⟨b.q.toArray⟩, .string ⟨b.key.toArray⟩, .int .i64 b.wt]] w (BindQ x l b w) := by
  have ha0 : Below w.heap.size w (w.alloc (.cells #[.string ⟨b.ex.toArray⟩, .string ⟨b.q.toArray⟩, .string ⟨b.key.toArray⟩, .int .i64 b.wt] 92)) := (Below.refl _ _).alloc (Nat.le_refl _) _
  have HCL := Lib.hid (cloneB_any c cc l (by omega) _ (hl.below ha0))
  have HA0 := Lib.hid ha0
  have HBOX := Lib.hid (boxB w b)
  have HX := Lib.hid (hx.below ha0)
  have HX0 := Lib.hid hx
  have hsz : (w.alloc (.cells #[.string ⟨b.ex.toArray⟩, .string ⟨b.q.toArray⟩, .string ⟨b.key.toArray⟩, .int .i64 b.wt] 92)).heap.size = w.heap.size + 1 := by simp
  have HSZ := Lib.hid hsz
  have wCL := Lib.hid (show ∀ Q : Ending → World → Prop, (∀ w1 va vc, Below w.heap.size w w1 → OwnB w1 w.heap.size (.slice va l.length vc) l → BsAt w1 va vc l → XsAt w1 a ac x → BoxB w1 w.heap.size b → Q (.returned (.slice va l.length vc)) w1) → Calls Tryz.prog 68 #[.slice c l.length cc] (w.alloc (.cells #[.string ⟨b.ex.toArray⟩, .string ⟨b.q.toArray⟩, .string ⟨b.key.toArray⟩, .int .i64 b.wt] 92)) Q from fun Q hQ => by
      refine HCL.out.mono ?_
      rintro e w1 ⟨v, rfl, hown, hb1⟩
      obtain ⟨va, vc, rfl, hat⟩ := OwnB.at hown
      exact hQ w1 va vc (HA0.out.trans (hb1.mono HA0.out.size)) (OwnB.mono hown (by rw [HSZ.out]; omega)) hat (HX.out.below hb1) (HBOX.out.below hb1))
  clear ha0 hx hsz hl HCL HA0 HBOX HX HSZ
  by_cases hi : fnd b.ex x = none
  · have HI := Lib.hid hi
    have hpl : pl none = -1 := rfl
    clear hi
    go_enter Tryz.func54, Tryz.ntmps54
    go_wp2_with (first | (go_at_call 68; refine wCL.out _ ?_; intro w1 va vc hb1 hown hat hx1 hbox; have HB1 := Lib.hid hb1; have HOWN := Lib.hid hown; have HX1 := Lib.hid hx1; obtain ⟨k0, k1, k2, k3⟩ := hbox; clear hb1 hown hat hx1) | (go_at_call 43; refine (find_any a ac x b.ex _ HX1.out).mono ?_; rw [HI.out]; rintro r2 w2 ⟨rfl, hb2⟩; have HB2 := Lib.hid (HB1.out.trans (hb2.mono HB1.out.size)); have HOWN2 := Lib.hid (OwnB.below1 HOWN.out hb2); clear hb2))
    go_ret2
    exact ⟨HB2.out, _, l, 404, rfl, .inl ⟨HI.out, rfl, rfl⟩, HOWN2.out⟩
  have HI := Lib.hid hi
  obtain ⟨k, hk⟩ : ∃ k, pl (fnd b.ex x) = k := ⟨_, rfl⟩
  have hk0 : ¬ k < 0 := by rw [← hk, pl_neg]; exact hi
  have hk1 : (k < 0) = False := by simpa using hk0
  have HK := Lib.hid hk
  clear hi hk
  have wFI := Lib.hid (show ∀ (w1 : World) (va : Option Addr) (vc : Nat) (Q : Ending → World → Prop), Below w.heap.size w w1 → OwnB w1 w.heap.size (.slice va l.length vc) l → BsAt w1 va vc l → XsAt w1 a ac x → BoxB w1 w.heap.size b → (∀ w2, Below w.heap.size w w2 → OwnB w2 w.heap.size (.slice va l.length vc) l → BsAt w2 va vc l → XsAt w2 a ac x → BoxB w2 w.heap.size b → Q (.returned (.int .i64 k)) w2) → Calls Tryz.prog 43 #[.slice a x.length ac, .string ⟨b.ex.toArray⟩] w1 Q from fun w1 va vc Q hb ho hat hx hbox hQ => by
      refine (find_any a ac x b.ex _ hx).mono ?_
      rw [HK.out]
      rintro e w2 ⟨rfl, hb2⟩
      exact hQ w2 (hb.trans (hb2.mono hb.size)) (OwnB.below1 ho hb2) (hat.below hb2) (hx.below hb2) (hbox.below hb2))
  obtain ⟨j, hj⟩ : ∃ j, pl (alk b l) = j := ⟨_, rfl⟩
  have wAL := Lib.hid (show ∀ (w1 : World) (va : Option Addr) (vc : Nat) (Q : Ending → World → Prop), Below w.heap.size w w1 → OwnB w1 w.heap.size (.slice va l.length vc) l → BsAt w1 va vc l → XsAt w1 a ac x → BoxB w1 w.heap.size b → (∀ w2, Below w.heap.size w w2 → OwnB w2 w.heap.size (.slice va l.length vc) l → BsAt w2 va vc l → XsAt w2 a ac x → BoxB w2 w.heap.size b → Q (.returned (.int .i64 j)) w2) → Calls Tryz.prog 69 #[.slice va l.length vc, .agg #[.string ⟨b.ex.toArray⟩, .string ⟨b.q.toArray⟩, .string ⟨b.key.toArray⟩, .int .i64 b.wt]] w1 Q from fun w1 va vc Q hb ho hat hx hbox hQ => by
      refine (alike_any va vc l b _ hat).mono ?_
      rw [hj]
      rintro e w2 ⟨rfl, hb2⟩
      exact hQ w2 (hb.trans (hb2.mono hb.size)) (OwnB.below1 ho hb2) (hat.below hb2) (hx.below hb2) (hbox.below hb2))
  cases hi : alk b l with
  | some i =>
    obtain rfl : j = (i : Int) := by rw [← hj, hi]; rfl
    have HJ := Lib.hid hi
    have hlt := alk_lt hi
    have hlti : (i : Int) < (l.length : Int) := by omega
    have h0i : (0 : Int) ≤ (i : Int) := by omega
    obtain ⟨q, hq⟩ : ∃ q, decide (l[i] = b) = q := ⟨_, rfl⟩
    have hql := bd_eql l[i] b q hq
    have HQ := Lib.hid hq
    have hst := standing_any q
    clear hi hj hq
    go_enter Tryz.func54, Tryz.ntmps54
    go_wp2_with (first | (go_at_call 68; refine wCL.out _ ?_; intro w1 va vc hb1 hown hat hx1 hbox; have HB1 := Lib.hid hb1; have HOWN := Lib.hid hown; have HAT := Lib.hid hat; have HX1 := Lib.hid hx1; have HBOX1 := Lib.hid hbox; obtain ⟨k0, k1, k2, k3⟩ := hbox; clear hb1 hown hat hx1) | (go_at_call 43; refine wFI.out w1 va vc _ HB1.out HOWN.out HAT.out HX1.out HBOX1.out ?_; intro w2 hb2 hown2 hat2 hx2 hbox2; have HB2 := Lib.hid hb2; have HOWN2 := Lib.hid hown2; have HAT2 := Lib.hid hat2; have HX2 := Lib.hid hx2; have HBOX2 := Lib.hid hbox2; obtain ⟨k0, k1, k2, k3⟩ := hbox2; clear hb2 hown2 hat2 hx2) | (go_at_call 69; refine wAL.out w2 va vc _ HB2.out HOWN2.out HAT2.out HX2.out HBOX2.out ?_; intro w3 hb3 hown3 hat3 hx3 hbox3; have HB3 := Lib.hid hb3; have HOWN3 := Lib.hid hown3; obtain ⟨k0, k1, k2, k3⟩ := hbox3; obtain ⟨xb, xo, rfl, x0, x1, x2, x3⟩ := BsAt.get hat3 i hlt; clear hb3 hown3 hat3 hx3))
    go_quiet ((go_at_call 66; exact Calls.quiet_of_same ((hst _).mono fun e w' h => ⟨h.1, h.2.symm⟩)))
    go_wp2_with fail
    go_ret2
    refine ⟨Below.drewN HB3.out _, _, l, _, rfl, .inr (.inl ⟨HI.out, i, hlt, HJ.out, rfl, ?_⟩), OwnB.below1 HOWN3.out (Below.drewN (Below.refl _ _) _)⟩
    rw [← HQ.out]
    simp [stnd]
  | none =>
    obtain rfl : j = -1 := by rw [← hj, hi]; rfl
    have HJ := Lib.hid hi
    obtain ⟨q, hq⟩ : ∃ q, decide (MayR x (l ++ [b])) = q := ⟨_, rfl⟩
    have HQ := Lib.hid hq
    clear hi hq hj
    go_enter Tryz.func54, Tryz.ntmps54
    go_wp2_with (first | (go_at_call 68; refine wCL.out _ ?_; intro w1 va vc hb1 hown hat hx1 hbox; have HB1 := Lib.hid hb1; have HOWN := Lib.hid hown; have HAT := Lib.hid hat; have HX1 := Lib.hid hx1; have HBOX1 := Lib.hid hbox; obtain ⟨k0, k1, k2, k3⟩ := hbox; clear hb1 hown hat hx1) | (go_at_call 43; refine wFI.out w1 va vc _ HB1.out HOWN.out HAT.out HX1.out HBOX1.out ?_; intro w2 hb2 hown2 hat2 hx2 hbox2; have HB2 := Lib.hid hb2; have HOWN2 := Lib.hid hown2; have HAT2 := Lib.hid hat2; have HX2 := Lib.hid hx2; have HBOX2 := Lib.hid hbox2; obtain ⟨k0, k1, k2, k3⟩ := hbox2; clear hb2 hown2 hat2 hx2) | (go_at_call 69; refine wAL.out w2 va vc _ HB2.out HOWN2.out HAT2.out HX2.out HBOX2.out ?_; intro w3 hb3 hown3 hat3 hx3 hbox3; have HB3 := Lib.hid hb3; have HOWN3 := Lib.hid hown3; have HX3 := Lib.hid hx3; obtain ⟨k0, k1, k2, k3⟩ := hbox3; clear hb3 hown3 hat3 hx3) | (at_builtin; refine put_bd b rfl (.tmp 31) (.tmp 33) rfl HOWN3.out HB3.out.size (by omega) rfl _ rfl rfl ?_; intro g4 cap4 w4 hown4 hold4 hg4; have HOWN4 := Lib.hid hown4; have HOLD4 := Lib.hid hold4; have HB4 := Lib.hid (OwnB.grown HB3.out HOWN3.out hg4 HB3.out.size); clear hown4 hold4 hg4))
    have hm := OwnB.may (by simp) HOWN4.out (HX0.out.below HB4.out)
    rw [HQ.out] at hm
    refine hm.mono ?_
    rintro r5 w5 ⟨rfl, hb5⟩
    have HB5 := Lib.hid (HB4.out.trans (hb5.mono HB4.out.size))
    have HOWN5 := Lib.hid (OwnB.below1 HOWN4.out hb5)
    have HOLD5 := Lib.hid (OwnB.below1 HOLD4.out hb5)
    have HNN : fnd b.ex x ≠ none := fun h => by rw [h] at HK; have := HK.out; simp [pl] at this; omega
    have HN := Lib.hid HNN
    clear hb5 hm HNN
    cases q
    · go_wp2_with fail
      go_ret2
      exact ⟨HB5.out, _, l, 1, rfl, .inr (.inr (.inr ⟨HN.out, HJ.out, by simpa using HQ.out, rfl, rfl⟩)), HOLD5.out⟩
    · go_wp2_with fail
      go_ret2
      exact ⟨HB5.out, _, l ++ [b], 0, rfl, .inr (.inr (.inl ⟨HN.out, HJ.out, by simpa using HQ.out, rfl, rfl⟩)), HOWN5.out⟩

end Go.Proofs.YtiobcgolcoocnaaGreatDoor.Rt
