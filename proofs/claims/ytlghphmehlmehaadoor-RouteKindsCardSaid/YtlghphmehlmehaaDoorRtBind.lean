/-
  route.Bind, walked.
-/
import Derived.Test.YtlghphmehlmehaaDoorRtDec2
namespace Go.Proofs.YtlghphmehlmehaaDoor.Rt
open Go.RowKit Top
set_option linter.unusedVariables false

def BindQ (x : List Ex) (l : List Bd) (b : Bd) (w : World) (r : Ending) (w' : World) : Prop :=
  Below w.heap.size w w' ∧ ∃ v y c, r = .returned (.tuple #[v, .int .i64 c]) ∧ BindR x l b y c ∧ OwnB w' w.heap.size v y

theorem OwnB.may {w : World} {base g n cap : Nat} {l : List Bd} (hn : n = l.length) (h : OwnB w base (.slice (some ⟨g, 0, none⟩) n cap) l) {c : Option Addr} {cc : Nat} {x : List Ex} (hx : XsAt w c cc x) :
    Calls Tryd.prog 8 #[.slice c x.length cc, .slice (some ⟨g, 0, none⟩) n cap] w fun e w' => e = .returned (.bool (decide (MayR x l))) ∧ Below w.heap.size w w' := by
  subst hn
  obtain ⟨a', c', he, hat⟩ := OwnB.at h
  injection he with e1 _ e3
  subst e1 e3
  exact mayR_any _ _ _ _ _ _ w hx hat

set_option maxRecDepth 100000 in
set_option maxHeartbeats 1000000 in
theorem bind_any (a : Option Addr) (ac : Nat) (x : List Ex) (c : Option Addr) (cc : Nat) (l : List Bd) (b : Bd) (hl9 : l.length ≤ 100000) (w : World) (hx : XsAt w a ac x) (hl : BsAt w c cc l) :
    Calls Tryd.prog 12 #[.slice a x.length ac, .slice c l.length cc, .agg #[.string ⟨b.ex.toArray⟩, .string ⟨b.q.toArray⟩, .string ⟨b.key.toArray⟩, .int .i64 b.wt]] w (BindQ x l b w) := by
  have ha0 : Below w.heap.size w (w.alloc (.cells #[.string ⟨b.ex.toArray⟩, .string ⟨b.q.toArray⟩, .string ⟨b.key.toArray⟩, .int .i64 b.wt] 28)) := (Below.refl _ _).alloc (Nat.le_refl _) _
  have HCL := Lib.hid (cloneB_any c cc l (by omega) _ (hl.below ha0))
  have HA0 := Lib.hid ha0
  have HBOX := Lib.hid (boxB w b)
  have HX := Lib.hid (hx.below ha0)
  have HX0 := Lib.hid hx
  have hsz : (w.alloc (.cells #[.string ⟨b.ex.toArray⟩, .string ⟨b.q.toArray⟩, .string ⟨b.key.toArray⟩, .int .i64 b.wt] 28)).heap.size = w.heap.size + 1 := by simp
  have HSZ := Lib.hid hsz
  have wCL := Lib.hid (show ∀ Q : Ending → World → Prop, (∀ w1 va vc, Below w.heap.size w w1 → OwnB w1 w.heap.size (.slice va l.length vc) l → BsAt w1 va vc l → XsAt w1 a ac x → BoxB w1 w.heap.size b → Q (.returned (.slice va l.length vc)) w1) → Calls Tryd.prog 23 #[.slice c l.length cc] (w.alloc (.cells #[.string ⟨b.ex.toArray⟩, .string ⟨b.q.toArray⟩, .string ⟨b.key.toArray⟩, .int .i64 b.wt] 28)) Q from fun Q hQ => by
      refine HCL.out.mono ?_
      rintro e w1 ⟨v, rfl, hown, hb1⟩
      obtain ⟨va, vc, rfl, hat⟩ := OwnB.at hown
      exact hQ w1 va vc (HA0.out.trans (hb1.mono HA0.out.size)) (OwnB.mono hown (by rw [HSZ.out]; omega)) hat (HX.out.below hb1) (HBOX.out.below hb1))
  clear ha0 hx hsz hl HCL HA0 HBOX HX HSZ
  by_cases hi : fnd b.ex x = none
  · have HI := Lib.hid hi
    have hpl : pl none = -1 := rfl
    clear hi
    go_enter Tryd.func12, Tryd.ntmps12
    go_wp2_with (first | (go_at_call 23; refine wCL.out _ ?_; intro w1 va vc hb1 hown hat hx1 hbox; have HB1 := Lib.hid hb1; have HOWN := Lib.hid hown; have HX1 := Lib.hid hx1; obtain ⟨k0, k1, k2, k3⟩ := hbox; clear hb1 hown hat hx1) | (go_at_call 16; refine (find_any a ac x b.ex _ HX1.out).mono ?_; rw [HI.out]; rintro r2 w2 ⟨rfl, hb2⟩; have HB2 := Lib.hid (HB1.out.trans (hb2.mono HB1.out.size)); have HOWN2 := Lib.hid (OwnB.below1 HOWN.out hb2); clear hb2))
    go_ret2
    exact ⟨HB2.out, _, l, 404, rfl, .inl ⟨HI.out, rfl, rfl⟩, HOWN2.out⟩
  have HI := Lib.hid hi
  obtain ⟨k, hk⟩ : ∃ k, pl (fnd b.ex x) = k := ⟨_, rfl⟩
  have hk0 : ¬ k < 0 := by rw [← hk, pl_neg]; exact hi
  have hk1 : (k < 0) = False := by simpa using hk0
  have HK := Lib.hid hk
  clear hi hk
  have wFI := Lib.hid (show ∀ (w1 : World) (va : Option Addr) (vc : Nat) (Q : Ending → World → Prop), Below w.heap.size w w1 → OwnB w1 w.heap.size (.slice va l.length vc) l → BsAt w1 va vc l → XsAt w1 a ac x → BoxB w1 w.heap.size b → (∀ w2, Below w.heap.size w w2 → OwnB w2 w.heap.size (.slice va l.length vc) l → BsAt w2 va vc l → XsAt w2 a ac x → BoxB w2 w.heap.size b → Q (.returned (.int .i64 k)) w2) → Calls Tryd.prog 16 #[.slice a x.length ac, .string ⟨b.ex.toArray⟩] w1 Q from fun w1 va vc Q hb ho hat hx hbox hQ => by
      refine (find_any a ac x b.ex _ hx).mono ?_
      rw [HK.out]
      rintro e w2 ⟨rfl, hb2⟩
      exact hQ w2 (hb.trans (hb2.mono hb.size)) (OwnB.below1 ho hb2) (hat.below hb2) (hx.below hb2) (hbox.below hb2))
  obtain ⟨j, hj⟩ : ∃ j, pl (alk b l) = j := ⟨_, rfl⟩
  have wAL := Lib.hid (show ∀ (w1 : World) (va : Option Addr) (vc : Nat) (Q : Ending → World → Prop), Below w.heap.size w w1 → OwnB w1 w.heap.size (.slice va l.length vc) l → BsAt w1 va vc l → XsAt w1 a ac x → BoxB w1 w.heap.size b → (∀ w2, Below w.heap.size w w2 → OwnB w2 w.heap.size (.slice va l.length vc) l → BsAt w2 va vc l → XsAt w2 a ac x → BoxB w2 w.heap.size b → Q (.returned (.int .i64 j)) w2) → Calls Tryd.prog 24 #[.slice va l.length vc, .agg #[.string ⟨b.ex.toArray⟩, .string ⟨b.q.toArray⟩, .string ⟨b.key.toArray⟩, .int .i64 b.wt]] w1 Q from fun w1 va vc Q hb ho hat hx hbox hQ => by
      refine (alike_any va vc l b _ hat).mono ?_
      rw [hj]
      rintro e w2 ⟨rfl, hb2⟩
      exact hQ w2 (hb.trans (hb2.mono hb.size)) (OwnB.below1 ho hb2) (hat.below hb2) (hx.below hb2) (hbox.below hb2))
  cases hi : alk b l with
  | some i =>
    obtain rfl : j = (i : Int) := by rw [← hj, hi]; rfl
    have HJ := Lib.hid hi
    have hlt := alk_lt hi
    have hlti : (i : Int) < (l.length : Int) := by omega
    have h0i : (0 : Int) ≤ (i : Int) := by omega
    obtain ⟨q, hq⟩ : ∃ q, decide (l[i] = b) = q := ⟨_, rfl⟩
    have hql := bd_eql l[i] b q hq
    have HQ := Lib.hid hq
    have hst := standing_any q
    clear hi hj hq
    go_enter Tryd.func12, Tryd.ntmps12
    go_wp2_with (first | (go_at_call 23; refine wCL.out _ ?_; intro w1 va vc hb1 hown hat hx1 hbox; have HB1 := Lib.hid hb1; have HOWN := Lib.hid hown; have HAT := Lib.hid hat; have HX1 := Lib.hid hx1; have HBOX1 := Lib.hid hbox; obtain ⟨k0, k1, k2, k3⟩ := hbox; clear hb1 hown hat hx1) | (go_at_call 16; refine wFI.out w1 va vc _ HB1.out HOWN.out HAT.out HX1.out HBOX1.out ?_; intro w2 hb2 hown2 hat2 hx2 hbox2; have HB2 := Lib.hid hb2; have HOWN2 := Lib.hid hown2; have HAT2 := Lib.hid hat2; have HX2 := Lib.hid hx2; have HBOX2 := Lib.hid hbox2; obtain ⟨k0, k1, k2, k3⟩ := hbox2; clear hb2 hown2 hat2 hx2) | (go_at_call 24; refine wAL.out w2 va vc _ HB2.out HOWN2.out HAT2.out HX2.out HBOX2.out ?_; intro w3 hb3 hown3 hat3 hx3 hbox3; have HB3 := Lib.hid hb3; have HOWN3 := Lib.hid hown3; obtain ⟨k0, k1, k2, k3⟩ := hbox3; obtain ⟨xb, xo, rfl, x0, x1, x2, x3⟩ := BsAt.get hat3 i hlt; clear hb3 hown3 hat3 hx3))
    go_quiet ((go_at_call 25; exact Calls.quiet_of_same ((hst _).mono fun e w' h => ⟨h.1, h.2.symm⟩)))
    go_wp2_with fail
    go_ret2
    refine ⟨Below.drewN HB3.out _, _, l, _, rfl, .inr (.inl ⟨HI.out, i, hlt, HJ.out, rfl, ?_⟩), OwnB.below1 HOWN3.out (Below.drewN (Below.refl _ _) _)⟩
    rw [← HQ.out]
    simp [stnd]
  | none =>
    obtain rfl : j = -1 := by rw [← hj, hi]; rfl
    have HJ := Lib.hid hi
    obtain ⟨q, hq⟩ : ∃ q, decide (MayR x (l ++ [b])) = q := ⟨_, rfl⟩
    have HQ := Lib.hid hq
    clear hi hq hj
    go_enter Tryd.func12, Tryd.ntmps12
    go_wp2_with (first | (go_at_call 23; refine wCL.out _ ?_; intro w1 va vc hb1 hown hat hx1 hbox; have HB1 := Lib.hid hb1; have HOWN := Lib.hid hown; have HAT := Lib.hid hat; have HX1 := Lib.hid hx1; have HBOX1 := Lib.hid hbox; obtain ⟨k0, k1, k2, k3⟩ := hbox; clear hb1 hown hat hx1) | (go_at_call 16; refine wFI.out w1 va vc _ HB1.out HOWN.out HAT.out HX1.out HBOX1.out ?_; intro w2 hb2 hown2 hat2 hx2 hbox2; have HB2 := Lib.hid hb2; have HOWN2 := Lib.hid hown2; have HAT2 := Lib.hid hat2; have HX2 := Lib.hid hx2; have HBOX2 := Lib.hid hbox2; obtain ⟨k0, k1, k2, k3⟩ := hbox2; clear hb2 hown2 hat2 hx2) | (go_at_call 24; refine wAL.out w2 va vc _ HB2.out HOWN2.out HAT2.out HX2.out HBOX2.out ?_; intro w3 hb3 hown3 hat3 hx3 hbox3; have HB3 := Lib.hid hb3; have HOWN3 := Lib.hid hown3; have HX3 := Lib.hid hx3; obtain ⟨k0, k1, k2, k3⟩ := hbox3; clear hb3 hown3 hat3 hx3) | (at_builtin; refine put_bd b rfl (.tmp 31) (.tmp 33) rfl HOWN3.out HB3.out.size (by omega) rfl _ rfl rfl ?_; intro g4 cap4 w4 hown4 hold4 hg4; have HOWN4 := Lib.hid hown4; have HOLD4 := Lib.hid hold4; have HB4 := Lib.hid (OwnB.grown HB3.out HOWN3.out hg4 HB3.out.size); clear hown4 hold4 hg4))
    have hm := OwnB.may (by simp) HOWN4.out (HX0.out.below HB4.out)
    rw [HQ.out] at hm
    refine hm.mono ?_
    rintro r5 w5 ⟨rfl, hb5⟩
    have HB5 := Lib.hid (HB4.out.trans (hb5.mono HB4.out.size))
    have HOWN5 := Lib.hid (OwnB.below1 HOWN4.out hb5)
    have HOLD5 := Lib.hid (OwnB.below1 HOLD4.out hb5)
    have HNN : fnd b.ex x ≠ none := fun h => by rw [h] at HK; have := HK.out; simp [pl] at this; omega
    have HN := Lib.hid HNN
    clear hb5 hm HNN
    cases q
    · go_wp2_with fail
      go_ret2
      exact ⟨HB5.out, _, l, 1, rfl, .inr (.inr (.inr ⟨HN.out, HJ.out, by simpa using HQ.out, rfl, rfl⟩)), HOLD5.out⟩
    · go_wp2_with fail
      go_ret2
      exact ⟨HB5.out, _, l ++ [b], 0, rfl, .inr (.inr (.inl ⟨HN.out, HJ.out, by simpa using HQ.out, rfl, rfl⟩)), HOWN5.out⟩

end Go.Proofs.YtlghphmehlmehaaDoor.Rt
