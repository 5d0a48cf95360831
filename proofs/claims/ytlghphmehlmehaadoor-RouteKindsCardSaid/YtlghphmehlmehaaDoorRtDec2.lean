/-
  route.Declare, walked.
-/
import Derived.Test.YtlghphmehlmehaaDoorRtDecl
namespace Go.Proofs.YtlghphmehlmehaaDoor.Rt
open Go.RowKit Top
set_option linter.unusedVariables false

def DeclQ (x : List Ex) (e : Ex) (w : World) (r : Ending) (w' : World) : Prop :=
  Below w.heap.size w w' ∧ ∃ v y c, r = .returned (.tuple #[v, .int .i64 c]) ∧ DeclR x e y c ∧ OwnX w' w.heap.size v y

theorem OwnX.mono {w : World} {base base' : Nat} {v : Value} {l : List Ex} (h : OwnX w base v l) (hb : base' ≤ base) : OwnX w base' v l := own_mono h hb
theorem OwnB.mono {w : World} {base base' : Nat} {v : Value} {l : List Bd} (h : OwnB w base v l) (hb : base' ≤ base) : OwnB w base' v l := own_mono h hb
theorem OwnX.may {w : World} {base g n cap : Nat} {x : List Ex} (hn : n = x.length) (h : OwnX w base (.slice (some ⟨g, 0, none⟩) n cap) x) {c : Option Addr} {cc : Nat} {l : List Bd} (hl : BsAt w c cc l) :
    Calls Tryd.prog 8 #[.slice (some ⟨g, 0, none⟩) n cap, .slice c l.length cc] w fun e w' => e = .returned (.bool (decide (MayR x l))) ∧ Below w.heap.size w w' := by
  subst hn
  obtain ⟨a', c', he, hat⟩ := OwnX.at h
  injection he with e1 _ e3
  subst e1 e3
  exact mayR_any _ _ _ _ _ _ w hat hl
theorem OwnX.lt {w : World} {base : Nat} {v : Value} {l : List Ex} (h : OwnX w base v l) (k : Nat) (e : v.ownBlock = some k) : base ≤ k := (World.ownsRow.lt h k e).1

set_option maxRecDepth 100000 in
set_option maxHeartbeats 1000000 in
theorem declare_any (a : Option Addr) (ac : Nat) (x : List Ex) (e : Ex) (hl9 : x.length ≤ 100000) (w : World) (hx : XsAt w a ac x) :
    Calls Tryd.prog 13 #[.slice a x.length ac, .agg #[.string ⟨e.name.toArray⟩, .int .i64 e.kind]] w (DeclQ x e w) := by
  have ha0 : Below w.heap.size w (w.alloc (.cells #[.string ⟨e.name.toArray⟩, .int .i64 e.kind] 25)) := (Below.refl _ _).alloc (Nat.le_refl _) _
  have HCL := Lib.hid (cloneX_any a ac x (by omega) _ (hx.below ha0))
  have HA0 := Lib.hid ha0
  have HBOX := Lib.hid (boxX w e)
  have hsz : (w.alloc (.cells #[.string ⟨e.name.toArray⟩, .int .i64 e.kind] 25)).heap.size = w.heap.size + 1 := by simp
  have HSZ := Lib.hid hsz
  clear ha0 hx hsz
  cases hi : fnd e.name x with
  | some i =>
    have HI := Lib.hid hi
    have hlt := fnd_lt hi
    have hlti : (i : Int) < (x.length : Int) := by omega
    have h0i : (0 : Int) ≤ (i : Int) := by omega
    have hpl : pl (some i) = (i : Int) := rfl
    obtain ⟨q, hq⟩ : ∃ q, decide (x[i] = e) = q := ⟨_, rfl⟩
    have hql := ex_eql x[i] e q hq
    have HQ := Lib.hid hq
    have hst := standing_any q
    clear hi hq
    go_enter Tryd.func13, Tryd.ntmps13
    go_wp2_with (first | (go_at_call 26; refine HCL.out.mono ?_; rintro r1 w1 ⟨v, rfl, hown, hb1⟩; obtain ⟨va, vc, rfl, hat⟩ := OwnX.at hown; have HOWN := Lib.hid hown; have HAT := Lib.hid hat; have HB1 := Lib.hid hb1; have HBB := Lib.hid (HA0.out.trans (hb1.mono HA0.out.size)); obtain ⟨k0, k1⟩ := HBOX.out.below hb1; clear hown hat hb1) | (go_at_call 16; refine (find_any va vc x e.name _ HAT.out).mono ?_; rw [HI.out]; rintro r2 w2 ⟨rfl, hb2⟩; have HOWN2 := Lib.hid (OwnX.below1 HOWN.out hb2); have HAT2 := Lib.hid (HAT.out.below hb2); have HBB2 := Lib.hid (HBB.out.trans (hb2.mono HBB.out.size)); obtain ⟨k0, k1⟩ := (HBOX.out.below HB1.out).below hb2; obtain ⟨xb, xo, rfl, x0, x1⟩ := XsAt.get HAT2.out i hlt; clear hb2))
    go_quiet ((go_at_call 25; exact Calls.quiet_of_same ((hst _).mono fun e w' h => ⟨h.1, h.2.symm⟩)))
    go_wp2_with fail
    go_ret2
    have ho := OwnX.mono (base' := w.heap.size) HOWN2.out (by rw [HSZ.out]; omega)
    refine ⟨Below.drewN HBB2.out _, _, x, _, rfl, .inl ⟨i, hlt, HI.out, rfl, ?_⟩, OwnX.below1 ho (Below.drewN (Below.refl _ _) _)⟩
    rw [← HQ.out]
    simp [stnd]
  | none =>
    have HI := Lib.hid hi
    have hpl : pl none = -1 := rfl
    obtain ⟨q, hq⟩ : ∃ q, decide (MayR (x ++ [e]) []) = q := ⟨_, rfl⟩
    have HQ := Lib.hid hq
    clear hi hq
    have hx9 : (x.length : Int) + 1 ≤ 9223372036854775807 := by omega
    go_enter Tryd.func13, Tryd.ntmps13
    go_wp2_with (first | (go_at_call 26; refine HCL.out.mono ?_; rintro r1 w1 ⟨v, rfl, hown, hb1⟩; obtain ⟨va, vc, rfl, hat⟩ := OwnX.at hown; have HOWN := Lib.hid hown; have HAT := Lib.hid hat; have HB1 := Lib.hid hb1; have HBB := Lib.hid (HA0.out.trans (hb1.mono HA0.out.size)); obtain ⟨k0, k1⟩ := HBOX.out.below hb1; clear hown hat hb1) | (go_at_call 16; refine (find_any va vc x e.name _ HAT.out).mono ?_; rw [HI.out]; rintro r2 w2 ⟨rfl, hb2⟩; have HOWN2 := Lib.hid (OwnX.mono (base' := w.heap.size) (OwnX.below1 HOWN.out hb2) (by rw [HSZ.out]; omega)); have HBB2 := Lib.hid (HBB.out.trans (hb2.mono HBB.out.size)); obtain ⟨k0, k1⟩ := (HBOX.out.below HB1.out).below hb2; clear hb2) | (at_builtin; refine put_ex e rfl (.tmp 24) (.tmp 26) rfl HOWN2.out HBB2.out.size (by omega) rfl _ rfl rfl ?_; intro g4 cap4 w4 hown4 hold4 hg4; have HOWN4 := Lib.hid hown4; have HOLD4 := Lib.hid hold4; have HBB4 := Lib.hid (OwnX.grown HBB2.out HOWN2.out hg4 HBB2.out.size); clear hown4 hold4 hg4))
    have hm := OwnX.may (by simp) HOWN4.out (l := []) (RowsAt.nil 4 bdC w4 none 0 (by decide))
    rw [HQ.out] at hm
    refine hm.mono ?_
    rintro r5 w5 ⟨rfl, hb5⟩
    have HBB5 := Lib.hid (HBB4.out.trans (hb5.mono HBB4.out.size))
    have HOWN5 := Lib.hid (OwnX.below1 HOWN4.out hb5)
    have HOLD5 := Lib.hid (OwnX.below1 HOLD4.out hb5)
    clear hb5 hm
    cases q
    · go_wp2_with fail
      go_ret2
      exact ⟨HBB5.out, _, x, 1, rfl, .inr (.inr ⟨HI.out, by simpa using HQ.out, rfl, rfl⟩), HOLD5.out⟩
    · go_wp2_with fail
      go_ret2
      exact ⟨HBB5.out, _, x ++ [e], 0, rfl, .inr (.inl ⟨HI.out, by simpa using HQ.out, rfl, rfl⟩), HOWN5.out⟩

end Go.Proofs.YtlghphmehlmehaaDoor.Rt
