/-
  ring.Owner, walked.
-/
import Derived.Test.YthohjcfpobeplaaRgMay
namespace Go.Proofs.Ythohjcfpobeplaa.Rg
open Go.RowKit
set_option linter.unusedVariables false

/-! ### Owner -/
def ownerA (l : List Ar) (p : Int) : Int := if May l then ownerF l p else -1
/-- j arcs were passed. -/
def ownerRel (l : List Ar) (p : Int) (w : World) (m : Nat) (a' : Act) (w' : World) : Prop :=
  ∃ (j : Nat) (r : List Ar) (a : Option Addr) (cap : Nat) (s : Int) (u6 u7 u8 u9 u10 u11 u12 u13 u14 u15 u16 u17 u18 u19 u20 u21 u22 u23 u24 u25 u26 u27 u28 u29 u30 u31 u32 u33 : Value), a' = { tmps := #[.slice a r.length cap, .int .u32 p, undef, undef, .int .i64 0, .int .i64 s, u6, u7, u8, u9, u10, u11, u12, u13, u14, u15, u16, u17, u18, u19, u20, u21, u22, u23, u24, u25, u26, u27, u28, u29, u30, u31, u32, u33], defers := [] } ∧
    m = r.length ∧ r = l.drop j ∧ j ≤ cntF l p ∧ s = (if h : (if j = 0 then l.length - 1 else j - 1) < l.length then l[if j = 0 then l.length - 1 else j - 1].s else -1) ∧ May l ∧ AsAt w' a cap r ∧ Drew w w'
theorem owner_passed {l : List Ar} {p : Int} (j : Nat) (h : j = cntF l p) : (if h : (if j = 0 then l.length - 1 else j - 1) < l.length then l[if j = 0 then l.length - 1 else j - 1].s else -1) = ownerF l p := by
  subst h; rfl
set_option maxRecDepth 100000 in
set_option maxHeartbeats 1000000 in
theorem owner_any (a : Option Addr) (cap : Nat) (l : List Ar) (p : Int) (w : World) (hf : AsAt w a cap l) :
    Calls Try.prog 44 #[.slice a l.length cap, .int .u32 p] w fun e w' => e = .returned (.int .i64 (ownerA l p)) ∧ Drew w w' := by
  have hm := may_any a cap l w hf
  have hcap := hf.max
  have hlen := hf.len
  unfold maxLen at hcap
  have HF := Lib.hid hf
  clear hf
  go_enter Try.func44, Try.ntmps44
  go_wp2_with fail
  refine wp_scope_ghost 0 (ownerRel l p w) rfl ?_ ?_
  · intro H hb'
    have HBK := Lib.hid hb'
    clear hb'
    by_cases h1 : May l
    case neg =>
      rw [decide_eq_false h1] at hm
      have HR : Hid (ownerA l p = -1) := Lib.hid (if_neg h1)
      clear h1
      go_wp2_with (go_at_call 43; refine hm.mono ?_; rintro e w1 ⟨rfl, hd⟩; have HD := Lib.hid hd; clear hd)
      simp only [Exit.jump]
      go_ret
      exact ⟨by rw [HR.out]; rfl, HD.out⟩
    rw [decide_eq_true h1] at hm
    have HM := Lib.hid h1
    have hl1 := h1.1
    have s1 : IntKind.i64.wrap ((l.length : Int) - 1) = ((l.length - 1 : Nat) : Int) := by rw [IntWalk.i64_in _ (by omega)]; omega
    have s2 : ((l.length - 1 : Nat) : Int) < (l.length : Int) := by omega
    have s3 : (0 : Int) ≤ ((l.length - 1 : Nat) : Int) := by omega
    clear h1
    go_wp2_with (go_at_call 43; refine hm.mono ?_; rintro e w1 ⟨rfl, hd⟩; have HD := Lib.hid hd; have HF1 := Lib.hid (HF.out.below hd.below); obtain ⟨b, o, rfl, c0, c1⟩ := AsAt.get HF1.out (l.length - 1) (by omega); clear hd)
    go_step3
    rename_i hK
    refine hK _ _ (HBK.out l.length _ _ ⟨0, l, some ⟨b, o, none⟩, cap, (l[l.length - 1]'(by omega)).s, ?_⟩)
    repeat apply Exists.intro
    exact ⟨rfl, rfl, rfl, Nat.zero_le _, by rw [dif_pos (by simp; omega)]; rfl, HM.out, HF1.out, HD.out⟩
  · rintro m a' w' ⟨j, r, a, cap, s, u6, u7, u8, u9, u10, u11, u12, u13, u14, u15, u16, u17, u18, u19, u20, u21, u22, u23, u24, u25, u26, u27, u28, u29, u30, u31, u32, u33, rfl, rfl, hr, hj, hs, hml, hat, hd⟩ H hH
    have HH := Lib.hid hH
    have HM := Lib.hid hml
    have HD := Lib.hid hd
    have HS := Lib.hid hs
    have HR := Lib.hid hr
    have HAT := Lib.hid hat
    have hc := cnt_iff hml.up p j
    have hcl := cnt_le l p
    clear hH hd hm hs hml hr hat
    cases r with
    | nil =>
      have hlj : l.length ≤ j := by
        have := congrArg List.length HR.out
        rw [List.length_drop] at this
        simp at this
        omega
      have HE := Lib.hid (owner_passed (l := l) (p := p) j (by omega))
      go_wp2_with fail
      simp only [Exit.jump]
      go_ret
      refine ⟨?_, HD.out⟩
      have : s = ownerA l p := by rw [HS.out, HE.out]; unfold ownerA; rw [if_pos HM.out]
      rw [← this]; rfl
    | cons x r =>
      have hlj : j < l.length := by
        have := congrArg List.length HR.out
        rw [List.length_drop] at this
        simp at this
        omega
      have hxr : x = l[j] ∧ r = l.drop (j + 1) := by
        have := HR.out
        rw [List.drop_eq_getElem_cons hlj] at this
        exact List.cons.inj this
      have hcx := hc hlj
      rw [← hxr.1] at hcx
      have HX := Lib.hid hxr
      have hmax := HAT.out.max
      unfold maxLen at hmax
      have n0 : (0 : Int) < (r.length : Int) + 1 := by omega
      have n1 : 0 < r.length + 1 := by omega
      obtain ⟨b, o, a2, rfl, c0, c1, hat2, h1c, hsl⟩ := AsAt.head HAT.out
      have HAT2 := Lib.hid hat2
      clear hat2 hxr hc
      by_cases hp : x.f ≤ p
      · have hlt := hcx.1 hp
        go_wp2_with fail
        go_step3
        refine ⟨rfl, HH.out r.length _ _ (by simp) ⟨j + 1, r, a2, cap - 1, x.s, ?_⟩⟩
        repeat apply Exists.intro
        refine ⟨rfl, rfl, HX.out.2, hlt, ?_, HM.out, HAT2.out, HD.out⟩
        rw [dif_pos (by simp; omega), HX.out.1]
        rfl
      · have hnl : j = cntF l p := by
          have : ¬ j < cntF l p := fun h => hp (hcx.2 h)
          omega
        have HE := Lib.hid (owner_passed (l := l) (p := p) j hnl)
        clear hnl hcx
        go_wp2_with fail
        simp only [Exit.jump]
        go_ret
        refine ⟨?_, HD.out⟩
        have : s = ownerA l p := by rw [HS.out, HE.out]; unfold ownerA; rw [if_pos HM.out]
        rw [← this]; rfl

end Go.Proofs.Ythohjcfpobeplaa.Rg
