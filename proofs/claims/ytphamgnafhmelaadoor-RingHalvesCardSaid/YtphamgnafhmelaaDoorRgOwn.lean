/-
  ring.Owner, ring.Width, ring.Share, walked.
-/
import Derived.Test.YtphamgnafhmelaaDoorRgMay
namespace Go.Proofs.YtphamgnafhmelaaDoor.Rg
open Go.RowKit
set_option linter.unusedVariables false

theorem Drew.trans {a b c : World} (h : Drew a b) (h' : Drew b c) : Drew a c := by
  obtain ⟨n, rfl⟩ := h'
  exact h.more n

/-! ### Width -/
def widthA (l : List Ar) (k : Int) : Int := if May l ∧ 0 ≤ k ∧ k < l.length then widthF l k.toNat else 0
set_option maxHeartbeats 1000000 in
theorem widthA_any (a : Option Addr) (cap : Nat) (l : List Ar) (k : Int) (w : World) (hf : AsAt w a cap l) (hw : Wf l) :
    Calls Tryd.prog 16 #[.slice a l.length cap, .int .i64 k] w fun e w' => e = .returned (.int .u64 (widthA l k)) ∧ Drew w w' := by
  have hm := may_any a cap l w hf
  by_cases h1 : May l
  case neg =>
    rw [decide_eq_false h1] at hm
    rw [show widthA l k = 0 from if_neg fun h => h1 h.1]
    clear hf hw h1
    go_enter Tryd.func16, Tryd.ntmps16
    go_wp2_with (go_at_call 12; refine hm.mono ?_; rintro e w1 ⟨rfl, hd⟩; have HD := Lib.hid hd; clear hd)
    go_ret
    exact ⟨rfl, HD.out⟩
  rw [decide_eq_true h1] at hm
  by_cases h2 : 0 ≤ k
  case neg =>
    rw [show widthA l k = 0 from if_neg fun h => h2 h.2.1]
    have h3 : k < 0 := by omega
    clear hf hw h1
    go_enter Tryd.func16, Tryd.ntmps16
    go_wp2_with (go_at_call 12; refine hm.mono ?_; rintro e w1 ⟨rfl, hd⟩; have HD := Lib.hid hd; clear hd)
    go_ret
    exact ⟨rfl, HD.out⟩
  have h2' : ¬ k < 0 := by omega
  by_cases h3 : k < l.length
  case neg =>
    rw [show widthA l k = 0 from if_neg fun h => h3 h.2.2]
    clear hf hw h1
    go_enter Tryd.func16, Tryd.ntmps16
    go_wp2_with (go_at_call 12; refine hm.mono ?_; rintro e w1 ⟨rfl, hd⟩; have HD := Lib.hid hd; clear hd)
    go_ret
    exact ⟨rfl, HD.out⟩
  rw [show widthA l k = widthF l k.toNat from if_pos ⟨h1, h2, h3⟩]
  obtain ⟨n, rfl⟩ : ∃ n : Nat, k = n := ⟨k.toNat, by omega⟩
  have hn : n < l.length := by omega
  have HU := Lib.hid h1.up
  have HF := Lib.hid hf
  rw [Int.toNat_natCast]
  clear hf h1
  go_enter Tryd.func16, Tryd.ntmps16
  go_wp2_with (first | (go_at_call 12; refine hm.mono ?_; rintro e w1 ⟨rfl, hd⟩; have HD := Lib.hid hd; have HF1 := Lib.hid (HF.out.below hd.below); clear hd) | (go_at_call 28; refine (width_any a cap l n w1 HF1.out hw HU.out hn).mono ?_; rintro e w2 ⟨rfl, hd⟩; have HD2 := Lib.hid hd; clear hd))
  go_ret
  exact ⟨rfl, HD.out.trans HD2.out⟩

/-! ### Share -/
def shareA (l : List Ar) (x : Int) : Int := if May l then shareF l x else 0
def shareRel (a : Option Addr) (cap : Nat) (l : List Ar) (x : Int) (w : World) (m : Nat) (a' : Act) (w' : World) : Prop :=
  ∃ (i : Nat) (u7 u8 u9 u10 u11 u12 u13 u14 u15 u16 u17 u18 u19 u20 u21 u22 u23 u24 u25 u26 u27 u28 : Value), a' = { tmps := #[.slice a l.length cap, .int .i64 x, undef, undef, .int .u64 0, .int .u64 (shareK l x i), .int .i64 i, u7, u8, u9, u10, u11, u12, u13, u14, u15, u16, u17, u18, u19, u20, u21, u22, u23, u24, u25, u26, u27, u28], defers := [] } ∧
    m = l.length - i ∧ i ≤ l.length ∧ May l ∧ Drew w w'
set_option maxRecDepth 100000 in
set_option maxHeartbeats 1000000 in
theorem share_any (a : Option Addr) (cap : Nat) (l : List Ar) (x : Int) (w : World) (hf : AsAt w a cap l) (hw : Wf l) :
    Calls Tryd.prog 18 #[.slice a l.length cap, .int .i64 x] w fun e w' => e = .returned (.int .u64 (shareA l x)) ∧ Drew w w' := by
  have hm := may_any a cap l w hf
  have hcap := hf.max
  have hlen := hf.len
  unfold maxLen at hcap
  have HF := Lib.hid hf
  clear hf
  go_enter Tryd.func18, Tryd.ntmps18
  go_wp2_with fail
  refine wp_scope_ghost 0 (shareRel a cap l x w) rfl ?_ ?_
  · intro H hb'
    have HBK := Lib.hid hb'
    clear hb'
    by_cases h1 : May l
    case neg =>
      rw [decide_eq_false h1] at hm
      have HR : Hid (shareA l x = 0) := Lib.hid (if_neg h1)
      clear h1
      go_wp2_with (go_at_call 12; refine hm.mono ?_; rintro e w1 ⟨rfl, hd⟩; have HD := Lib.hid hd; clear hd)
      simp only [Exit.jump]
      go_ret
      exact ⟨by rw [HR.out]; rfl, HD.out⟩
    rw [decide_eq_true h1] at hm
    have HM := Lib.hid h1
    clear h1
    go_wp2_with (go_at_call 12; refine hm.mono ?_; rintro e w1 ⟨rfl, hd⟩; have HD := Lib.hid hd; clear hd)
    go_step3
    rename_i hK
    refine hK _ _ (HBK.out l.length _ _ ⟨0, ?_⟩)
    rw [shareK_zero]
    repeat apply Exists.intro
    exact ⟨rfl, by omega, by omega, HM.out, HD.out⟩
  · rintro m a' w' ⟨i, u7, u8, u9, u10, u11, u12, u13, u14, u15, u16, u17, u18, u19, u20, u21, u22, u23, u24, u25, u26, u27, u28, rfl, rfl, hi, hml, hd⟩ H hH
    have HH := Lib.hid hH
    have HM := Lib.hid hml
    have HD := Lib.hid hd
    have HF1 := Lib.hid (HF.out.below hd.below)
    have hb := shareK_le hw hml.up hml.1 x i
    clear hH hd hml hm
    by_cases hlt : i < l.length
    · have hlti : (i : Int) < (l.length : Int) := by omega
      have h0i : (0 : Int) ≤ (i : Int) := by omega
      have hne : ((i : Int) == (l.length : Int)) = false := by rw [beq_eq_false_iff_ne]; omega
      have hsu := shareK_succ l x i hlt
      have hwd : 0 ≤ widthF l i ∧ widthF l i ≤ 4294967296 := by
        unfold widthF
        rw [dif_pos hlt]
        have := wd_in l[i].f (nx l i)
        omega
      obtain ⟨b, o, rfl, c0, c1⟩ := AsAt.get HF1.out i hlt
      by_cases hs : l[i].s = x
      · rw [if_pos hs] at hsu
        have HS := Lib.hid hsu
        have es : (l[i].s == x) = true := by rw [beq_iff_eq]; exact hs
        have HW := fun (wx : World) (hx : AsAt wx (some ⟨b, o, none⟩) cap l) => width_any (some ⟨b, o, none⟩) cap l i wx hx hw HM.out.up hlt
        have HWD := Lib.hid HW
        clear hsu hs HW
        generalize l[i].s = y at *
        go_wp2_with (go_at_call 28; refine (HWD.out _ HF1.out).mono ?_; rintro e w2 ⟨rfl, hd⟩; have HD2 := Lib.hid hd; clear hd)
        go_step3
        refine ⟨rfl, HH.out (l.length - (i + 1)) _ _ (by omega) ⟨i + 1, ?_⟩⟩
        rw [HS.out]
        repeat apply Exists.intro
        exact ⟨rfl, rfl, by omega, HM.out, HD.out.trans HD2.out⟩
      · rw [if_neg hs, Int.add_zero] at hsu
        have HS := Lib.hid hsu
        have es : (l[i].s == x) = false := by rw [beq_eq_false_iff_ne]; exact hs
        clear hsu hs
        go_wp2_with fail
        go_step3
        refine ⟨rfl, HH.out (l.length - (i + 1)) _ _ (by omega) ⟨i + 1, ?_⟩⟩
        rw [HS.out]
        repeat apply Exists.intro
        exact ⟨rfl, rfl, by omega, HM.out, HD.out⟩
    · obtain rfl : i = l.length := by omega
      have hne : ((l.length : Int) == (l.length : Int)) = true := by simp
      have HR : Hid (shareA l x = shareK l x l.length) := Lib.hid (by unfold shareA; rw [if_pos HM.out, shareK_all])
      go_wp2_with fail
      simp only [Exit.jump]
      go_ret
      exact ⟨by rw [HR.out]; rfl, HD.out⟩

/-! ### Owner -/
def ownerA (l : List Ar) (p : Int) : Int := if May l then ownerF l p else -1
/-- j arcs were passed. -/
def ownerRel (l : List Ar) (p : Int) (w : World) (m : Nat) (a' : Act) (w' : World) : Prop :=
  ∃ (j : Nat) (r : List Ar) (a : Option Addr) (cap : Nat) (s : Int) (u6 u7 u8 u9 u10 u11 u12 u13 u14 u15 u16 u17 u18 u19 u20 u21 u22 u23 u24 u25 u26 u27 u28 u29 u30 u31 u32 u33 : Value), a' = { tmps := #[.slice a r.length cap, .int .u32 p, undef, undef, .int .i64 0, .int .i64 s, u6, u7, u8, u9, u10, u11, u12, u13, u14, u15, u16, u17, u18, u19, u20, u21, u22, u23, u24, u25, u26, u27, u28, u29, u30, u31, u32, u33], defers := [] } ∧
    m = r.length ∧ r = l.drop j ∧ j ≤ cntF l p ∧ s = (if h : (if j = 0 then l.length - 1 else j - 1) < l.length then l[if j = 0 then l.length - 1 else j - 1].s else -1) ∧ May l ∧ AsAt w' a cap r ∧ Drew w w'
theorem owner_passed {l : List Ar} {p : Int} (j : Nat) (h : j = cntF l p) : (if h : (if j = 0 then l.length - 1 else j - 1) < l.length then l[if j = 0 then l.length - 1 else j - 1].s else -1) = ownerF l p := by
  subst h; rfl
set_option maxRecDepth 100000 in
set_option maxHeartbeats 1000000 in
theorem owner_any (a : Option Addr) (cap : Nat) (l : List Ar) (p : Int) (w : World) (hf : AsAt w a cap l) :
    Calls Tryd.prog 14 #[.slice a l.length cap, .int .u32 p] w fun e w' => e = .returned (.int .i64 (ownerA l p)) ∧ Drew w w' := by
  have hm := may_any a cap l w hf
  have hcap := hf.max
  have hlen := hf.len
  unfold maxLen at hcap
  have HF := Lib.hid hf
  clear hf
  go_enter Tryd.func14, Tryd.ntmps14
  go_wp2_with fail
  refine wp_scope_ghost 0 (ownerRel l p w) rfl ?_ ?_
  · intro H hb'
    have HBK := Lib.hid hb'
    clear hb'
    by_cases h1 : May l
    case neg =>
      rw [decide_eq_false h1] at hm
      have HR : Hid (ownerA l p = -1) := Lib.hid (if_neg h1)
      clear h1
      go_wp2_with (go_at_call 12; refine hm.mono ?_; rintro e w1 ⟨rfl, hd⟩; have HD := Lib.hid hd; clear hd)
      simp only [Exit.jump]
      go_ret
      exact ⟨by rw [HR.out]; rfl, HD.out⟩
    rw [decide_eq_true h1] at hm
    have HM := Lib.hid h1
    have hl1 := h1.1
    have s1 : IntKind.i64.wrap ((l.length : Int) - 1) = ((l.length - 1 : Nat) : Int) := by rw [IntWalk.i64_in _ (by omega)]; omega
    have s2 : ((l.length - 1 : Nat) : Int) < (l.length : Int) := by omega
    have s3 : (0 : Int) ≤ ((l.length - 1 : Nat) : Int) := by omega
    clear h1
    go_wp2_with (go_at_call 12; refine hm.mono ?_; rintro e w1 ⟨rfl, hd⟩; have HD := Lib.hid hd; have HF1 := Lib.hid (HF.out.below hd.below); obtain ⟨b, o, rfl, c0, c1⟩ := AsAt.get HF1.out (l.length - 1) (by omega); clear hd)
    go_step3
    rename_i hK
    refine hK _ _ (HBK.out l.length _ _ ⟨0, l, some ⟨b, o, none⟩, cap, (l[l.length - 1]'(by omega)).s, ?_⟩)
    repeat apply Exists.intro
    exact ⟨rfl, rfl, rfl, Nat.zero_le _, by rw [dif_pos (by simp; omega)]; rfl, HM.out, HF1.out, HD.out⟩
  · rintro m a' w' ⟨j, r, a, cap, s, u6, u7, u8, u9, u10, u11, u12, u13, u14, u15, u16, u17, u18, u19, u20, u21, u22, u23, u24, u25, u26, u27, u28, u29, u30, u31, u32, u33, rfl, rfl, hr, hj, hs, hml, hat, hd⟩ H hH
    have HH := Lib.hid hH
    have HM := Lib.hid hml
    have HD := Lib.hid hd
    have HS := Lib.hid hs
    have HR := Lib.hid hr
    have HAT := Lib.hid hat
    have hc := cnt_iff hml.up p j
    have hcl := cnt_le l p
    clear hH hd hm hs hml hr hat
    cases r with
    | nil =>
      have hlj : l.length ≤ j := by
        have := congrArg List.length HR.out
        rw [List.length_drop] at this
        simp at this
        omega
      have HE := Lib.hid (owner_passed (l := l) (p := p) j (by omega))
      go_wp2_with fail
      simp only [Exit.jump]
      go_ret
      refine ⟨?_, HD.out⟩
      have : s = ownerA l p := by rw [HS.out, HE.out]; unfold ownerA; rw [if_pos HM.out]
      rw [← this]; rfl
    | cons x r =>
      have hlj : j < l.length := by
        have := congrArg List.length HR.out
        rw [List.length_drop] at this
        simp at this
        omega
      have hxr : x = l[j] ∧ r = l.drop (j + 1) := by
        have := HR.out
        rw [List.drop_eq_getElem_cons hlj] at this
        exact List.cons.inj this
      have hcx := hc hlj
      rw [← hxr.1] at hcx
      have HX := Lib.hid hxr
      have hmax := HAT.out.max
      unfold maxLen at hmax
      have n0 : (0 : Int) < (r.length : Int) + 1 := by omega
      have n1 : 0 < r.length + 1 := by omega
      obtain ⟨b, o, a2, rfl, c0, c1, hat2, h1c, hsl⟩ := AsAt.head HAT.out
      have HAT2 := Lib.hid hat2
      clear hat2 hxr hc
      by_cases hp : x.f ≤ p
      · have hlt := hcx.1 hp
        go_wp2_with fail
        go_step3
        refine ⟨rfl, HH.out r.length _ _ (by simp) ⟨j + 1, r, a2, cap - 1, x.s, ?_⟩⟩
        repeat apply Exists.intro
        refine ⟨rfl, rfl, HX.out.2, hlt, ?_, HM.out, HAT2.out, HD.out⟩
        rw [dif_pos (by simp; omega), HX.out.1]
        rfl
      · have hnl : j = cntF l p := by
          have : ¬ j < cntF l p := fun h => hp (hcx.2 h)
          omega
        have HE := Lib.hid (owner_passed (l := l) (p := p) j hnl)
        clear hnl hcx
        go_wp2_with fail
        simp only [Exit.jump]
        go_ret
        refine ⟨?_, HD.out⟩
        have : s = ownerA l p := by rw [HS.out, HE.out]; unfold ownerA; rw [if_pos HM.out]
        rw [← this]; rfl

end Go.Proofs.YtphamgnafhmelaaDoor.Rg
