/-
  ring.Share, walked.
-/
import Derived.Test.YtkcccfllkgjdiaaDoorRgMay
namespace Go.Proofs.YtkcccfllkgjdiaaDoor.Rg
open Go.RowKit
set_option linter.unusedVariables false

theorem Drew.trans {a b c : World} (h : Drew a b) (h' : Drew b c) : Drew a c := by
  obtain ⟨n, rfl⟩ := h'
  exact h.more n

/-! ### Share -/
def shareA (l : List Ar) (x : Int) : Int := if May l then shareF l x else 0
def shareRel (a : Option Addr) (cap : Nat) (l : List Ar) (x : Int) (w : World) (m : Nat) (a' : Act) (w' : World) : Prop :=
  ∃ (i : Nat) (u7 u8 u9 u10 u11 u12 u13 u14 u15 u16 u17 u18 u19 u20 u21 u22 u23 u24 u25 u26 u27 u28 : Value), a' = { tmps := #[.slice a l.length cap, .int .i64 x, undef, undef, .int .u64 0, .int .u64 (shareK l x i), .int .i64 i, u7, u8, u9, u10, u11, u12, u13, u14, u15, u16, u17, u18, u19, u20, u21, u22, u23, u24, u25, u26, u27, u28], defers := [] } ∧
    m = l.length - i ∧ i ≤ l.length ∧ May l ∧ Drew w w'
set_option maxRecDepth 100000 in
set_option maxHeartbeats 1000000 in
theorem share_any (a : Option Addr) (cap : Nat) (l : List Ar) (x : Int) (w : World) (hf : AsAt w a cap l) (hw : Wf l) :
    Calls Tryd.prog 58 #[.slice a l.length cap, .int .i64 x] w fun e w' => e = .returned (.int .u64 (shareA l x)) ∧ Drew w w' := by
  have hm := may_any a cap l w hf
  have hcap := hf.max
  have hlen := hf.len
  unfold maxLen at hcap
  have HF := Lib.hid hf
  clear hf
  go_enter Tryd.func58, Tryd.ntmps58
  go_wp2_with fail
  refine wp_scope_ghost 0 (shareRel a cap l x w) rfl ?_ ?_
  · intro H hb'
    have HBK := Lib.hid hb'
    clear hb'
    by_cases h1 : May l
    case neg =>
      rw [decide_eq_false h1] at hm
      have HR : Hid (shareA l x = 0) := Lib.hid (if_neg h1)
      clear h1
      go_wp2_with (go_at_call 13; refine hm.mono ?_; rintro e w1 ⟨rfl, hd⟩; have HD := Lib.hid hd; clear hd)
      simp only [Exit.jump]
      go_ret
      exact ⟨by rw [HR.out]; rfl, HD.out⟩
    rw [decide_eq_true h1] at hm
    have HM := Lib.hid h1
    clear h1
    go_wp2_with (go_at_call 13; refine hm.mono ?_; rintro e w1 ⟨rfl, hd⟩; have HD := Lib.hid hd; clear hd)
    go_step3
    rename_i hK
    refine hK _ _ (HBK.out l.length _ _ ⟨0, ?_⟩)
    rw [shareK_zero]
    repeat apply Exists.intro
    exact ⟨rfl, by omega, by omega, HM.out, HD.out⟩
  · rintro m a' w' ⟨i, u7, u8, u9, u10, u11, u12, u13, u14, u15, u16, u17, u18, u19, u20, u21, u22, u23, u24, u25, u26, u27, u28, rfl, rfl, hi, hml, hd⟩ H hH
    have HH := Lib.hid hH
    have HM := Lib.hid hml
    have HD := Lib.hid hd
    have HF1 := Lib.hid (HF.out.below hd.below)
    have hb := shareK_le hw hml.up hml.1 x i
    clear hH hd hml hm
    by_cases hlt : i < l.length
    · have hlti : (i : Int) < (l.length : Int) := by omega
      have h0i : (0 : Int) ≤ (i : Int) := by omega
      have hne : ((i : Int) == (l.length : Int)) = false := by rw [beq_eq_false_iff_ne]; omega
      have hsu := shareK_succ l x i hlt
      have hwd : 0 ≤ widthF l i ∧ widthF l i ≤ 4294967296 := by
        unfold widthF
        rw [dif_pos hlt]
        have := wd_in l[i].f (nx l i)
        omega
      obtain ⟨b, o, rfl, c0, c1⟩ := AsAt.get HF1.out i hlt
      by_cases hs : l[i].s = x
      · rw [if_pos hs] at hsu
        have HS := Lib.hid hsu
        have es : (l[i].s == x) = true := by rw [beq_iff_eq]; exact hs
        have HW := fun (wx : World) (hx : AsAt wx (some ⟨b, o, none⟩) cap l) => width_any (some ⟨b, o, none⟩) cap l i wx hx hw HM.out.up hlt
        have HWD := Lib.hid HW
        clear hsu hs HW
        generalize l[i].s = y at *
        go_wp2_with (go_at_call 69; refine (HWD.out _ HF1.out).mono ?_; rintro e w2 ⟨rfl, hd⟩; have HD2 := Lib.hid hd; clear hd)
        go_step3
        refine ⟨rfl, HH.out (l.length - (i + 1)) _ _ (by omega) ⟨i + 1, ?_⟩⟩
        rw [HS.out]
        repeat apply Exists.intro
        exact ⟨rfl, rfl, by omega, HM.out, HD.out.trans HD2.out⟩
      · rw [if_neg hs, Int.add_zero] at hsu
        have HS := Lib.hid hsu
        have es : (l[i].s == x) = false := by rw [beq_eq_false_iff_ne]; exact hs
        clear hsu hs
        go_wp2_with fail
        go_step3
        refine ⟨rfl, HH.out (l.length - (i + 1)) _ _ (by omega) ⟨i + 1, ?_⟩⟩
        rw [HS.out]
        repeat apply Exists.intro
        exact ⟨rfl, rfl, by omega, HM.out, HD.out⟩
    · obtain rfl : i = l.length := by omega
      have hne : ((l.length : Int) == (l.length : Int)) = true := by simp
      have HR : Hid (shareA l x = shareK l x l.length) := Lib.hid (by unfold shareA; rw [if_pos HM.out, shareK_all])
      go_wp2_with fail
      simp only [Exit.jump]
      go_ret
      exact ⟨by rw [HR.out]; rfl, HD.out⟩

end Go.Proofs.YtkcccfllkgjdiaaDoor.Rg
