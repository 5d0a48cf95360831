/-
  ring.May, walked.
-/
import Derived.Test.YthohjcfpobeplaaRgLf
import Derived.Test.YthohjcfpobeplaaScope
import Derived.Test.YthohjcfpobeplaaRgMemG
import Derived.BigRegion
namespace Go.Proofs.Ythohjcfpobeplaa.Rg
open Go.RowKit
set_option linter.unusedVariables false

def mayRel (a : Option Addr) (cap : Nat) (l : List Ar) (w : World) (m : Nat) (a' : Act) (w' : World) : Prop :=
  ∃ (i : Nat) (u4 u5 u6 u7 u8 u9 u10 u11 u12 u13 u14 u15 u16 u17 u18 u19 u20 u21 u22 u23 u24 u25 u26 u27 u28 u29 u30 u31 u32 u33 u34 u35 u36 u37 u38 u39 u40 u41 : Value), a' = { tmps := #[.slice a l.length cap, undef, .bool false, .int .i64 i, u4, u5, u6, u7, u8, u9, u10, u11, u12, u13, u14, u15, u16, u17, u18, u19, u20, u21, u22, u23, u24, u25, u26, u27, u28, u29, u30, u31, u32, u33, u34, u35, u36, u37, u38, u39, u40, u41], defers := [] } ∧
    m = l.length - i ∧ i ≤ l.length ∧ 1 ≤ l.length ∧ l.length ≤ 1024 ∧ (∀ j, j < i → MayA l j) ∧ Drew w w'

theorem not_may {l : List Ar} {i : Nat} (hi : i < l.length) (h : ¬ MayA l i) : decide (May l) = false := by
  rw [decide_eq_false_iff_not]
  exact fun hm => h (hm.2.2 i hi)
theorem all_may {l : List Ar} (h1 : 1 ≤ l.length) (h2 : l.length ≤ 1024) (h : ∀ j, j < l.length → MayA l j) : decide (May l) = true := by
  rw [decide_eq_true_eq]
  exact ⟨h1, h2, h⟩
theorem long_may {l : List Ar} (h : l.length = 0 ∨ 1024 < l.length) : decide (May l) = false := by
  rw [decide_eq_false_iff_not]
  exact fun hm => by have := hm.1; have := hm.2.1; omega
set_option maxRecDepth 100000 in
set_option maxHeartbeats 2000000 in
theorem may_any (a : Option Addr) (cap : Nat) (l : List Ar) (w : World) (hf : AsAt w a cap l) :
    Calls Try.prog 43 #[.slice a l.length cap] w fun e w' => e = .returned (.bool (decide (May l))) ∧ Drew w w' := by
  have hcap := hf.max
  have hlen := hf.len
  unfold maxLen at hcap
  have HF := Lib.hid hf
  clear hf
  go_enter Try.func43, Try.ntmps43
  go_wp2_with fail
  refine wp_scope_ghost 0 (mayRel a cap l w) rfl ?_ ?_
  · intro H hb'
    have HBK := Lib.hid hb'
    clear hb'
    by_cases h0 : l.length = 0
    · have HR := Lib.hid (long_may (.inl h0))
      have e0 : ((l.length : Int) == 0) = true := by rw [h0]; rfl
      clear h0
      go_wp2_with fail
      simp only [Exit.jump]
      go_ret
      exact ⟨by rw [HR.out]; rfl, Drew.refl _⟩
    have e0 : ((l.length : Int) == 0) = false := by rw [beq_eq_false_iff_ne]; omega
    by_cases h1 : 1024 < l.length
    · have HR := Lib.hid (long_may (.inr h1))
      have e1 : (1024 : Int) < (l.length : Int) := by omega
      go_wp2_with fail
      simp only [Exit.jump]
      go_ret
      exact ⟨by rw [HR.out]; rfl, Drew.refl _⟩
    have e1 : ¬ (1024 : Int) < (l.length : Int) := by omega
    go_wp2_with fail
    go_step3
    rename_i hK
    refine hK _ _ (HBK.out l.length _ _ ⟨0, ?_⟩)
    repeat apply Exists.intro
    exact ⟨rfl, by omega, by omega, by omega, by omega, fun j h => by omega, Drew.refl _⟩
  · rintro m a' w' ⟨i, u4, u5, u6, u7, u8, u9, u10, u11, u12, u13, u14, u15, u16, u17, u18, u19, u20, u21, u22, u23, u24, u25, u26, u27, u28, u29, u30, u31, u32, u33, u34, u35, u36, u37, u38, u39, u40, u41, rfl, rfl, hi, hl1, hl2, hok, hd⟩ H hH
    have HH := Lib.hid hH
    have HOK := Lib.hid hok
    have HD := Lib.hid hd
    have HF1 := Lib.hid (HF.out.below hd.below)
    clear hH hok hd
    by_cases hlt : i < l.length
    · have hlti : (i : Int) < (l.length : Int) := by omega
      have h0i : (0 : Int) ≤ (i : Int) := by omega
      have hne : ((i : Int) == (l.length : Int)) = false := by rw [beq_eq_false_iff_ne]; omega
      have c4 : IntKind.i64.wrap ((i : Int) + 1) = (i : Int) + 1 := IntWalk.i64_in _ (by omega)
      obtain ⟨b, o, rfl, c0, c1⟩ := AsAt.get HF1.out i hlt
      have hms := fun wx => mayShard_any l[i].s wx
      by_cases hs : okS l[i].s = true
      · rw [hs] at hms
        cases i with
        | zero =>
          have hin : MayA l 0 := fun h => ⟨by simp [okS] at hs; omega, by simp [okS] at hs; omega, .inl rfl⟩
          have HIN := Lib.hid hin
          clear hin hs
          go_wp2_with fail
          go_quiet ((go_at_call 88; exact Calls.quiet_of_same ((hms _).mono fun e w' h => ⟨h.1, h.2.symm⟩)))
          go_wp2_with fail
          go_step3
          refine ⟨rfl, HH.out (l.length - 1) _ _ (by omega) ⟨1, ?_⟩⟩
          repeat apply Exists.intro
          exact ⟨rfl, rfl, by omega, hl1, hl2, fun j h => (show j = 0 from by omega) ▸ HIN.out, HD.out.more _⟩
        | succ i =>
          obtain ⟨b', o', he, d0, _⟩ := AsAt.get HF1.out i (by omega)
          injection he with he
          injection he with e2 e3
          subst e2 e3
          have e4 : ((i + 1 : Nat) : Int) = (i : Int) + 1 := rfl
          have c5 : IntKind.i64.wrap ((i : Int) + 1 - 1) = (i : Int) := by rw [Int.add_sub_cancel]; exact IntWalk.i64_in _ (by omega)
          have e5 : (((i : Int) + 1) == 0) = false := by rw [beq_eq_false_iff_ne]; omega
          have h0j : (0 : Int) ≤ (i : Int) := by omega
          have hltj : (i : Int) < (l.length : Int) := by omega
          by_cases hr : l[i].f < l[i + 1].f
          · have hin : MayA l (i + 1) := fun h => ⟨by simp [okS] at hs; omega, by simp [okS] at hs; omega, .inr hr⟩
            have HIN := Lib.hid hin
            clear hin hs
            go_wp2_with fail
            go_quiet ((go_at_call 88; exact Calls.quiet_of_same ((hms _).mono fun e w' h => ⟨h.1, h.2.symm⟩)))
            go_wp2_with fail
            go_step3
            refine ⟨rfl, HH.out (l.length - (i + 2)) _ _ (by omega) ⟨i + 2, ?_⟩⟩
            repeat apply Exists.intro
            exact ⟨rfl, rfl, by omega, hl1, hl2, fun j h => by
              by_cases hj : j = i + 1
              · subst hj; exact HIN.out
              · exact HOK.out j (by omega), HD.out.more _⟩
          · have HR := Lib.hid (not_may hlt fun hm => by have := (hm hlt).2.2; simp at this; exact hr this)
            clear hs
            go_wp2_with fail
            go_quiet ((go_at_call 88; exact Calls.quiet_of_same ((hms _).mono fun e w' h => ⟨h.1, h.2.symm⟩)))
            go_wp2_with fail
            simp only [Exit.jump]
            go_ret
            exact ⟨by rw [HR.out]; rfl, HD.out.more _⟩
      · have hs' : okS l[i].s = false := by simpa using hs
        rw [hs'] at hms
        have HR := Lib.hid (not_may hlt fun hm => by have := hm hlt; simp [okS] at hs'; omega)
        clear hs hs'
        go_wp2_with fail
        go_quiet ((go_at_call 88; exact Calls.quiet_of_same ((hms _).mono fun e w' h => ⟨h.1, h.2.symm⟩)))
        go_wp2_with fail
        simp only [Exit.jump]
        go_ret
        exact ⟨by rw [HR.out]; rfl, HD.out.more _⟩
    · obtain rfl : i = l.length := by omega
      have hne : ((l.length : Int) == (l.length : Int)) = true := by simp
      have HR := Lib.hid (all_may (by omega) (by omega) HOK.out)
      go_wp2_with fail
      simp only [Exit.jump]
      go_ret
      exact ⟨by rw [HR.out]; rfl, HD.out⟩

end Go.Proofs.Ythohjcfpobeplaa.Rg
