/-
  QuadEdges, walked: signed noughts and infinities change places and signs like others.
-/
import Derived.Test.YtlnfghmkfgihjaaTold
namespace Go.Proofs.Ytlnfghmkfgihjaa
open Go.RowKit

set_option maxHeartbeats 400000 in
theorem copysign_c (w : World) :
    Calls Try.prog 23 #[.float .f64 0, .float .f64 13830554455654793216] w fun e w' => e = .returned (.float .f64 9223372036854775808) ∧ w = w' := by
  have b1 : bits .andNot .u64 0 9223372036854775808 = 0 := by decide +kernel
  have b2 : bits .and .u64 13830554455654793216 9223372036854775808 = 9223372036854775808 := by decide +kernel
  have b3 : bits .or .u64 0 9223372036854775808 = 9223372036854775808 := by decide +kernel
  go_enter Try.func23, Try.ntmps23
  go_wp2
  go_ret
  exact ⟨rfl, rfl⟩

set_option maxHeartbeats 400000 in
theorem inf_pos (w : World) :
    Calls Try.prog 24 #[.int .i64 1] w fun e w' => e = .returned (.float .f64 9218868437227405312) ∧ w = w' := by
  go_enter Try.func24, Try.ntmps24
  go_wp2
  go_ret
  exact ⟨rfl, rfl⟩

set_option maxHeartbeats 400000 in
theorem inf_neg (w : World) :
    Calls Try.prog 24 #[.int .i64 (-1)] w fun e w' => e = .returned (.float .f64 18442240474082181120) ∧ w = w' := by
  go_enter Try.func24, Try.ntmps24
  go_wp2
  go_ret
  exact ⟨rfl, rfl⟩

theorem mod5 (a : Int) : wrap64 ((IntKind.u64.wrap a).tmod 5) = a % 18446744073709551616 % 5 := by
  have h : IntKind.u64.wrap a = a % 18446744073709551616 := by simp [IntKind.wrap, IntKind.bits, IntKind.signed]
  rw [h, Int.tmod_eq_emod_of_nonneg (by omega)]
  simp only [wrap64]
  omega

set_option maxHeartbeats 2000000 in
theorem edges_any (a b : Int) (w : World) :
    Calls Try.prog 6 #[.int .i64 a, .int .i64 b] w fun e w' => e = .returned (.bool true) ∧ Below w.heap.size w w' := by
  have hb := mod5 b
  obtain ⟨j, hj⟩ : ∃ j, b % 18446744073709551616 % 5 = j := ⟨_, rfl⟩
  have j0 : 0 ≤ j := by omega
  have j1 : j < 5 := by omega
  rw [hj] at hb
  clear hj
  have s1 : ∀ z, spin (1 + 4 * j) z = (ng z.2, z.1) := fun z => spin_1 (by omega) z
  have s2 : ∀ z, spin 2 z = (ng z.1, ng z.2) := fun z => spin_2 rfl z
  have S1 := Lib.hid s1
  have S2 := Lib.hid s2
  clear s1 s2
  have ha := mod5 a
  have hi : a % 18446744073709551616 % 5 = 0 ∨ a % 18446744073709551616 % 5 = 1 ∨ a % 18446744073709551616 % 5 = 2 ∨ a % 18446744073709551616 % 5 = 3 ∨ a % 18446744073709551616 % 5 = 4 := by omega
  go_enter Try.func6, Try.ntmps6
  rcases hi with hi | hi | hi | hi | hi
  all_goals
    rw [hi] at ha
    clear hi
    go_wp2_with fail
    refine (copysign_c _).mono ?_
    rintro e w' ⟨rfl, rfl⟩
    go_wp2_with fail
    refine (inf_pos _).mono ?_
    rintro e w' ⟨rfl, rfl⟩
    go_wp2_with fail
    refine (inf_neg _).mono ?_
    rintro e w' ⟨rfl, rfl⟩
    go_wp2_with fail
    refine (spin_any _ _ _ _).mono ?_
    rintro e w' ⟨rfl, rfl⟩
    rw [S1.out]
    go_wp2_with fail
    refine (spin_any _ _ _ _).mono ?_
    rintro e w' ⟨rfl, rfl⟩
    rw [S2.out]
    go_wp2_with fail
    refine (told_any _).mono ?_
    rintro e w' ⟨rfl, hbl⟩
    go_wp2_with fail
    refine (float_yes _ _ (Like.refl _) _).mono ?_
    rintro e w' ⟨rfl, rfl⟩
    go_wp2_with fail
    refine (float_yes _ _ (Like.refl _) _).mono ?_
    rintro e w' ⟨rfl, rfl⟩
    go_wp2_with fail
    refine (float_yes _ _ (Like.refl _) _).mono ?_
    rintro e w' ⟨rfl, rfl⟩
    go_wp2_with fail
    refine (float_yes _ _ (Like.refl _) _).mono ?_
    rintro e w' ⟨rfl, rfl⟩
    go_wp2_with fail
    go_ret
    exact ⟨rfl, (((Below.refl _ _).alloc (Nat.le_refl _) _).trans (hbl.mono (by simp)))⟩

end Go.Proofs.Ytlnfghmkfgihjaa
