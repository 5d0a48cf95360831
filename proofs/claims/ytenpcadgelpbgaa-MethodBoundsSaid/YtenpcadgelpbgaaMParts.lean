/-
  package method's Parts, walked.
-/
import Derived.Test.YtenpcadgelpbgaaMDat
namespace Go.Proofs.Ytenpcadgelpbgaa
open Go.RowKit
set_option linter.unusedVariables false

def PartsP (id : Int) (w : World) (e : Ending) (w' : World) : Prop := e = .returned (.string (partsStr id)) ∧ w = w'

set_option maxHeartbeats 1000000 in
theorem parts_2010 (w : World) : Calls Try.prog 18 #[.int .i64 2010] w (PartsP 2010 w) := by
  go_enter Try.func18, Try.ntmps18
  go_wp2_with fail
  go_ret
  exact ⟨rfl, rfl⟩
set_option maxHeartbeats 1000000 in
theorem parts_2011 (w : World) : Calls Try.prog 18 #[.int .i64 2011] w (PartsP 2011 w) := by
  go_enter Try.func18, Try.ntmps18
  go_wp2_with fail
  go_ret
  exact ⟨rfl, rfl⟩
set_option maxHeartbeats 1000000 in
theorem parts_2041 (w : World) : Calls Try.prog 18 #[.int .i64 2041] w (PartsP 2041 w) := by
  go_enter Try.func18, Try.ntmps18
  go_wp2_with fail
  go_ret
  exact ⟨rfl, rfl⟩
set_option maxHeartbeats 1000000 in
theorem parts_4011 (w : World) : Calls Try.prog 18 #[.int .i64 4011] w (PartsP 4011 w) := by
  go_enter Try.func18, Try.ntmps18
  go_wp2_with fail
  go_ret
  exact ⟨rfl, rfl⟩
set_option maxHeartbeats 1000000 in
theorem parts_5021 (w : World) : Calls Try.prog 18 #[.int .i64 5021] w (PartsP 5021 w) := by
  go_enter Try.func18, Try.ntmps18
  go_wp2_with fail
  go_ret
  exact ⟨rfl, rfl⟩
set_option maxHeartbeats 1000000 in
theorem parts_6011 (w : World) : Calls Try.prog 18 #[.int .i64 6011] w (PartsP 6011 w) := by
  go_enter Try.func18, Try.ntmps18
  go_wp2_with fail
  go_ret
  exact ⟨rfl, rfl⟩
set_option maxHeartbeats 1000000 in
theorem parts_6072 (w : World) : Calls Try.prog 18 #[.int .i64 6072] w (PartsP 6072 w) := by
  go_enter Try.func18, Try.ntmps18
  go_wp2_with fail
  go_ret
  exact ⟨rfl, rfl⟩
set_option maxHeartbeats 1000000 in
theorem parts_8510 (w : World) : Calls Try.prog 18 #[.int .i64 8510] w (PartsP 8510 w) := by
  go_enter Try.func18, Try.ntmps18
  go_wp2_with fail
  go_ret
  exact ⟨rfl, rfl⟩
set_option maxHeartbeats 1000000 in
theorem parts_8511 (w : World) : Calls Try.prog 18 #[.int .i64 8511] w (PartsP 8511 w) := by
  go_enter Try.func18, Try.ntmps18
  go_wp2_with fail
  go_ret
  exact ⟨rfl, rfl⟩
set_option maxHeartbeats 1000000 in
theorem parts_9010 (w : World) : Calls Try.prog 18 #[.int .i64 9010] w (PartsP 9010 w) := by
  go_enter Try.func18, Try.ntmps18
  go_wp2_with fail
  go_ret
  exact ⟨rfl, rfl⟩
set_option maxHeartbeats 1000000 in
theorem parts_9011 (w : World) : Calls Try.prog 18 #[.int .i64 9011] w (PartsP 9011 w) := by
  go_enter Try.func18, Try.ntmps18
  go_wp2_with fail
  go_ret
  exact ⟨rfl, rfl⟩
set_option maxHeartbeats 1000000 in
theorem parts_9020 (w : World) : Calls Try.prog 18 #[.int .i64 9020] w (PartsP 9020 w) := by
  go_enter Try.func18, Try.ntmps18
  go_wp2_with fail
  go_ret
  exact ⟨rfl, rfl⟩
set_option maxHeartbeats 1000000 in
theorem parts_9021 (w : World) : Calls Try.prog 18 #[.int .i64 9021] w (PartsP 9021 w) := by
  go_enter Try.func18, Try.ntmps18
  go_wp2_with fail
  go_ret
  exact ⟨rfl, rfl⟩
set_option maxHeartbeats 1000000 in
theorem parts_9030 (w : World) : Calls Try.prog 18 #[.int .i64 9030] w (PartsP 9030 w) := by
  go_enter Try.func18, Try.ntmps18
  go_wp2_with fail
  go_ret
  exact ⟨rfl, rfl⟩
set_option maxHeartbeats 1000000 in
theorem parts_9031 (w : World) : Calls Try.prog 18 #[.int .i64 9031] w (PartsP 9031 w) := by
  go_enter Try.func18, Try.ntmps18
  go_wp2_with fail
  go_ret
  exact ⟨rfl, rfl⟩
set_option maxHeartbeats 1000000 in
theorem parts_2040 (w : World) : Calls Try.prog 18 #[.int .i64 2040] w (PartsP 2040 w) := by
  go_enter Try.func18, Try.ntmps18
  go_wp2_with fail
  go_ret
  exact ⟨rfl, rfl⟩
set_option maxHeartbeats 1000000 in
theorem parts_4010 (w : World) : Calls Try.prog 18 #[.int .i64 4010] w (PartsP 4010 w) := by
  go_enter Try.func18, Try.ntmps18
  go_wp2_with fail
  go_ret
  exact ⟨rfl, rfl⟩
set_option maxHeartbeats 1000000 in
theorem parts_5010 (w : World) : Calls Try.prog 18 #[.int .i64 5010] w (PartsP 5010 w) := by
  go_enter Try.func18, Try.ntmps18
  go_wp2_with fail
  go_ret
  exact ⟨rfl, rfl⟩
set_option maxHeartbeats 1000000 in
theorem parts_6070 (w : World) : Calls Try.prog 18 #[.int .i64 6070] w (PartsP 6070 w) := by
  go_enter Try.func18, Try.ntmps18
  go_wp2_with fail
  go_ret
  exact ⟨rfl, rfl⟩
set_option maxHeartbeats 1000000 in
theorem parts_5011 (w : World) : Calls Try.prog 18 #[.int .i64 5011] w (PartsP 5011 w) := by
  go_enter Try.func18, Try.ntmps18
  go_wp2_with fail
  go_ret
  exact ⟨rfl, rfl⟩
set_option maxHeartbeats 1000000 in
theorem parts_5020 (w : World) : Calls Try.prog 18 #[.int .i64 5020] w (PartsP 5020 w) := by
  go_enter Try.func18, Try.ntmps18
  go_wp2_with fail
  go_ret
  exact ⟨rfl, rfl⟩
set_option maxHeartbeats 1000000 in
theorem parts_6010 (w : World) : Calls Try.prog 18 #[.int .i64 6010] w (PartsP 6010 w) := by
  go_enter Try.func18, Try.ntmps18
  go_wp2_with fail
  go_ret
  exact ⟨rfl, rfl⟩
set_option maxHeartbeats 1000000 in
theorem parts_6020 (w : World) : Calls Try.prog 18 #[.int .i64 6020] w (PartsP 6020 w) := by
  go_enter Try.func18, Try.ntmps18
  go_wp2_with fail
  go_ret
  exact ⟨rfl, rfl⟩
set_option maxHeartbeats 1000000 in
theorem parts_6021 (w : World) : Calls Try.prog 18 #[.int .i64 6021] w (PartsP 6021 w) := by
  go_enter Try.func18, Try.ntmps18
  go_wp2_with fail
  go_ret
  exact ⟨rfl, rfl⟩
set_option maxHeartbeats 1000000 in
theorem parts_6040 (w : World) : Calls Try.prog 18 #[.int .i64 6040] w (PartsP 6040 w) := by
  go_enter Try.func18, Try.ntmps18
  go_wp2_with fail
  go_ret
  exact ⟨rfl, rfl⟩
set_option maxHeartbeats 1000000 in
theorem parts_6050 (w : World) : Calls Try.prog 18 #[.int .i64 6050] w (PartsP 6050 w) := by
  go_enter Try.func18, Try.ntmps18
  go_wp2_with fail
  go_ret
  exact ⟨rfl, rfl⟩
set_option maxHeartbeats 1000000 in
theorem parts_6060 (w : World) : Calls Try.prog 18 #[.int .i64 6060] w (PartsP 6060 w) := by
  go_enter Try.func18, Try.ntmps18
  go_wp2_with fail
  go_ret
  exact ⟨rfl, rfl⟩
set_option maxHeartbeats 1000000 in
theorem parts_6071 (w : World) : Calls Try.prog 18 #[.int .i64 6071] w (PartsP 6071 w) := by
  go_enter Try.func18, Try.ntmps18
  go_wp2_with fail
  go_ret
  exact ⟨rfl, rfl⟩
set_option maxHeartbeats 1000000 in
theorem parts_6080 (w : World) : Calls Try.prog 18 #[.int .i64 6080] w (PartsP 6080 w) := by
  go_enter Try.func18, Try.ntmps18
  go_wp2_with fail
  go_ret
  exact ⟨rfl, rfl⟩
set_option maxHeartbeats 1000000 in
theorem parts_6090 (w : World) : Calls Try.prog 18 #[.int .i64 6090] w (PartsP 6090 w) := by
  go_enter Try.func18, Try.ntmps18
  go_wp2_with fail
  go_ret
  exact ⟨rfl, rfl⟩
set_option maxHeartbeats 1000000 in
theorem parts_6120 (w : World) : Calls Try.prog 18 #[.int .i64 6120] w (PartsP 6120 w) := by
  go_enter Try.func18, Try.ntmps18
  go_wp2_with fail
  go_ret
  exact ⟨rfl, rfl⟩

set_option maxHeartbeats 4000000 in
theorem parts_not (id : Int) (h : ∀ e ∈ partsTab, ¬ id = e.1) (w : World) : Calls Try.prog 18 #[.int .i64 id] w (PartsP id w) := by
  have hp := partsOf_none h
  have n2010 : ¬ id = 2010 := fun e => by subst e; revert hp; decide
  have n2011 : ¬ id = 2011 := fun e => by subst e; revert hp; decide
  have n2041 : ¬ id = 2041 := fun e => by subst e; revert hp; decide
  have n4011 : ¬ id = 4011 := fun e => by subst e; revert hp; decide
  have n5021 : ¬ id = 5021 := fun e => by subst e; revert hp; decide
  have n6011 : ¬ id = 6011 := fun e => by subst e; revert hp; decide
  have n6072 : ¬ id = 6072 := fun e => by subst e; revert hp; decide
  have n8510 : ¬ id = 8510 := fun e => by subst e; revert hp; decide
  have n8511 : ¬ id = 8511 := fun e => by subst e; revert hp; decide
  have n9010 : ¬ id = 9010 := fun e => by subst e; revert hp; decide
  have n9011 : ¬ id = 9011 := fun e => by subst e; revert hp; decide
  have n9020 : ¬ id = 9020 := fun e => by subst e; revert hp; decide
  have n9021 : ¬ id = 9021 := fun e => by subst e; revert hp; decide
  have n9030 : ¬ id = 9030 := fun e => by subst e; revert hp; decide
  have n9031 : ¬ id = 9031 := fun e => by subst e; revert hp; decide
  have n2040 : ¬ id = 2040 := fun e => by subst e; revert hp; decide
  have n4010 : ¬ id = 4010 := fun e => by subst e; revert hp; decide
  have n5010 : ¬ id = 5010 := fun e => by subst e; revert hp; decide
  have n6070 : ¬ id = 6070 := fun e => by subst e; revert hp; decide
  have n5011 : ¬ id = 5011 := fun e => by subst e; revert hp; decide
  have n5020 : ¬ id = 5020 := fun e => by subst e; revert hp; decide
  have n6010 : ¬ id = 6010 := fun e => by subst e; revert hp; decide
  have n6020 : ¬ id = 6020 := fun e => by subst e; revert hp; decide
  have n6021 : ¬ id = 6021 := fun e => by subst e; revert hp; decide
  have n6040 : ¬ id = 6040 := fun e => by subst e; revert hp; decide
  have n6050 : ¬ id = 6050 := fun e => by subst e; revert hp; decide
  have n6060 : ¬ id = 6060 := fun e => by subst e; revert hp; decide
  have n6071 : ¬ id = 6071 := fun e => by subst e; revert hp; decide
  have n6080 : ¬ id = 6080 := fun e => by subst e; revert hp; decide
  have n6090 : ¬ id = 6090 := fun e => by subst e; revert hp; decide
  have n6120 : ¬ id = 6120 := fun e => by subst e; revert hp; decide
  have HP := Lib.hid hp
  clear hp h
  go_enter Try.func18, Try.ntmps18
  go_wp2_with fail
  go_ret
  refine ⟨?_, rfl⟩
  unfold partsStr
  rw [HP.out]
  rfl

theorem parts_any (id : Int) (w : World) : Calls Try.prog 18 #[.int .i64 id] w fun e w' => e = .returned (.string (partsStr id)) ∧ w = w' := by
  by_cases h : ∀ e ∈ partsTab, ¬ id = e.1
  · exact parts_not id h w
  · have h0 := h
    clear h
    by_cases e2010 : id = 2010
    · subst e2010; exact parts_2010 w
    by_cases e2011 : id = 2011
    · subst e2011; exact parts_2011 w
    by_cases e2041 : id = 2041
    · subst e2041; exact parts_2041 w
    by_cases e4011 : id = 4011
    · subst e4011; exact parts_4011 w
    by_cases e5021 : id = 5021
    · subst e5021; exact parts_5021 w
    by_cases e6011 : id = 6011
    · subst e6011; exact parts_6011 w
    by_cases e6072 : id = 6072
    · subst e6072; exact parts_6072 w
    by_cases e8510 : id = 8510
    · subst e8510; exact parts_8510 w
    by_cases e8511 : id = 8511
    · subst e8511; exact parts_8511 w
    by_cases e9010 : id = 9010
    · subst e9010; exact parts_9010 w
    by_cases e9011 : id = 9011
    · subst e9011; exact parts_9011 w
    by_cases e9020 : id = 9020
    · subst e9020; exact parts_9020 w
    by_cases e9021 : id = 9021
    · subst e9021; exact parts_9021 w
    by_cases e9030 : id = 9030
    · subst e9030; exact parts_9030 w
    by_cases e9031 : id = 9031
    · subst e9031; exact parts_9031 w
    by_cases e2040 : id = 2040
    · subst e2040; exact parts_2040 w
    by_cases e4010 : id = 4010
    · subst e4010; exact parts_4010 w
    by_cases e5010 : id = 5010
    · subst e5010; exact parts_5010 w
    by_cases e6070 : id = 6070
    · subst e6070; exact parts_6070 w
    by_cases e5011 : id = 5011
    · subst e5011; exact parts_5011 w
    by_cases e5020 : id = 5020
    · subst e5020; exact parts_5020 w
    by_cases e6010 : id = 6010
    · subst e6010; exact parts_6010 w
    by_cases e6020 : id = 6020
    · subst e6020; exact parts_6020 w
    by_cases e6021 : id = 6021
    · subst e6021; exact parts_6021 w
    by_cases e6040 : id = 6040
    · subst e6040; exact parts_6040 w
    by_cases e6050 : id = 6050
    · subst e6050; exact parts_6050 w
    by_cases e6060 : id = 6060
    · subst e6060; exact parts_6060 w
    by_cases e6071 : id = 6071
    · subst e6071; exact parts_6071 w
    by_cases e6080 : id = 6080
    · subst e6080; exact parts_6080 w
    by_cases e6090 : id = 6090
    · subst e6090; exact parts_6090 w
    by_cases e6120 : id = 6120
    · subst e6120; exact parts_6120 w
    exact absurd (fun e he => by simp [partsTab] at he; rcases he with rfl | rfl | rfl | rfl | rfl | rfl | rfl | rfl | rfl | rfl | rfl | rfl | rfl | rfl | rfl | rfl | rfl | rfl | rfl | rfl | rfl | rfl | rfl | rfl | rfl | rfl | rfl | rfl | rfl | rfl | rfl <;> assumption) h0

end Go.Proofs.Ytenpcadgelpbgaa
