/-
  Few arcs: at most 60.
-/
import Derived.Test.YtphamgnafhmelaaDoorRgTold
import Derived.Test.YtphamgnafhmelaaDoorRgArg
namespace Go.Proofs.YtphamgnafhmelaaDoor.Rg
open Go.RowKit
set_option linter.unusedVariables false

set_option maxHeartbeats 400000 in
theorem few_any (a : Option Addr) (cap : Nat) (n : Nat) (w : World) :
    Calls Tryd.prog 10 #[.slice a n cap] w fun e w' => e = .returned (.bool (decide (n ≤ 60))) ∧ w = w' := by
  obtain ⟨q, hq⟩ : ∃ q, decide (n ≤ 60) = q := ⟨_, rfl⟩
  have h : decide ((n : Int) ≤ 60) = q := by rw [← hq, decide_eq_decide]; omega
  rw [hq]
  clear hq
  go_enter Tryd.func10, Tryd.ntmps10
  go_wp2_with fail
  go_ret
  exact ⟨ret_bool (by first | exact h | simp [← h]), rfl⟩

end Go.Proofs.YtphamgnafhmelaaDoor.Rg
