/-
  ring.mayShard, walked.
-/
import Derived.Test.YthohjcfpobeplaaRgMem
import Derived.Deep.QuietTactic
import Derived.BigQuiet
namespace Go.Proofs.Ythohjcfpobeplaa.Rg
open Go.RowKit
set_option linter.unusedVariables false

def okS (s : Int) : Bool := decide (0 ≤ s ∧ s < 16)
set_option maxHeartbeats 400000 in
theorem mayShard_any (s : Int) (w : World) :
    Calls Try.prog 88 #[.int .i64 s] w fun e w' => e = .returned (.bool (okS s)) ∧ w = w' := by
  by_cases h1 : 0 ≤ s
  · by_cases h2 : s < 16
    · have hk : okS s = true := by unfold okS; simp [h1, h2]
      rw [hk]
      clear hk
      go_enter Try.func88, Try.ntmps88
      go_wp2
      go_ret
      exact ⟨rfl, rfl⟩
    · have hk : okS s = false := by unfold okS; simp; omega
      rw [hk]
      clear hk
      go_enter Try.func88, Try.ntmps88
      go_wp2
      go_ret
      exact ⟨rfl, rfl⟩
  · have hk : okS s = false := by unfold okS; simp; omega
    rw [hk]
    clear hk
    go_enter Try.func88, Try.ntmps88
    go_wp2
    go_ret
    exact ⟨rfl, rfl⟩

end Go.Proofs.Ythohjcfpobeplaa.Rg
