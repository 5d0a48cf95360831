/-
  Worlds that differ in draws alone.
-/
import Derived.Test.YtgebfdgpbogalaaRgMemG
namespace Go.Proofs.Ytgebfdgpbogalaa.Rg
open Go.RowKit
set_option linter.unusedVariables false

/-- another world, of draws alone. -/
def Drew (w w' : World) : Prop := ∃ n, w.drewN n = w'
theorem Drew.refl (w : World) : Drew w w := ⟨0, rfl⟩
theorem Drew.more {w w' : World} (h : Drew w w') (m : Nat) : Drew w (w'.drewN m) := by
  obtain ⟨n, rfl⟩ := h
  exact ⟨n + m, by simp [World.drewN_drewN]⟩
theorem Drew.below {w w' : World} (h : Drew w w') : Below w.heap.size w w' := by
  obtain ⟨n, rfl⟩ := h
  exact Below.drewN (Below.refl _ _) _
end Go.Proofs.Ytgebfdgpbogalaa.Rg
