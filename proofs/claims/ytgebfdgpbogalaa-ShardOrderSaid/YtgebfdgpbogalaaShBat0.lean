/-
  What a batch may be, on the way.
-/
import Derived.Test.YtgebfdgpbogalaaShMks
import Derived.Deep.LoopGhost
namespace Go.Proofs.Ytgebfdgpbogalaa.Sh
open Go.RowKit Rg Go.Sort
set_option linter.unusedVariables false
set_option linter.unusedSimpArgs false

theorem bat_more {l : List Mg} {i : Nat} (h : ∀ (j : Nat) (hj : j < l.length), j < i → OkB l[j] (l.headD mg0) j) (hi : i < l.length) (hx : OkB l[i] (l.headD mg0) i) : ∀ (j : Nat) (hj : j < l.length), j < i + 1 → OkB l[j] (l.headD mg0) j := by
  intro j hj hji
  by_cases e : j = i
  · subst e; exact hx
  · exact h j hj (by omega)

end Go.Proofs.Ytgebfdgpbogalaa.Sh
