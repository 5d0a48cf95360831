/-
  A shard that is answered out of a box, however wide the frame.
-/
import Derived.Test.YtgebfdgpbogalaaShTold
namespace Go.Proofs.Ytgebfdgpbogalaa.Sh
open Go.RowKit Rg Go.Sort
set_option linter.unusedVariables false
set_option linter.unusedSimpArgs false

theorem load_sd {w : World} {g : Nat} {x y z u v : Value} (h : w.heap[g]? = some (.cells #[x, y, z, u, v] 47 (0, 0))) : (loadVar 47 ⟨g, 0, none⟩).run Try.prog w = .ok (.agg #[x, y, z, u, v]) w := by
  obtain ⟨⟨c0, c1, c2, c3, c4⟩, -⟩ := box5 h
  simp [go_sem, *]
theorem res_sd {fn : Func} {i j : Tmp} {tmps : Array Value} {g : Nat} {c x y z u v : Value} {w : World} (hr : fn.results = #[.cell i 47, .tmp j]) (hi : tmps.getD i undef = .pointer (some ⟨g, 0, none⟩)) (hj : tmps.getD j undef = c)
    (h : w.heap[g]? = some (.cells #[x, y, z, u, v] 47 (0, 0))) : (results fn tmps).run Try.prog w = .ok (.tuple #[.agg #[x, y, z, u, v], c]) w := by
  have hl := load_sd h
  unfold results
  rw [hr]
  rw [Array.getD_eq_getD_getElem?] at hi hj
  obtain ⟨⟨c0, c1, c2, c3, c4⟩, -⟩ := box5 h
  simp [go_sem, hi, hj, *]

end Go.Proofs.Ytgebfdgpbogalaa.Sh
