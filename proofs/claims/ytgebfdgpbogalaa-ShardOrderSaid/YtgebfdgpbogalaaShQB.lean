/-
  A region that draws its order, whose operations read alone and whose callees leave all that was there as it was: walked once, in the order of the text.
-/
import Derived.Test.YtgebfdgpbogalaaShLeaf
import Derived.BigQuiet
namespace Go.Proofs.Ytgebfdgpbogalaa.Sh
open Go.RowKit Rg
set_option linter.unusedVariables false

/-- a world in which all that W has is as it was. -/
structure Und (W : World) where
  wx : World
  hb : Below W.heap.size W wx
instance (W : World) : Nonempty (Und W) := ⟨⟨W, Below.refl _ _⟩⟩
theorem wp_region_quiet_below {P : Program} {id : Nat} {Q : Exit → Act → World → Prop} {a : Act} {W : World} {l : List Oper} (hm : P.follows .mixedOrders = true) (hB : Region.lexB .any l.toArray = true)
    (h : wpQuiet P l.toArray (fun w' => ∃ p : Und W, w' = p.wx) (fun a' => ∀ w', (∃ p : Und W, w' = p.wx) → Q .normal a' w') l a) : (Code.region id l.toArray true).wp P Q a W :=
  wp_region_quiet (C := fun w' => ∃ p : Und W, w' = p.wx) hm hB ⟨⟨_, (Below.refl _ _).drew⟩, rfl⟩ (by simpa using h)
theorem Calls.below_of {P : Program} {f : FuncId} {args : Array Value} {W : World} {p : Und W} {v : Value} (h : Calls P f args p.wx fun e w' => e = .returned v ∧ Below p.wx.heap.size p.wx w') : Calls P f args p.wx fun e w'' => e = .returned v ∧ ∃ q : Und W, w'' = q.wx :=
  h.mono fun _ _ ⟨he, hb⟩ => ⟨he, ⟨_, p.hb.trans (hb.mono p.hb.size)⟩, rfl⟩
theorem cell_und {W : World} {a : Addr} {v : Value} (h : W.cell? a = some v) (p : Und W) : p.wx.cell? a = some v := (p.hb.cell (World.block_lt_of_cell? W a h)).trans h

end Go.Proofs.Ytgebfdgpbogalaa.Sh
