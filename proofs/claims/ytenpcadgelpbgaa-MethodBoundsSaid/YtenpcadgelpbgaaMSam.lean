/-
  package method's Same: what it answers, whatever the tables' Same is.
-/
import Derived.Test.YtenpcadgelpbgaaMLeaf
namespace Go.Proofs.Ytenpcadgelpbgaa
open Go.RowKit
set_option linter.unusedVariables false

/-- all but the tables are the same. -/
def HeadEq (m s : Me) : Prop := m.id = s.id ∧ m.name = s.name ∧ m.typ = s.typ ∧ m.ex = s.ex ∧ m.key = s.key ∧ m.text = s.text ∧ m.code = s.code ∧ m.count = s.count ∧ m.tag = s.tag ∧ m.flag = s.flag ∧ m.back = s.back
theorem HeadEq.eq {m s : Me} (h : HeadEq m s) (ha : m.args = s.args) : m = s := by
  obtain ⟨h0, h1, h2, h3, h4, h5, h6, h7, h8, h9, h10⟩ := h
  cases m; cases s
  simp only at *
  simp_all
theorem HeadEq.refl (m : Me) : HeadEq m m := ⟨rfl, rfl, rfl, rfl, rfl, rfl, rfl, rfl, rfl, rfl, rfl⟩

/-- Same's answer, Q being that of the tables. -/
def SameM (m s : Me) (Q : Bool → Prop) (w : World) (e : Ending) (w' : World) : Prop :=
  ∃ r : Bool, e = .returned (.bool r) ∧ Below w.heap.size w w' ∧ ((HeadEq m s ∧ Q r) ∨ (¬ HeadEq m s ∧ r = false))
theorem same_boxes (w : World) (c d : Array Value) : Below w.heap.size w ((w.alloc (.cells c 25)).alloc (.cells d 25)) := ((Below.refl _ _).alloc (Nat.le_refl _) _).alloc (by simp) _

end Go.Proofs.Ytenpcadgelpbgaa
