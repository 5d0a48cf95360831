/-
  letters as a text: what stands first, and the rest.
-/
import Derived.Test.YtenpcadgelpbgaaMDat
import Derived.Test.YtenpcadgelpbgaaBy
import Derived.Laws.Strings3
namespace Go.Proofs.Ytenpcadgelpbgaa
open Go.RowKit
set_option linter.unusedVariables false

theorem ltr_index (l : List Pt) (k : Nat) (h : k < l.length) (w : World) : (Instr.index 9 (.string (ltr l)) (.int .i64 k)).run Try.prog w = .ok (.int .u8 (l[k].byte.toNat)) w := by
  rw [run_index_string w _ _ _ _ Try.underlying9, dif_pos ⟨by omega, by rw [ltr_size]; omega⟩]
  have : (ltr l)[(k : Int).toNat]'(by rw [ltr_size]; omega) = l[k].byte := by
    simp [ltr, ByteArray.getElem_eq_getElem_data]
  rw [this]
theorem ltr_slice (p : Pt) (r : List Pt) (w : World) : (Instr.slice 9 (.string (ltr (p :: r))) (some (.int .i64 1)) none none).run Try.prog w = .ok (.string (ltr r)) w := by
  rw [run_slice_string_from_if w _ _ _ _ Try.underlying9, if_pos ⟨by omega, by rw [ltr_size]; simp; omega⟩]
  have : (ltr (p :: r)).extract (1 : Int).toNat (ltr (p :: r)).size = ltr r := by
    have hz : (ltr (p :: r)).size = (r.map Pt.byte).length + 1 := by rw [ltr_size]; simp
    apply ByteArray.ext
    rw [hz]
    simp [ltr, ByteArray.data_extract]
    exact List.take_of_length_le (by simp)
  rw [this]
theorem ltr_list (l : List Pt) : (ltr l).toList = l.map Pt.byte := by unfold ltr; simp
theorem ltr_dash (l : List Pt) : ¬ (ltr l).toList = [45] ∧ ((ltr l).toList == [45]) = false := by
  have h : ¬ (ltr l).toList = [45] := by
    rw [ltr_list]
    intro h
    match l, h with
    | [p], h => cases p <;> exact absurd h (by decide)
    | p :: q :: r, h => simp at h
    | [], h => simp at h
  exact ⟨h, by rw [beq_eq_false_iff_ne]; exact h⟩

theorem ltr_nil : ltr [] = ⟨#[]⟩ := rfl
theorem ltr_cons (p : Pt) (r : List Pt) : ¬ (ltr (p :: r)).toList = [] ∧ ((ltr (p :: r)).toList == []) = false ∧ (ltr (p :: r)).toList.isEmpty = false := by
  rw [ltr_list]
  exact ⟨by simp, rfl, rfl⟩

end Go.Proofs.Ytenpcadgelpbgaa
