/-
  []byte(s) of a string. No function of the program is named here.
-/
import Derived.Test.YtifgkmaaglaffaaBy
import Derived.Lib.ConvBytes
import Derived.Laws.IdiomStrings
namespace Go.Proofs.Ytifgkmaaglaffaa
open Go.RowKit
set_option linter.unusedVariables false

theorem bytesW_below (wx : World) (e : TypeId) (t : ByteArray) : Below wx.heap.size wx (Lib.bytesWorld wx e t) :=
  ⟨rfl, rfl, rfl, by rw [Lib.bytesWorld_size]; omega, fun k hk => Lib.bytesWorld_at_old wx e t k hk⟩
theorem conv_bytes (l : List UInt8) (hl : l.length ≤ 100000) (w : World) : ∃ (c : Nat) (w' : World), (convert 9 22 (.string ⟨l.toArray⟩)).run Try.prog w = .ok (.slice (some ⟨w.heap.size, 0, none⟩) l.length c) w' ∧ l.length ≤ c ∧ c ≤ maxLen ∧
    BytesAt w'.heap.size w' (some ⟨w.heap.size, 0, none⟩) l ∧ Below w.heap.size w w' ∧ w'.heap.size = w.heap.size + 1 := by
  have h := Lib.run_convert_string_bytes (P := Try.prog) w 9 22 5 ⟨l.toArray⟩ Try.underlying9 Try.underlying22 Try.underlying5
  have hs : (⟨l.toArray⟩ : ByteArray).size = l.length := rfl
  rw [hs] at h
  refine ⟨_, _, h, ?_, ?_, ?_, bytesW_below _ _ _, Lib.bytesWorld_size _ _ _⟩
  · exact grownCap_ge _ _ _ _
  · exact grownCap_le_maxLen _ _ _ _ (by unfold maxLen; omega)
  · intro h0
    refine ⟨w.heap.size, 0, rfl, by rw [Lib.bytesWorld_size]; omega, fun i hi => ?_⟩
    have := Lib.bytesWorld_cell w 5 ⟨l.toArray⟩ i (by rw [hs]; exact hi)
    rw [Nat.zero_add, this]
    simp [List.getD, List.getElem?_eq_getElem hi]

end Go.Proofs.Ytifgkmaaglaffaa
