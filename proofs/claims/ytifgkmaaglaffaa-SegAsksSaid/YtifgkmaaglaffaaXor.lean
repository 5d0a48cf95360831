/-
  A byte of a row turned by xor: the same row only by 0.
-/
import Derived.Test.YtifgkmaaglaffaaBy
import Derived.Laws.BitsAllLaws
namespace Go.Proofs.Ytifgkmaaglaffaa
set_option linter.unusedVariables false
theorem set_same {l : List UInt8} {k : Nat} (hk : k < l.length) : l.set k (l[k] ^^^ 0) = l := by
  rw [UInt8.xor_zero, List.set_getElem_self]
theorem set_turn {l : List UInt8} {k : Nat} (hk : k < l.length) {c : UInt8} (h : l.set k (l[k] ^^^ c) = l) : c = 0 := by
  have h2 : (l.set k (l[k] ^^^ c))[k]'(by simpa using hk) = l[k] := by simp only [h]
  rw [List.getElem_set_self] at h2
  have h3 := congrArg (fun x => l[k] ^^^ x) h2
  simp only [← UInt8.xor_assoc, UInt8.xor_self, UInt8.zero_xor] at h3
  exact h3
theorem xor_byte (x c : UInt8) : bits .xor .u8 (x.toNat : Int) (c.toNat : Int) = ((x ^^^ c).toNat : Int) := by
  rw [u8_xor_nat _ _ x.toNat_lt c.toNat_lt, UInt8.toNat_xor]
end Go.Proofs.Ytifgkmaaglaffaa
