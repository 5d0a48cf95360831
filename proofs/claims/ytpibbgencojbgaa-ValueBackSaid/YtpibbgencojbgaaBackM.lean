/-
  A row of bytes in memory: its copy, one of it turned.
-/
import Derived.Test.YtpibbgencojbgaaGetT
import Derived.Test.YtpibbgencojbgaaPutT
import Derived.Deep.OwnRows
import Derived.Deep.AppendLies
import Derived.Laws.OwnMore
import Derived.Laws.BitsAllLaws
namespace Go.Proofs.Ytpibbgencojbgaa
open Go.RowKit
set_option linter.unusedVariables false

theorem xor_byte (x c : UInt8) : bits .xor .u8 (x.toNat : Int) (c.toNat : Int) = ((x ^^^ c).toNat : Int) := by
  rw [u8_xor_nat _ _ x.toNat_lt c.toNat_lt, UInt8.toNat_xor]
end Go.Proofs.Ytpibbgencojbgaa
