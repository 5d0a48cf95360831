/-
  package value's reader: take, number, counted, kind, walked.
-/
import Derived.Test.YtpibbgencojbgaaOctR
import Derived.Test.YtpibbgencojbgaaMem
import Derived.Lib.Bytealg
import Derived.IntWalk
import Derived.Laws.Externs
import Derived.Laws.Bits64b
namespace Go.Proofs.Ytpibbgencojbgaa
open Go.RowKit
set_option linter.unusedVariables false

variable {B : Nat}
/-- which of the letters a byte is. -/
theorem kindOf_index (c : UInt8) : Lib.indexByte [86, 116, 73, 108, 83, 70] c = kindOf c.toNat := by
  have h : ∀ i : Fin 256, Lib.indexByte [86, 116, 73, 108, 83, 70] (UInt8.ofNat i.val) = kindOf i.val := by decide +kernel
  have := h ⟨c.toNat, c.toNat_lt⟩
  simpa using this

set_option maxRecDepth 100000 in
set_option maxHeartbeats 4000000 in
theorem index3_any (c : UInt8) (w : World) :
    Calls Try.prog 78 #[.string ⟨#[86, 116, 73, 108, 83, 70]⟩, .int .u8 c.toNat] w fun e w' => e = .returned (.int .i64 (kindOf c.toNat)) ∧ w = w' := by
  go_enter Try.func78, Try.ntmps78
  go_wp2_with fail
  rw [run_callFunc_extern Try.func79 (by kernel_rfl) (by kernel_rfl) (by kernel_rfl) (e := Extern.BytealgIndexByte.indexByte) (by kernel_rfl), Lib.run_indexByteString]
  simp only [Result.andThen]
  rw [Oper.upon_value]
  go_wp2_with fail
  go_ret
  refine ⟨?_, rfl⟩
  have h := kindOf_index c
  rw [← h]
  simp

set_option maxHeartbeats 1000000 in
theorem index2_any (c : UInt8) (w : World) :
    Calls Try.prog 77 #[.string ⟨#[86, 116, 73, 108, 83, 70]⟩, .int .u8 c.toNat] w fun e w' => e = .returned (.int .i64 (kindOf c.toNat)) ∧ w = w' := by
  go_enter Try.func77, Try.ntmps77
  go_wp2_with fail
  refine (index3_any c _).mono ?_
  rintro e w1 ⟨rfl, rfl⟩
  go_wp2_with fail
  go_ret
  exact ⟨rfl, rfl⟩

set_option maxRecDepth 100000 in
set_option maxHeartbeats 4000000 in
theorem kind_any (g : Nat) (l : List UInt8) (bad : Bool) (w : World) (hr : Rd 74 B w g l bad) :
    Calls Try.prog 75 #[.pointer (some ⟨g, 0, none⟩)] w fun e w' => e = .returned (.int .i64 (kindOf (numP 1 l).1)) ∧ Rd 74 B w' g (numP 1 l).2.1 (bad || (numP 1 l).2.2) ∧ w.grownBy w' (some g) := by
  have HR := Lib.hid hr
  clear hr
  have h256 := num1_lt l
  have hw : IntKind.u8.wrap ((numP 1 l).1 : Int) = (((UInt8.ofNat (numP 1 l).1).toNat : Nat) : Int) := by
    rw [IntKind.wrap_u8, UInt8.toNat_ofNat']; omega
  have he : (UInt8.ofNat (numP 1 l).1).toNat = (numP 1 l).1 := by rw [UInt8.toNat_ofNat']; omega
  have H256 := Lib.hid h256
  clear he h256
  go_enter Try.func75, Try.ntmps75
  go_wp2_with fail
  refine (number_any g 1 (by decide) l bad _ HR.out).mono ?_
  rintro e w1 ⟨rfl, hr1, hg1⟩
  have HR1 := Lib.hid hr1
  have HG1 := Lib.hid hg1
  clear hr1 hg1
  go_wp2_with fail
  refine (index2_any (UInt8.ofNat (numP 1 l).1) _).mono ?_
  rintro e w2 ⟨rfl, rfl⟩
  go_wp2_with fail
  go_ret
  exact ⟨by rw [Nat.mod_eq_of_lt H256.out]; rfl, HR1.out, HG1.out⟩

end Go.Proofs.Ytpibbgencojbgaa
