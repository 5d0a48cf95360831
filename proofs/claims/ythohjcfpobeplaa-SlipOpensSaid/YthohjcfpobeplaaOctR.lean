/-
  package octet's Reader, walked.
-/
import Derived.Test.YthohjcfpobeplaaOctT
namespace Go.Proofs.Ythohjcfpobeplaa
open Go.RowKit
set_option linter.unusedVariables false

variable {T : TypeId} {B : Nat}
set_option maxRecDepth 100000 in
set_option maxHeartbeats 4000000 in
theorem counted_any (g k : Nat) (hk : k ≤ 8) (l : List UInt8) (bad : Bool) (w : World) (hr : Rd T B w g l bad) :
    Calls Try.prog 141 #[.pointer (some ⟨g, 0, none⟩), .int .i64 k] w fun e w' => ∃ v, e = .returned v ∧ BytesIn B w' v (cntP k l).1 ∧ Rd T B w' g (cntP k l).2.1 (bad || (cntP k l).2.2) ∧ w.grownBy w' (some g) := by
  have HR := Lib.hid hr
  clear hr
  go_enter Try.func141, Try.ntmps141
  go_wp2_with fail
  refine (number_any g k hk l bad _ HR.out).mono ?_
  rintro e w1 ⟨rfl, hr1, hg1⟩
  have HR1 := Lib.hid hr1
  have HG1 := Lib.hid hg1
  clear hr1 hg1
  go_wp2_with fail
  refine (take_any g _ (numP_lt64 k hk l) _ _ _ HR1.out).mono ?_
  rintro e w2 ⟨v2, rfl, hb2, hr2, hg2⟩
  have HB2 := Lib.hid hb2
  have HR2 := Lib.hid hr2
  have HG2 := Lib.hid (GrownBy.trans HG1.out hg2)
  clear hb2 hr2 hg2
  go_wp2_with fail
  go_ret
  refine ⟨_, rfl, HB2.out, ?_, HG2.out⟩
  have := HR2.out
  rw [Bool.or_assoc] at this
  exact this

end Go.Proofs.Ythohjcfpobeplaa
