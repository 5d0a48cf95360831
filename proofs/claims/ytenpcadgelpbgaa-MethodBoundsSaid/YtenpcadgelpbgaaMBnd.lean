/-
  MethodBounds.
-/
import Derived.Test.YtenpcadgelpbgaaMBnd0
import Derived.Test.YtenpcadgelpbgaaMBnd1
namespace Go.Proofs.Ytenpcadgelpbgaa
open Go.RowKit
set_option linter.unusedVariables false

theorem bounds_any (p0 : Int) (p1 : Bool) (w : World) (w0 : (Lit.int .i64 p0).wf = true) :
    Calls Try.prog 6 #[.int .i64 p0, .bool p1] w fun e w' => e = .returned (.bool true) ∧ Below w.heap.size w w' := by
  obtain ⟨q0, hq0⟩ : ∃ q, IntKind.u64.wrap p0 = q := ⟨_, rfl⟩
  have h0 : 0 ≤ q0 := by rw [← hq0, IntKind.wrap_u64]; omega
  cases p1
  · rcases mod_seven h0 with h | h | h | h | h | h | h
    · exact bnd0_0 hq0 h
    · exact bnd0_1 hq0 h
    · exact bnd0_2 hq0 h
    · exact bnd0_3 hq0 h
    · exact bnd0_4 hq0 h
    · exact bnd0_5 hq0 h
    · exact bnd0_6 hq0 h
  · rcases mod_seven h0 with h | h | h | h | h | h | h
    · exact bnd1_0 hq0 h
    · exact bnd1_1 hq0 h
    · exact bnd1_2 hq0 h
    · exact bnd1_3 hq0 h
    · exact bnd1_4 hq0 h
    · exact bnd1_5 hq0 h
    · exact bnd1_6 hq0 h

end Go.Proofs.Ytenpcadgelpbgaa
