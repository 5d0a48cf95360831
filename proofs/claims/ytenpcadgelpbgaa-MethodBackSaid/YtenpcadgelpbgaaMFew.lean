/-
  Few of a call.
-/
import Derived.Test.YtenpcadgelpbgaaMLeaf
import Derived.Test.YtenpcadgelpbgaaSize
namespace Go.Proofs.Ytenpcadgelpbgaa
open Go.RowKit
set_option linter.unusedVariables false

/-- what Few answers. -/
def FewMR (m : Me) (w : World) (e : Ending) (w' : World) : Prop := ∃ r : Bool, e = .returned (.bool r) ∧ Below w.heap.size w w' ∧ (r = true → weigh m.args ≤ 200)

set_option maxRecDepth 100000 in
set_option maxHeartbeats 4000000 in
theorem fewM_any {w : World} {m : Me} {a : Option Addr} {cap : Nat} (ht : Tb w a cap m.args) (wf : m.Wf) :
    Calls Try.prog 8 #[.agg (meC m a cap)] w (FewMR m w) := by
  have hb : Below w.heap.size w (w.alloc (.cells (meC m a cap) 25)) := (Below.refl _ _).alloc (Nat.le_refl _) _
  have HB := Lib.hid hb
  have HT := Lib.hid (ht.below hb)
  have s1 := wf.s1
  have s2 := wf.s2
  have s3 := wf.s3
  have s4 := wf.s4
  have s5 := wf.s5
  unfold maxLen at s1 s2 s3 s4 s5
  clear ht wf hb
  unfold meC at *
  by_cases h_name : (m.name.size : Int) ≤ 400
  case neg =>
    go_enter Try.func8, Try.ntmps8
    go_wp2_with fail
    go_ret
    exact ⟨false, by first | rfl | (simp [*]; done), HB.out, fun h => by cases h⟩
  by_cases h_typ : (m.typ.size : Int) ≤ 400
  case neg =>
    go_enter Try.func8, Try.ntmps8
    go_wp2_with fail
    go_ret
    exact ⟨false, by first | rfl | (simp [*]; done), HB.out, fun h => by cases h⟩
  by_cases h_ex : (m.ex.size : Int) ≤ 400
  case neg =>
    go_enter Try.func8, Try.ntmps8
    go_wp2_with fail
    go_ret
    exact ⟨false, by first | rfl | (simp [*]; done), HB.out, fun h => by cases h⟩
  by_cases h_key : (m.key.size : Int) ≤ 400
  case neg =>
    go_enter Try.func8, Try.ntmps8
    go_wp2_with fail
    go_ret
    exact ⟨false, by first | rfl | (simp [*]; done), HB.out, fun h => by cases h⟩
  by_cases h_text : (m.text.size : Int) ≤ 400
  case neg =>
    go_enter Try.func8, Try.ntmps8
    go_wp2_with fail
    go_ret
    exact ⟨false, by first | rfl | (simp [*]; done), HB.out, fun h => by cases h⟩
  go_enter Try.func8, Try.ntmps8
  go_wp2_with fail
  refine (few_any _ HT.out).mono ?_
  rintro e w1 ⟨r, rfl, rfl, hr⟩
  have HR := Lib.hid hr
  clear hr
  go_wp2_with fail
  go_ret
  exact ⟨r, by first | rfl | (simp [*]; done), HB.out, HR.out⟩

end Go.Proofs.Ytenpcadgelpbgaa
