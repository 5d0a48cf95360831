/-
  package method's Same, walked, where some part is another one.
-/
import Derived.Test.YtenpcadgelpbgaaMSam
namespace Go.Proofs.Ytenpcadgelpbgaa
open Go.RowKit
set_option linter.unusedVariables false

set_option maxRecDepth 100000 in
set_option maxHeartbeats 4000000 in
theorem same_no9 {w : World} {m s : Me} {a b : Option Addr} {cap cap' : Nat} (q0 : (m.id == s.id) = true) (q1 : (m.name.toList == s.name.toList) = true) (q2 : (m.typ.toList == s.typ.toList) = true) (q3 : (m.ex.toList == s.ex.toList) = true) (q4 : (m.key.toList == s.key.toList) = true) (q5 : (m.text.toList == s.text.toList) = true) (q6 : (m.code == s.code) = true) (q7 : (m.count == s.count) = true) (q8 : ((m.tag : Int) == (s.tag : Int)) = true) (q9 : (m.flag == s.flag) = false) :
    Calls Try.prog 17 #[.agg (meC m a cap), .agg (meC s b cap')] w (fun e w' => e = .returned (.bool false) ∧ Below w.heap.size w w') := by
  have HB := Lib.hid (same_boxes w (meC m a cap) (meC s b cap'))
  unfold meC at *
  go_enter Try.func17, Try.ntmps17
  go_wp2_with fail
  go_ret
  exact ⟨by first | rfl | (simp [*]; done), HB.out⟩
set_option maxRecDepth 100000 in
set_option maxHeartbeats 4000000 in
theorem same_no10 {w : World} {m s : Me} {a b : Option Addr} {cap cap' : Nat} (q0 : (m.id == s.id) = true) (q1 : (m.name.toList == s.name.toList) = true) (q2 : (m.typ.toList == s.typ.toList) = true) (q3 : (m.ex.toList == s.ex.toList) = true) (q4 : (m.key.toList == s.key.toList) = true) (q5 : (m.text.toList == s.text.toList) = true) (q6 : (m.code == s.code) = true) (q7 : (m.count == s.count) = true) (q8 : ((m.tag : Int) == (s.tag : Int)) = true) (q9 : (m.flag == s.flag) = true) (q10 : (m.back == s.back) = false) :
    Calls Try.prog 17 #[.agg (meC m a cap), .agg (meC s b cap')] w (fun e w' => e = .returned (.bool false) ∧ Below w.heap.size w w') := by
  have HB := Lib.hid (same_boxes w (meC m a cap) (meC s b cap'))
  unfold meC at *
  go_enter Try.func17, Try.ntmps17
  go_wp2_with fail
  go_ret
  exact ⟨by first | rfl | (simp [*]; done), HB.out⟩
set_option maxRecDepth 100000 in
set_option maxHeartbeats 4000000 in
theorem same_yes {w : World} {m s : Me} {a b : Option Addr} {cap cap' : Nat} (Q : Bool → Prop) (q0 : (m.id == s.id) = true) (q1 : (m.name.toList == s.name.toList) = true) (q2 : (m.typ.toList == s.typ.toList) = true) (q3 : (m.ex.toList == s.ex.toList) = true) (q4 : (m.key.toList == s.key.toList) = true) (q5 : (m.text.toList == s.text.toList) = true) (q6 : (m.code == s.code) = true) (q7 : (m.count == s.count) = true) (q8 : ((m.tag : Int) == (s.tag : Int)) = true) (q9 : (m.flag == s.flag) = true) (q10 : (m.back == s.back) = true)
    (hQ : ∀ w1, Below w.heap.size w w1 → Calls Try.prog 40 #[.slice a m.args.length cap, .slice b s.args.length cap'] w1 (fun e w' => ∃ r : Bool, e = .returned (.bool r) ∧ Below w1.heap.size w1 w' ∧ Q r)) :
    Calls Try.prog 17 #[.agg (meC m a cap), .agg (meC s b cap')] w (fun e w' => ∃ r : Bool, e = .returned (.bool r) ∧ Below w.heap.size w w' ∧ Q r) := by
  have HB := Lib.hid (same_boxes w (meC m a cap) (meC s b cap'))
  have HQ := Lib.hid hQ
  clear hQ
  unfold meC at *
  go_enter Try.func17, Try.ntmps17
  go_wp2_with fail
  refine (HQ.out _ HB.out).mono ?_
  rintro e w2 ⟨r, rfl, hb2, hr⟩
  have HR := Lib.hid hr
  have HB2 := Lib.hid (HB.out.trans (hb2.mono HB.out.size))
  clear hr hb2
  go_wp2_with fail
  go_ret
  exact ⟨r, by first | rfl | (simp [*]; done), HB2.out, HR.out⟩

end Go.Proofs.Ytenpcadgelpbgaa
