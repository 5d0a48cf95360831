/-
  Few of a call.
  the document's SameMethod, walked, where some part is another one.
  the document's SameMethod, walked, where some part is another one.
  the document's SameMethod, walked, where some part is another one.
  the document's SameMethod, walked, where some part is another one.
  the document's SameMethod, walked.
-/
import Derived.Test.YtjnnpgmgjdhfjaaQMPartsxffdf
import Derived.Test.YtjnnpgmgjdhfjaaQSizexbcca
import Derived.Test.YtjnnpgmgjdhfjaaQGetxcbdf
namespace Go.Proofs.Ytjnnpgmgjdhfjaa
open Go.RowKit
set_option linter.unusedVariables false

/-- what Few answers. -/
def FewMR (m : Me) (w : World) (e : Ending) (w' : World) : Prop := ∃ r : Bool, e = .returned (.bool r) ∧ Below w.heap.size w w' ∧ (r = true → weigh m.args ≤ 200)

set_option maxRecDepth 100000 in
set_option maxHeartbeats 4000000 in
theorem fewM_any {w : World} {m : Me} {a : Option Addr} {cap : Nat} (ht : Tb w a cap m.args) (wf : m.Wf) :
    Calls Try.prog 6 #[.agg (meC m a cap)] w (FewMR m w) := by
  have hb : Below w.heap.size w (w.alloc (.cells (meC m a cap) 25)) := (Below.refl _ _).alloc (Nat.le_refl _) _
  have HB := Lib.hid hb
  have HT := Lib.hid (ht.below hb)
  have s1 := wf.s1
  have s2 := wf.s2
  have s3 := wf.s3
  have s4 := wf.s4
  have s5 := wf.s5
  unfold maxLen at s1 s2 s3 s4 s5
  clear ht wf hb
  unfold meC at *
  by_cases h_name : (m.name.size : Int) ≤ 400
  case neg =>
    go_enter Try.func6, Try.ntmps6
    go_wp2_with fail
    go_ret
    exact ⟨false, by first | rfl | (simp [*]; done), HB.out, fun h => by cases h⟩
  by_cases h_typ : (m.typ.size : Int) ≤ 400
  case neg =>
    go_enter Try.func6, Try.ntmps6
    go_wp2_with fail
    go_ret
    exact ⟨false, by first | rfl | (simp [*]; done), HB.out, fun h => by cases h⟩
  by_cases h_ex : (m.ex.size : Int) ≤ 400
  case neg =>
    go_enter Try.func6, Try.ntmps6
    go_wp2_with fail
    go_ret
    exact ⟨false, by first | rfl | (simp [*]; done), HB.out, fun h => by cases h⟩
  by_cases h_key : (m.key.size : Int) ≤ 400
  case neg =>
    go_enter Try.func6, Try.ntmps6
    go_wp2_with fail
    go_ret
    exact ⟨false, by first | rfl | (simp [*]; done), HB.out, fun h => by cases h⟩
  by_cases h_text : (m.text.size : Int) ≤ 400
  case neg =>
    go_enter Try.func6, Try.ntmps6
    go_wp2_with fail
    go_ret
    exact ⟨false, by first | rfl | (simp [*]; done), HB.out, fun h => by cases h⟩
  go_enter Try.func6, Try.ntmps6
  go_wp2_with fail
  refine (few_any _ HT.out).mono ?_
  rintro e w1 ⟨r, rfl, rfl, hr⟩
  have HR := Lib.hid hr
  clear hr
  go_wp2_with fail
  go_ret
  exact ⟨r, by first | rfl | (simp [*]; done), HB.out, HR.out⟩

end Go.Proofs.Ytjnnpgmgjdhfjaa

namespace Go.Proofs.Ytjnnpgmgjdhfjaa
open Go.RowKit
set_option linter.unusedVariables false

set_option maxRecDepth 100000 in
set_option maxHeartbeats 4000000 in
theorem rsam_no0 {w : World} {m s : Me} {a b : Option Addr} {cap cap' : Nat}  (q0 : (m.id == s.id) = false) :
    Calls Try.prog 15 #[.agg (meC m a cap), .agg (meC s b cap')] w (fun e w' => e = .returned (.bool false) ∧ Below w.heap.size w w') := by
  have HB := Lib.hid (same_boxes w (meC m a cap) (meC s b cap'))
  unfold meC at *
  go_enter Try.func15, Try.ntmps15
  go_wp2_with fail
  go_ret
  exact ⟨by first | rfl | (simp [*]; done), HB.out⟩
set_option maxRecDepth 100000 in
set_option maxHeartbeats 4000000 in
theorem rsam_no1 {w : World} {m s : Me} {a b : Option Addr} {cap cap' : Nat} (q0 : (m.id == s.id) = true) (q1 : (m.name.toList == s.name.toList) = false) :
    Calls Try.prog 15 #[.agg (meC m a cap), .agg (meC s b cap')] w (fun e w' => e = .returned (.bool false) ∧ Below w.heap.size w w') := by
  have HB := Lib.hid (same_boxes w (meC m a cap) (meC s b cap'))
  unfold meC at *
  go_enter Try.func15, Try.ntmps15
  go_wp2_with fail
  go_ret
  exact ⟨by first | rfl | (simp [*]; done), HB.out⟩
set_option maxRecDepth 100000 in
set_option maxHeartbeats 4000000 in
theorem rsam_no2 {w : World} {m s : Me} {a b : Option Addr} {cap cap' : Nat} (q0 : (m.id == s.id) = true) (q1 : (m.name.toList == s.name.toList) = true) (q2 : (m.typ.toList == s.typ.toList) = false) :
    Calls Try.prog 15 #[.agg (meC m a cap), .agg (meC s b cap')] w (fun e w' => e = .returned (.bool false) ∧ Below w.heap.size w w') := by
  have HB := Lib.hid (same_boxes w (meC m a cap) (meC s b cap'))
  unfold meC at *
  go_enter Try.func15, Try.ntmps15
  go_wp2_with fail
  go_ret
  exact ⟨by first | rfl | (simp [*]; done), HB.out⟩

end Go.Proofs.Ytjnnpgmgjdhfjaa

namespace Go.Proofs.Ytjnnpgmgjdhfjaa
open Go.RowKit
set_option linter.unusedVariables false

set_option maxRecDepth 100000 in
set_option maxHeartbeats 4000000 in
theorem rsam_no3 {w : World} {m s : Me} {a b : Option Addr} {cap cap' : Nat} (q0 : (m.id == s.id) = true) (q1 : (m.name.toList == s.name.toList) = true) (q2 : (m.typ.toList == s.typ.toList) = true) (q3 : (m.ex.toList == s.ex.toList) = false) :
    Calls Try.prog 15 #[.agg (meC m a cap), .agg (meC s b cap')] w (fun e w' => e = .returned (.bool false) ∧ Below w.heap.size w w') := by
  have HB := Lib.hid (same_boxes w (meC m a cap) (meC s b cap'))
  unfold meC at *
  go_enter Try.func15, Try.ntmps15
  go_wp2_with fail
  go_ret
  exact ⟨by first | rfl | (simp [*]; done), HB.out⟩
set_option maxRecDepth 100000 in
set_option maxHeartbeats 4000000 in
theorem rsam_no4 {w : World} {m s : Me} {a b : Option Addr} {cap cap' : Nat} (q0 : (m.id == s.id) = true) (q1 : (m.name.toList == s.name.toList) = true) (q2 : (m.typ.toList == s.typ.toList) = true) (q3 : (m.ex.toList == s.ex.toList) = true) (q4 : (m.key.toList == s.key.toList) = false) :
    Calls Try.prog 15 #[.agg (meC m a cap), .agg (meC s b cap')] w (fun e w' => e = .returned (.bool false) ∧ Below w.heap.size w w') := by
  have HB := Lib.hid (same_boxes w (meC m a cap) (meC s b cap'))
  unfold meC at *
  go_enter Try.func15, Try.ntmps15
  go_wp2_with fail
  go_ret
  exact ⟨by first | rfl | (simp [*]; done), HB.out⟩
set_option maxRecDepth 100000 in
set_option maxHeartbeats 4000000 in
theorem rsam_no5 {w : World} {m s : Me} {a b : Option Addr} {cap cap' : Nat} (q0 : (m.id == s.id) = true) (q1 : (m.name.toList == s.name.toList) = true) (q2 : (m.typ.toList == s.typ.toList) = true) (q3 : (m.ex.toList == s.ex.toList) = true) (q4 : (m.key.toList == s.key.toList) = true) (q5 : (m.text.toList == s.text.toList) = false) :
    Calls Try.prog 15 #[.agg (meC m a cap), .agg (meC s b cap')] w (fun e w' => e = .returned (.bool false) ∧ Below w.heap.size w w') := by
  have HB := Lib.hid (same_boxes w (meC m a cap) (meC s b cap'))
  unfold meC at *
  go_enter Try.func15, Try.ntmps15
  go_wp2_with fail
  go_ret
  exact ⟨by first | rfl | (simp [*]; done), HB.out⟩

end Go.Proofs.Ytjnnpgmgjdhfjaa

namespace Go.Proofs.Ytjnnpgmgjdhfjaa
open Go.RowKit
set_option linter.unusedVariables false

set_option maxRecDepth 100000 in
set_option maxHeartbeats 4000000 in
theorem rsam_no6 {w : World} {m s : Me} {a b : Option Addr} {cap cap' : Nat} (q0 : (m.id == s.id) = true) (q1 : (m.name.toList == s.name.toList) = true) (q2 : (m.typ.toList == s.typ.toList) = true) (q3 : (m.ex.toList == s.ex.toList) = true) (q4 : (m.key.toList == s.key.toList) = true) (q5 : (m.text.toList == s.text.toList) = true) (q6 : (m.code == s.code) = false) :
    Calls Try.prog 15 #[.agg (meC m a cap), .agg (meC s b cap')] w (fun e w' => e = .returned (.bool false) ∧ Below w.heap.size w w') := by
  have HB := Lib.hid (same_boxes w (meC m a cap) (meC s b cap'))
  unfold meC at *
  go_enter Try.func15, Try.ntmps15
  go_wp2_with fail
  go_ret
  exact ⟨by first | rfl | (simp [*]; done), HB.out⟩
set_option maxRecDepth 100000 in
set_option maxHeartbeats 4000000 in
theorem rsam_no7 {w : World} {m s : Me} {a b : Option Addr} {cap cap' : Nat} (q0 : (m.id == s.id) = true) (q1 : (m.name.toList == s.name.toList) = true) (q2 : (m.typ.toList == s.typ.toList) = true) (q3 : (m.ex.toList == s.ex.toList) = true) (q4 : (m.key.toList == s.key.toList) = true) (q5 : (m.text.toList == s.text.toList) = true) (q6 : (m.code == s.code) = true) (q7 : (m.count == s.count) = false) :
    Calls Try.prog 15 #[.agg (meC m a cap), .agg (meC s b cap')] w (fun e w' => e = .returned (.bool false) ∧ Below w.heap.size w w') := by
  have HB := Lib.hid (same_boxes w (meC m a cap) (meC s b cap'))
  unfold meC at *
  go_enter Try.func15, Try.ntmps15
  go_wp2_with fail
  go_ret
  exact ⟨by first | rfl | (simp [*]; done), HB.out⟩
set_option maxRecDepth 100000 in
set_option maxHeartbeats 4000000 in
theorem rsam_no8 {w : World} {m s : Me} {a b : Option Addr} {cap cap' : Nat} (q0 : (m.id == s.id) = true) (q1 : (m.name.toList == s.name.toList) = true) (q2 : (m.typ.toList == s.typ.toList) = true) (q3 : (m.ex.toList == s.ex.toList) = true) (q4 : (m.key.toList == s.key.toList) = true) (q5 : (m.text.toList == s.text.toList) = true) (q6 : (m.code == s.code) = true) (q7 : (m.count == s.count) = true) (q8 : ((m.tag : Int) == (s.tag : Int)) = false) :
    Calls Try.prog 15 #[.agg (meC m a cap), .agg (meC s b cap')] w (fun e w' => e = .returned (.bool false) ∧ Below w.heap.size w w') := by
  have HB := Lib.hid (same_boxes w (meC m a cap) (meC s b cap'))
  unfold meC at *
  go_enter Try.func15, Try.ntmps15
  go_wp2_with fail
  go_ret
  exact ⟨by first | rfl | (simp [*]; done), HB.out⟩

end Go.Proofs.Ytjnnpgmgjdhfjaa

namespace Go.Proofs.Ytjnnpgmgjdhfjaa
open Go.RowKit
set_option linter.unusedVariables false

set_option maxRecDepth 100000 in
set_option maxHeartbeats 4000000 in
theorem rsam_no9 {w : World} {m s : Me} {a b : Option Addr} {cap cap' : Nat} (q0 : (m.id == s.id) = true) (q1 : (m.name.toList == s.name.toList) = true) (q2 : (m.typ.toList == s.typ.toList) = true) (q3 : (m.ex.toList == s.ex.toList) = true) (q4 : (m.key.toList == s.key.toList) = true) (q5 : (m.text.toList == s.text.toList) = true) (q6 : (m.code == s.code) = true) (q7 : (m.count == s.count) = true) (q8 : ((m.tag : Int) == (s.tag : Int)) = true) (q9 : (m.flag == s.flag) = false) :
    Calls Try.prog 15 #[.agg (meC m a cap), .agg (meC s b cap')] w (fun e w' => e = .returned (.bool false) ∧ Below w.heap.size w w') := by
  have HB := Lib.hid (same_boxes w (meC m a cap) (meC s b cap'))
  unfold meC at *
  go_enter Try.func15, Try.ntmps15
  go_wp2_with fail
  go_ret
  exact ⟨by first | rfl | (simp [*]; done), HB.out⟩
set_option maxRecDepth 100000 in
set_option maxHeartbeats 4000000 in
theorem rsam_no10 {w : World} {m s : Me} {a b : Option Addr} {cap cap' : Nat} (q0 : (m.id == s.id) = true) (q1 : (m.name.toList == s.name.toList) = true) (q2 : (m.typ.toList == s.typ.toList) = true) (q3 : (m.ex.toList == s.ex.toList) = true) (q4 : (m.key.toList == s.key.toList) = true) (q5 : (m.text.toList == s.text.toList) = true) (q6 : (m.code == s.code) = true) (q7 : (m.count == s.count) = true) (q8 : ((m.tag : Int) == (s.tag : Int)) = true) (q9 : (m.flag == s.flag) = true) (q10 : (m.back == s.back) = false) :
    Calls Try.prog 15 #[.agg (meC m a cap), .agg (meC s b cap')] w (fun e w' => e = .returned (.bool false) ∧ Below w.heap.size w w') := by
  have HB := Lib.hid (same_boxes w (meC m a cap) (meC s b cap'))
  unfold meC at *
  go_enter Try.func15, Try.ntmps15
  go_wp2_with fail
  go_ret
  exact ⟨by first | rfl | (simp [*]; done), HB.out⟩
set_option maxRecDepth 100000 in
set_option maxHeartbeats 4000000 in
theorem rsam_yes {w : World} {m s : Me} {a b : Option Addr} {cap cap' : Nat} (Q : Bool → Prop) (q0 : (m.id == s.id) = true) (q1 : (m.name.toList == s.name.toList) = true) (q2 : (m.typ.toList == s.typ.toList) = true) (q3 : (m.ex.toList == s.ex.toList) = true) (q4 : (m.key.toList == s.key.toList) = true) (q5 : (m.text.toList == s.text.toList) = true) (q6 : (m.code == s.code) = true) (q7 : (m.count == s.count) = true) (q8 : ((m.tag : Int) == (s.tag : Int)) = true) (q9 : (m.flag == s.flag) = true) (q10 : (m.back == s.back) = true)
    (hQ : ∀ w1, Below w.heap.size w w1 → Calls Try.prog 16 #[.slice a m.args.length cap, .slice b s.args.length cap'] w1 (fun e w' => ∃ r : Bool, e = .returned (.bool r) ∧ Below w1.heap.size w1 w' ∧ Q r)) :
    Calls Try.prog 15 #[.agg (meC m a cap), .agg (meC s b cap')] w (fun e w' => ∃ r : Bool, e = .returned (.bool r) ∧ Below w.heap.size w w' ∧ Q r) := by
  have HB := Lib.hid (same_boxes w (meC m a cap) (meC s b cap'))
  have HQ := Lib.hid hQ
  clear hQ
  unfold meC at *
  go_enter Try.func15, Try.ntmps15
  go_wp2_with fail
  refine (HQ.out _ HB.out).mono ?_
  rintro e w2 ⟨r, rfl, hb2, hr⟩
  have HR := Lib.hid hr
  have HB2 := Lib.hid (HB.out.trans (hb2.mono HB.out.size))
  clear hr hb2
  go_wp2_with fail
  go_ret
  exact ⟨r, by first | rfl | (simp [*]; done), HB2.out, HR.out⟩

end Go.Proofs.Ytjnnpgmgjdhfjaa

namespace Go.Proofs.Ytjnnpgmgjdhfjaa
open Go.RowKit
set_option linter.unusedVariables false

theorem rsamM_any {w : World} {m s : Me} {a b : Option Addr} {cap cap' : Nat} (Q : Bool → Prop)
    (hQ : ∀ w1, Below w.heap.size w w1 → Calls Try.prog 16 #[.slice a m.args.length cap, .slice b s.args.length cap'] w1 (fun e w' => ∃ r : Bool, e = .returned (.bool r) ∧ Below w1.heap.size w1 w' ∧ Q r)) :
    Calls Try.prog 15 #[.agg (meC m a cap), .agg (meC s b cap')] w (SameM m s Q w) := by
  by_cases e0 : m.id = s.id
  case neg =>
    have q0 : (m.id == s.id) = false := beq_eq_false_iff_ne.2 e0
    refine (rsam_no0  q0).mono ?_
    rintro e w' ⟨rfl, hb⟩
    exact ⟨false, rfl, hb, .inr ⟨fun h => e0 h.1, rfl⟩⟩
  have q0 : (m.id == s.id) = true := beq_iff_eq.2 e0
  by_cases e1 : m.name = s.name
  case neg =>
    have q1 : (m.name.toList == s.name.toList) = false := bne_str e1
    refine (rsam_no1 q0 q1).mono ?_
    rintro e w' ⟨rfl, hb⟩
    exact ⟨false, rfl, hb, .inr ⟨fun h => e1 h.2.1, rfl⟩⟩
  have q1 : (m.name.toList == s.name.toList) = true := beq_str e1
  by_cases e2 : m.typ = s.typ
  case neg =>
    have q2 : (m.typ.toList == s.typ.toList) = false := bne_str e2
    refine (rsam_no2 q0 q1 q2).mono ?_
    rintro e w' ⟨rfl, hb⟩
    exact ⟨false, rfl, hb, .inr ⟨fun h => e2 h.2.2.1, rfl⟩⟩
  have q2 : (m.typ.toList == s.typ.toList) = true := beq_str e2
  by_cases e3 : m.ex = s.ex
  case neg =>
    have q3 : (m.ex.toList == s.ex.toList) = false := bne_str e3
    refine (rsam_no3 q0 q1 q2 q3).mono ?_
    rintro e w' ⟨rfl, hb⟩
    exact ⟨false, rfl, hb, .inr ⟨fun h => e3 h.2.2.2.1, rfl⟩⟩
  have q3 : (m.ex.toList == s.ex.toList) = true := beq_str e3
  by_cases e4 : m.key = s.key
  case neg =>
    have q4 : (m.key.toList == s.key.toList) = false := bne_str e4
    refine (rsam_no4 q0 q1 q2 q3 q4).mono ?_
    rintro e w' ⟨rfl, hb⟩
    exact ⟨false, rfl, hb, .inr ⟨fun h => e4 h.2.2.2.2.1, rfl⟩⟩
  have q4 : (m.key.toList == s.key.toList) = true := beq_str e4
  by_cases e5 : m.text = s.text
  case neg =>
    have q5 : (m.text.toList == s.text.toList) = false := bne_str e5
    refine (rsam_no5 q0 q1 q2 q3 q4 q5).mono ?_
    rintro e w' ⟨rfl, hb⟩
    exact ⟨false, rfl, hb, .inr ⟨fun h => e5 h.2.2.2.2.2.1, rfl⟩⟩
  have q5 : (m.text.toList == s.text.toList) = true := beq_str e5
  by_cases e6 : m.code = s.code
  case neg =>
    have q6 : (m.code == s.code) = false := beq_eq_false_iff_ne.2 e6
    refine (rsam_no6 q0 q1 q2 q3 q4 q5 q6).mono ?_
    rintro e w' ⟨rfl, hb⟩
    exact ⟨false, rfl, hb, .inr ⟨fun h => e6 h.2.2.2.2.2.2.1, rfl⟩⟩
  have q6 : (m.code == s.code) = true := beq_iff_eq.2 e6
  by_cases e7 : m.count = s.count
  case neg =>
    have q7 : (m.count == s.count) = false := beq_eq_false_iff_ne.2 e7
    refine (rsam_no7 q0 q1 q2 q3 q4 q5 q6 q7).mono ?_
    rintro e w' ⟨rfl, hb⟩
    exact ⟨false, rfl, hb, .inr ⟨fun h => e7 h.2.2.2.2.2.2.2.1, rfl⟩⟩
  have q7 : (m.count == s.count) = true := beq_iff_eq.2 e7
  by_cases e8 : m.tag = s.tag
  case neg =>
    have q8 : ((m.tag : Int) == (s.tag : Int)) = false := beq_eq_false_iff_ne.2 (by omega)
    refine (rsam_no8 q0 q1 q2 q3 q4 q5 q6 q7 q8).mono ?_
    rintro e w' ⟨rfl, hb⟩
    exact ⟨false, rfl, hb, .inr ⟨fun h => e8 h.2.2.2.2.2.2.2.2.1, rfl⟩⟩
  have q8 : ((m.tag : Int) == (s.tag : Int)) = true := beq_iff_eq.2 (by omega)
  by_cases e9 : m.flag = s.flag
  case neg =>
    have q9 : (m.flag == s.flag) = false := beq_eq_false_iff_ne.2 e9
    refine (rsam_no9 q0 q1 q2 q3 q4 q5 q6 q7 q8 q9).mono ?_
    rintro e w' ⟨rfl, hb⟩
    exact ⟨false, rfl, hb, .inr ⟨fun h => e9 h.2.2.2.2.2.2.2.2.2.1, rfl⟩⟩
  have q9 : (m.flag == s.flag) = true := beq_iff_eq.2 e9
  by_cases e10 : m.back = s.back
  case neg =>
    have q10 : (m.back == s.back) = false := beq_eq_false_iff_ne.2 e10
    refine (rsam_no10 q0 q1 q2 q3 q4 q5 q6 q7 q8 q9 q10).mono ?_
    rintro e w' ⟨rfl, hb⟩
    exact ⟨false, rfl, hb, .inr ⟨fun h => e10 h.2.2.2.2.2.2.2.2.2.2, rfl⟩⟩
  have q10 : (m.back == s.back) = true := beq_iff_eq.2 e10
  refine (rsam_yes Q q0 q1 q2 q3 q4 q5 q6 q7 q8 q9 q10 hQ).mono ?_
  rintro e w' ⟨r, rfl, hb, hr⟩
  exact ⟨r, rfl, hb, .inl ⟨⟨e0, e1, e2, e3, e4, e5, e6, e7, e8, e9, e10⟩, hr⟩⟩

end Go.Proofs.Ytjnnpgmgjdhfjaa
