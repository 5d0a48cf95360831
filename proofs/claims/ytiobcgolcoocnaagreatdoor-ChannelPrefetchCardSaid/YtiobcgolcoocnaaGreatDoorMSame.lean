/-
  package method's Same: what it answers, whatever the tables' Same is.
  package method's Same, walked, where some part is another one.
  package method's Same, walked, where some part is another one.
  package method's Same, walked, where some part is another one.
  package method's Same, walked, where some part is another one.
  package method's Same, walked.
-/
import Derived.Test.YtiobcgolcoocnaaGreatDoorMLeaf

namespace Go.Proofs.YtiobcgolcoocnaaGreatDoor
open Go.RowKit
set_option linter.unusedVariables false

/-- all but the tables are the same. -/
def HeadEq (m s : Me) : Prop := m.id = s.id ∧ m.name = s.name ∧ m.typ = s.typ ∧ m.ex = s.ex ∧ m.key = s.key ∧ m.text = s.text ∧ m.code = s.code ∧ m.count = s.count ∧ m.tag = s.tag ∧ m.flag = s.flag ∧ m.back = s.back
theorem HeadEq.eq {m s : Me} (h : HeadEq m s) (ha : m.args = s.args) : m = s := by
  obtain ⟨h0, h1, h2, h3, h4, h5, h6, h7, h8, h9, h10⟩ := h
  cases m; cases s
  simp only at *
  simp_all
theorem HeadEq.refl (m : Me) : HeadEq m m := ⟨rfl, rfl, rfl, rfl, rfl, rfl, rfl, rfl, rfl, rfl, rfl⟩

/-- Same's answer, Q being that of the tables. -/
def SameM (m s : Me) (Q : Bool → Prop) (w : World) (e : Ending) (w' : World) : Prop :=
  ∃ r : Bool, e = .returned (.bool r) ∧ Below w.heap.size w w' ∧ ((HeadEq m s ∧ Q r) ∨ (¬ HeadEq m s ∧ r = false))
theorem same_boxes (w : World) (c d : Array Value) : Below w.heap.size w ((w.alloc (.cells c 31)).alloc (.cells d 31)) := ((Below.refl _ _).alloc (Nat.le_refl _) _).alloc (by simp) _

end Go.Proofs.YtiobcgolcoocnaaGreatDoor

namespace Go.Proofs.YtiobcgolcoocnaaGreatDoor
open Go.RowKit
set_option linter.unusedVariables false

set_option maxRecDepth 100000 in
set_option maxHeartbeats 4000000 in
theorem same_no0 {w : World} {m s : Me} {a b : Option Addr} {cap cap' : Nat}  (q0 : (m.id == s.id) = false) :
    Calls Tryz.prog 29 #[.agg (meC m a cap), .agg (meC s b cap')] w (fun e w' => e = .returned (.bool false) ∧ Below w.heap.size w w') := by
  have HB := Lib.hid (same_boxes w (meC m a cap) (meC s b cap'))
  unfold meC at *
  go_enter Tryz.func29, Tryz.ntmps29
  go_wp2_with fail
  go_ret
  exact ⟨by first | rfl | (simp [*]; done), HB.out⟩
set_option maxRecDepth 100000 in
set_option maxHeartbeats 4000000 in
theorem same_no1 {w : World} {m s : Me} {a b : Option Addr} {cap cap' : Nat} (q0 : (m.id == s.id) = true) (q1 : (m.name.toList == s.name.toList) = false) :
    Calls Tryz.prog 29 #[.agg (meC m a cap), .agg (meC s b cap')] w (fun e w' => e = .returned (.bool false) ∧ Below w.heap.size w w') := by
  have HB := Lib.hid (same_boxes w (meC m a cap) (meC s b cap'))
  unfold meC at *
  go_enter Tryz.func29, Tryz.ntmps29
  go_wp2_with fail
  go_ret
  exact ⟨by first | rfl | (simp [*]; done), HB.out⟩
set_option maxRecDepth 100000 in
set_option maxHeartbeats 4000000 in
theorem same_no2 {w : World} {m s : Me} {a b : Option Addr} {cap cap' : Nat} (q0 : (m.id == s.id) = true) (q1 : (m.name.toList == s.name.toList) = true) (q2 : (m.typ.toList == s.typ.toList) = false) :
    Calls Tryz.prog 29 #[.agg (meC m a cap), .agg (meC s b cap')] w (fun e w' => e = .returned (.bool false) ∧ Below w.heap.size w w') := by
  have HB := Lib.hid (same_boxes w (meC m a cap) (meC s b cap'))
  unfold meC at *
  go_enter Tryz.func29, Tryz.ntmps29
  go_wp2_with fail
  go_ret
  exact ⟨by first | rfl | (simp [*]; done), HB.out⟩

end Go.Proofs.YtiobcgolcoocnaaGreatDoor

namespace Go.Proofs.YtiobcgolcoocnaaGreatDoor
open Go.RowKit
set_option linter.unusedVariables false

set_option maxRecDepth 100000 in
set_option maxHeartbeats 4000000 in
theorem same_no3 {w : World} {m s : Me} {a b : Option Addr} {cap cap' : Nat} (q0 : (m.id == s.id) = true) (q1 : (m.name.toList == s.name.toList) = true) (q2 : (m.typ.toList == s.typ.toList) = true) (q3 : (m.ex.toList == s.ex.toList) = false) :
    Calls Tryz.prog 29 #[.agg (meC m a cap), .agg (meC s b cap')] w (fun e w' => e = .returned (.bool false) ∧ Below w.heap.size w w') := by
  have HB := Lib.hid (same_boxes w (meC m a cap) (meC s b cap'))
  unfold meC at *
  go_enter Tryz.func29, Tryz.ntmps29
  go_wp2_with fail
  go_ret
  exact ⟨by first | rfl | (simp [*]; done), HB.out⟩
set_option maxRecDepth 100000 in
set_option maxHeartbeats 4000000 in
theorem same_no4 {w : World} {m s : Me} {a b : Option Addr} {cap cap' : Nat} (q0 : (m.id == s.id) = true) (q1 : (m.name.toList == s.name.toList) = true) (q2 : (m.typ.toList == s.typ.toList) = true) (q3 : (m.ex.toList == s.ex.toList) = true) (q4 : (m.key.toList == s.key.toList) = false) :
    Calls Tryz.prog 29 #[.agg (meC m a cap), .agg (meC s b cap')] w (fun e w' => e = .returned (.bool false) ∧ Below w.heap.size w w') := by
  have HB := Lib.hid (same_boxes w (meC m a cap) (meC s b cap'))
  unfold meC at *
  go_enter Tryz.func29, Tryz.ntmps29
  go_wp2_with fail
  go_ret
  exact ⟨by first | rfl | (simp [*]; done), HB.out⟩
set_option maxRecDepth 100000 in
set_option maxHeartbeats 4000000 in
theorem same_no5 {w : World} {m s : Me} {a b : Option Addr} {cap cap' : Nat} (q0 : (m.id == s.id) = true) (q1 : (m.name.toList == s.name.toList) = true) (q2 : (m.typ.toList == s.typ.toList) = true) (q3 : (m.ex.toList == s.ex.toList) = true) (q4 : (m.key.toList == s.key.toList) = true) (q5 : (m.text.toList == s.text.toList) = false) :
    Calls Tryz.prog 29 #[.agg (meC m a cap), .agg (meC s b cap')] w (fun e w' => e = .returned (.bool false) ∧ Below w.heap.size w w') := by
  have HB := Lib.hid (same_boxes w (meC m a cap) (meC s b cap'))
  unfold meC at *
  go_enter Tryz.func29, Tryz.ntmps29
  go_wp2_with fail
  go_ret
  exact ⟨by first | rfl | (simp [*]; done), HB.out⟩

end Go.Proofs.YtiobcgolcoocnaaGreatDoor

namespace Go.Proofs.YtiobcgolcoocnaaGreatDoor
open Go.RowKit
set_option linter.unusedVariables false

set_option maxRecDepth 100000 in
set_option maxHeartbeats 4000000 in
theorem same_no6 {w : World} {m s : Me} {a b : Option Addr} {cap cap' : Nat} (q0 : (m.id == s.id) = true) (q1 : (m.name.toList == s.name.toList) = true) (q2 : (m.typ.toList == s.typ.toList) = true) (q3 : (m.ex.toList == s.ex.toList) = true) (q4 : (m.key.toList == s.key.toList) = true) (q5 : (m.text.toList == s.text.toList) = true) (q6 : (m.code == s.code) = false) :
    Calls Tryz.prog 29 #[.agg (meC m a cap), .agg (meC s b cap')] w (fun e w' => e = .returned (.bool false) ∧ Below w.heap.size w w') := by
  have HB := Lib.hid (same_boxes w (meC m a cap) (meC s b cap'))
  unfold meC at *
  go_enter Tryz.func29, Tryz.ntmps29
  go_wp2_with fail
  go_ret
  exact ⟨by first | rfl | (simp [*]; done), HB.out⟩
set_option maxRecDepth 100000 in
set_option maxHeartbeats 4000000 in
theorem same_no7 {w : World} {m s : Me} {a b : Option Addr} {cap cap' : Nat} (q0 : (m.id == s.id) = true) (q1 : (m.name.toList == s.name.toList) = true) (q2 : (m.typ.toList == s.typ.toList) = true) (q3 : (m.ex.toList == s.ex.toList) = true) (q4 : (m.key.toList == s.key.toList) = true) (q5 : (m.text.toList == s.text.toList) = true) (q6 : (m.code == s.code) = true) (q7 : (m.count == s.count) = false) :
    Calls Tryz.prog 29 #[.agg (meC m a cap), .agg (meC s b cap')] w (fun e w' => e = .returned (.bool false) ∧ Below w.heap.size w w') := by
  have HB := Lib.hid (same_boxes w (meC m a cap) (meC s b cap'))
  unfold meC at *
  go_enter Tryz.func29, Tryz.ntmps29
  go_wp2_with fail
  go_ret
  exact ⟨by first | rfl | (simp [*]; done), HB.out⟩
set_option maxRecDepth 100000 in
set_option maxHeartbeats 4000000 in
theorem same_no8 {w : World} {m s : Me} {a b : Option Addr} {cap cap' : Nat} (q0 : (m.id == s.id) = true) (q1 : (m.name.toList == s.name.toList) = true) (q2 : (m.typ.toList == s.typ.toList) = true) (q3 : (m.ex.toList == s.ex.toList) = true) (q4 : (m.key.toList == s.key.toList) = true) (q5 : (m.text.toList == s.text.toList) = true) (q6 : (m.code == s.code) = true) (q7 : (m.count == s.count) = true) (q8 : ((m.tag : Int) == (s.tag : Int)) = false) :
    Calls Tryz.prog 29 #[.agg (meC m a cap), .agg (meC s b cap')] w (fun e w' => e = .returned (.bool false) ∧ Below w.heap.size w w') := by
  have HB := Lib.hid (same_boxes w (meC m a cap) (meC s b cap'))
  unfold meC at *
  go_enter Tryz.func29, Tryz.ntmps29
  go_wp2_with fail
  go_ret
  exact ⟨by first | rfl | (simp [*]; done), HB.out⟩

end Go.Proofs.YtiobcgolcoocnaaGreatDoor

namespace Go.Proofs.YtiobcgolcoocnaaGreatDoor
open Go.RowKit
set_option linter.unusedVariables false

set_option maxRecDepth 100000 in
set_option maxHeartbeats 4000000 in
theorem same_no9 {w : World} {m s : Me} {a b : Option Addr} {cap cap' : Nat} (q0 : (m.id == s.id) = true) (q1 : (m.name.toList == s.name.toList) = true) (q2 : (m.typ.toList == s.typ.toList) = true) (q3 : (m.ex.toList == s.ex.toList) = true) (q4 : (m.key.toList == s.key.toList) = true) (q5 : (m.text.toList == s.text.toList) = true) (q6 : (m.code == s.code) = true) (q7 : (m.count == s.count) = true) (q8 : ((m.tag : Int) == (s.tag : Int)) = true) (q9 : (m.flag == s.flag) = false) :
    Calls Tryz.prog 29 #[.agg (meC m a cap), .agg (meC s b cap')] w (fun e w' => e = .returned (.bool false) ∧ Below w.heap.size w w') := by
  have HB := Lib.hid (same_boxes w (meC m a cap) (meC s b cap'))
  unfold meC at *
  go_enter Tryz.func29, Tryz.ntmps29
  go_wp2_with fail
  go_ret
  exact ⟨by first | rfl | (simp [*]; done), HB.out⟩
set_option maxRecDepth 100000 in
set_option maxHeartbeats 4000000 in
theorem same_no10 {w : World} {m s : Me} {a b : Option Addr} {cap cap' : Nat} (q0 : (m.id == s.id) = true) (q1 : (m.name.toList == s.name.toList) = true) (q2 : (m.typ.toList == s.typ.toList) = true) (q3 : (m.ex.toList == s.ex.toList) = true) (q4 : (m.key.toList == s.key.toList) = true) (q5 : (m.text.toList == s.text.toList) = true) (q6 : (m.code == s.code) = true) (q7 : (m.count == s.count) = true) (q8 : ((m.tag : Int) == (s.tag : Int)) = true) (q9 : (m.flag == s.flag) = true) (q10 : (m.back == s.back) = false) :
    Calls Tryz.prog 29 #[.agg (meC m a cap), .agg (meC s b cap')] w (fun e w' => e = .returned (.bool false) ∧ Below w.heap.size w w') := by
  have HB := Lib.hid (same_boxes w (meC m a cap) (meC s b cap'))
  unfold meC at *
  go_enter Tryz.func29, Tryz.ntmps29
  go_wp2_with fail
  go_ret
  exact ⟨by first | rfl | (simp [*]; done), HB.out⟩
set_option maxRecDepth 100000 in
set_option maxHeartbeats 4000000 in
theorem same_yes {w : World} {m s : Me} {a b : Option Addr} {cap cap' : Nat} (Q : Bool → Prop) (q0 : (m.id == s.id) = true) (q1 : (m.name.toList == s.name.toList) = true) (q2 : (m.typ.toList == s.typ.toList) = true) (q3 : (m.ex.toList == s.ex.toList) = true) (q4 : (m.key.toList == s.key.toList) = true) (q5 : (m.text.toList == s.text.toList) = true) (q6 : (m.code == s.code) = true) (q7 : (m.count == s.count) = true) (q8 : ((m.tag : Int) == (s.tag : Int)) = true) (q9 : (m.flag == s.flag) = true) (q10 : (m.back == s.back) = true)
    (hQ : ∀ w1, Below w.heap.size w w1 → Calls Tryz.prog 50 #[.slice a m.args.length cap, .slice b s.args.length cap'] w1 (fun e w' => ∃ r : Bool, e = .returned (.bool r) ∧ Below w1.heap.size w1 w' ∧ Q r)) :
    Calls Tryz.prog 29 #[.agg (meC m a cap), .agg (meC s b cap')] w (fun e w' => ∃ r : Bool, e = .returned (.bool r) ∧ Below w.heap.size w w' ∧ Q r) := by
  have HB := Lib.hid (same_boxes w (meC m a cap) (meC s b cap'))
  have HQ := Lib.hid hQ
  clear hQ
  unfold meC at *
  go_enter Tryz.func29, Tryz.ntmps29
  go_wp2_with fail
  refine (HQ.out _ HB.out).mono ?_
  rintro e w2 ⟨r, rfl, hb2, hr⟩
  have HR := Lib.hid hr
  have HB2 := Lib.hid (HB.out.trans (hb2.mono HB.out.size))
  clear hr hb2
  go_wp2_with fail
  go_ret
  exact ⟨r, by first | rfl | (simp [*]; done), HB2.out, HR.out⟩

end Go.Proofs.YtiobcgolcoocnaaGreatDoor

namespace Go.Proofs.YtiobcgolcoocnaaGreatDoor
open Go.RowKit
set_option linter.unusedVariables false

theorem sameM_any {w : World} {m s : Me} {a b : Option Addr} {cap cap' : Nat} (Q : Bool → Prop)
    (hQ : ∀ w1, Below w.heap.size w w1 → Calls Tryz.prog 50 #[.slice a m.args.length cap, .slice b s.args.length cap'] w1 (fun e w' => ∃ r : Bool, e = .returned (.bool r) ∧ Below w1.heap.size w1 w' ∧ Q r)) :
    Calls Tryz.prog 29 #[.agg (meC m a cap), .agg (meC s b cap')] w (SameM m s Q w) := by
  by_cases e0 : m.id = s.id
  case neg =>
    have q0 : (m.id == s.id) = false := beq_eq_false_iff_ne.2 e0
    refine (same_no0  q0).mono ?_
    rintro e w' ⟨rfl, hb⟩
    exact ⟨false, rfl, hb, .inr ⟨fun h => e0 h.1, rfl⟩⟩
  have q0 : (m.id == s.id) = true := beq_iff_eq.2 e0
  by_cases e1 : m.name = s.name
  case neg =>
    have q1 : (m.name.toList == s.name.toList) = false := bne_str e1
    refine (same_no1 q0 q1).mono ?_
    rintro e w' ⟨rfl, hb⟩
    exact ⟨false, rfl, hb, .inr ⟨fun h => e1 h.2.1, rfl⟩⟩
  have q1 : (m.name.toList == s.name.toList) = true := beq_str e1
  by_cases e2 : m.typ = s.typ
  case neg =>
    have q2 : (m.typ.toList == s.typ.toList) = false := bne_str e2
    refine (same_no2 q0 q1 q2).mono ?_
    rintro e w' ⟨rfl, hb⟩
    exact ⟨false, rfl, hb, .inr ⟨fun h => e2 h.2.2.1, rfl⟩⟩
  have q2 : (m.typ.toList == s.typ.toList) = true := beq_str e2
  by_cases e3 : m.ex = s.ex
  case neg =>
    have q3 : (m.ex.toList == s.ex.toList) = false := bne_str e3
    refine (same_no3 q0 q1 q2 q3).mono ?_
    rintro e w' ⟨rfl, hb⟩
    exact ⟨false, rfl, hb, .inr ⟨fun h => e3 h.2.2.2.1, rfl⟩⟩
  have q3 : (m.ex.toList == s.ex.toList) = true := beq_str e3
  by_cases e4 : m.key = s.key
  case neg =>
    have q4 : (m.key.toList == s.key.toList) = false := bne_str e4
    refine (same_no4 q0 q1 q2 q3 q4).mono ?_
    rintro e w' ⟨rfl, hb⟩
    exact ⟨false, rfl, hb, .inr ⟨fun h => e4 h.2.2.2.2.1, rfl⟩⟩
  have q4 : (m.key.toList == s.key.toList) = true := beq_str e4
  by_cases e5 : m.text = s.text
  case neg =>
    have q5 : (m.text.toList == s.text.toList) = false := bne_str e5
    refine (same_no5 q0 q1 q2 q3 q4 q5).mono ?_
    rintro e w' ⟨rfl, hb⟩
    exact ⟨false, rfl, hb, .inr ⟨fun h => e5 h.2.2.2.2.2.1, rfl⟩⟩
  have q5 : (m.text.toList == s.text.toList) = true := beq_str e5
  by_cases e6 : m.code = s.code
  case neg =>
    have q6 : (m.code == s.code) = false := beq_eq_false_iff_ne.2 e6
    refine (same_no6 q0 q1 q2 q3 q4 q5 q6).mono ?_
    rintro e w' ⟨rfl, hb⟩
    exact ⟨false, rfl, hb, .inr ⟨fun h => e6 h.2.2.2.2.2.2.1, rfl⟩⟩
  have q6 : (m.code == s.code) = true := beq_iff_eq.2 e6
  by_cases e7 : m.count = s.count
  case neg =>
    have q7 : (m.count == s.count) = false := beq_eq_false_iff_ne.2 e7
    refine (same_no7 q0 q1 q2 q3 q4 q5 q6 q7).mono ?_
    rintro e w' ⟨rfl, hb⟩
    exact ⟨false, rfl, hb, .inr ⟨fun h => e7 h.2.2.2.2.2.2.2.1, rfl⟩⟩
  have q7 : (m.count == s.count) = true := beq_iff_eq.2 e7
  by_cases e8 : m.tag = s.tag
  case neg =>
    have q8 : ((m.tag : Int) == (s.tag : Int)) = false := beq_eq_false_iff_ne.2 (by omega)
    refine (same_no8 q0 q1 q2 q3 q4 q5 q6 q7 q8).mono ?_
    rintro e w' ⟨rfl, hb⟩
    exact ⟨false, rfl, hb, .inr ⟨fun h => e8 h.2.2.2.2.2.2.2.2.1, rfl⟩⟩
  have q8 : ((m.tag : Int) == (s.tag : Int)) = true := beq_iff_eq.2 (by omega)
  by_cases e9 : m.flag = s.flag
  case neg =>
    have q9 : (m.flag == s.flag) = false := beq_eq_false_iff_ne.2 e9
    refine (same_no9 q0 q1 q2 q3 q4 q5 q6 q7 q8 q9).mono ?_
    rintro e w' ⟨rfl, hb⟩
    exact ⟨false, rfl, hb, .inr ⟨fun h => e9 h.2.2.2.2.2.2.2.2.2.1, rfl⟩⟩
  have q9 : (m.flag == s.flag) = true := beq_iff_eq.2 e9
  by_cases e10 : m.back = s.back
  case neg =>
    have q10 : (m.back == s.back) = false := beq_eq_false_iff_ne.2 e10
    refine (same_no10 q0 q1 q2 q3 q4 q5 q6 q7 q8 q9 q10).mono ?_
    rintro e w' ⟨rfl, hb⟩
    exact ⟨false, rfl, hb, .inr ⟨fun h => e10 h.2.2.2.2.2.2.2.2.2.2, rfl⟩⟩
  have q10 : (m.back == s.back) = true := beq_iff_eq.2 e10
  refine (same_yes Q q0 q1 q2 q3 q4 q5 q6 q7 q8 q9 q10 hQ).mono ?_
  rintro e w' ⟨r, rfl, hb, hr⟩
  exact ⟨r, rfl, hb, .inl ⟨⟨e0, e1, e2, e3, e4, e5, e6, e7, e8, e9, e10⟩, hr⟩⟩

end Go.Proofs.YtiobcgolcoocnaaGreatDoor
