/-
  package method's Same, walked.
-/
import Derived.Test.YtenpcadgelpbgaaMSam0
import Derived.Test.YtenpcadgelpbgaaMSam1
import Derived.Test.YtenpcadgelpbgaaMSam2
import Derived.Test.YtenpcadgelpbgaaMSam3
namespace Go.Proofs.Ytenpcadgelpbgaa
open Go.RowKit
set_option linter.unusedVariables false

theorem sameM_any {w : World} {m s : Me} {a b : Option Addr} {cap cap' : Nat} (Q : Bool → Prop)
    (hQ : ∀ w1, Below w.heap.size w w1 → Calls Try.prog 40 #[.slice a m.args.length cap, .slice b s.args.length cap'] w1 (fun e w' => ∃ r : Bool, e = .returned (.bool r) ∧ Below w1.heap.size w1 w' ∧ Q r)) :
    Calls Try.prog 17 #[.agg (meC m a cap), .agg (meC s b cap')] w (SameM m s Q w) := by
  by_cases e0 : m.id = s.id
  case neg =>
    have q0 : (m.id == s.id) = false := beq_eq_false_iff_ne.2 e0
    refine (same_no0  q0).mono ?_
    rintro e w' ⟨rfl, hb⟩
    exact ⟨false, rfl, hb, .inr ⟨fun h => e0 h.1, rfl⟩⟩
  have q0 : (m.id == s.id) = true := beq_iff_eq.2 e0
  by_cases e1 : m.name = s.name
  case neg =>
    have q1 : (m.name.toList == s.name.toList) = false := bne_str e1
    refine (same_no1 q0 q1).mono ?_
    rintro e w' ⟨rfl, hb⟩
    exact ⟨false, rfl, hb, .inr ⟨fun h => e1 h.2.1, rfl⟩⟩
  have q1 : (m.name.toList == s.name.toList) = true := beq_str e1
  by_cases e2 : m.typ = s.typ
  case neg =>
    have q2 : (m.typ.toList == s.typ.toList) = false := bne_str e2
    refine (same_no2 q0 q1 q2).mono ?_
    rintro e w' ⟨rfl, hb⟩
    exact ⟨false, rfl, hb, .inr ⟨fun h => e2 h.2.2.1, rfl⟩⟩
  have q2 : (m.typ.toList == s.typ.toList) = true := beq_str e2
  by_cases e3 : m.ex = s.ex
  case neg =>
    have q3 : (m.ex.toList == s.ex.toList) = false := bne_str e3
    refine (same_no3 q0 q1 q2 q3).mono ?_
    rintro e w' ⟨rfl, hb⟩
    exact ⟨false, rfl, hb, .inr ⟨fun h => e3 h.2.2.2.1, rfl⟩⟩
  have q3 : (m.ex.toList == s.ex.toList) = true := beq_str e3
  by_cases e4 : m.key = s.key
  case neg =>
    have q4 : (m.key.toList == s.key.toList) = false := bne_str e4
    refine (same_no4 q0 q1 q2 q3 q4).mono ?_
    rintro e w' ⟨rfl, hb⟩
    exact ⟨false, rfl, hb, .inr ⟨fun h => e4 h.2.2.2.2.1, rfl⟩⟩
  have q4 : (m.key.toList == s.key.toList) = true := beq_str e4
  by_cases e5 : m.text = s.text
  case neg =>
    have q5 : (m.text.toList == s.text.toList) = false := bne_str e5
    refine (same_no5 q0 q1 q2 q3 q4 q5).mono ?_
    rintro e w' ⟨rfl, hb⟩
    exact ⟨false, rfl, hb, .inr ⟨fun h => e5 h.2.2.2.2.2.1, rfl⟩⟩
  have q5 : (m.text.toList == s.text.toList) = true := beq_str e5
  by_cases e6 : m.code = s.code
  case neg =>
    have q6 : (m.code == s.code) = false := beq_eq_false_iff_ne.2 e6
    refine (same_no6 q0 q1 q2 q3 q4 q5 q6).mono ?_
    rintro e w' ⟨rfl, hb⟩
    exact ⟨false, rfl, hb, .inr ⟨fun h => e6 h.2.2.2.2.2.2.1, rfl⟩⟩
  have q6 : (m.code == s.code) = true := beq_iff_eq.2 e6
  by_cases e7 : m.count = s.count
  case neg =>
    have q7 : (m.count == s.count) = false := beq_eq_false_iff_ne.2 e7
    refine (same_no7 q0 q1 q2 q3 q4 q5 q6 q7).mono ?_
    rintro e w' ⟨rfl, hb⟩
    exact ⟨false, rfl, hb, .inr ⟨fun h => e7 h.2.2.2.2.2.2.2.1, rfl⟩⟩
  have q7 : (m.count == s.count) = true := beq_iff_eq.2 e7
  by_cases e8 : m.tag = s.tag
  case neg =>
    have q8 : ((m.tag : Int) == (s.tag : Int)) = false := beq_eq_false_iff_ne.2 (by omega)
    refine (same_no8 q0 q1 q2 q3 q4 q5 q6 q7 q8).mono ?_
    rintro e w' ⟨rfl, hb⟩
    exact ⟨false, rfl, hb, .inr ⟨fun h => e8 h.2.2.2.2.2.2.2.2.1, rfl⟩⟩
  have q8 : ((m.tag : Int) == (s.tag : Int)) = true := beq_iff_eq.2 (by omega)
  by_cases e9 : m.flag = s.flag
  case neg =>
    have q9 : (m.flag == s.flag) = false := beq_eq_false_iff_ne.2 e9
    refine (same_no9 q0 q1 q2 q3 q4 q5 q6 q7 q8 q9).mono ?_
    rintro e w' ⟨rfl, hb⟩
    exact ⟨false, rfl, hb, .inr ⟨fun h => e9 h.2.2.2.2.2.2.2.2.2.1, rfl⟩⟩
  have q9 : (m.flag == s.flag) = true := beq_iff_eq.2 e9
  by_cases e10 : m.back = s.back
  case neg =>
    have q10 : (m.back == s.back) = false := beq_eq_false_iff_ne.2 e10
    refine (same_no10 q0 q1 q2 q3 q4 q5 q6 q7 q8 q9 q10).mono ?_
    rintro e w' ⟨rfl, hb⟩
    exact ⟨false, rfl, hb, .inr ⟨fun h => e10 h.2.2.2.2.2.2.2.2.2.2, rfl⟩⟩
  have q10 : (m.back == s.back) = true := beq_iff_eq.2 e10
  refine (same_yes Q q0 q1 q2 q3 q4 q5 q6 q7 q8 q9 q10 hQ).mono ?_
  rintro e w' ⟨r, rfl, hb, hr⟩
  exact ⟨r, rfl, hb, .inl ⟨⟨e0, e1, e2, e3, e4, e5, e6, e7, e8, e9, e10⟩, hr⟩⟩

end Go.Proofs.Ytenpcadgelpbgaa
