/-
  The document's four sums, walked: the same chains.
-/
import Derived.Test.YtlnfghmkfgihjaaFour
namespace Go.Proofs.Ytlnfghmkfgihjaa
open Go.RowKit

set_option maxHeartbeats 4000000 in
theorem rfour_any (z0 z1 z2 z3 : Nat × Nat) (w : World) :
    Calls Try.prog 13 #[.agg #[.complex .f64 z0.1 z0.2, .complex .f64 z1.1 z1.2, .complex .f64 z2.1 z2.2, .complex .f64 z3.1 z3.2]] w fun e w' =>
      ∃ r0 r1 r2 r3, e = .returned (.agg #[cx r0, cx r1, cx r2, cx r3]) ∧ Below w.heap.size w w' ∧
      Spun 0 z0 z1 z2 z3 r0 ∧ Spun (-1) z0 z1 z2 z3 r1 ∧ Spun (-2) z0 z1 z2 z3 r2 ∧ Spun (-3) z0 z1 z2 z3 r3 := by
  go_enter Try.func13, Try.ntmps13
  go_wp2
  refine wp_loop_rounds 5 ?_
  rw [rounds_succ]
  go_wp2_with fail
  refine wp_loop_rounds 4 ?_
  rw [rounds_succ]
  go_wp2_with fail
  refine (rspin_any _ _ _ _).mono ?_
  rintro e w' ⟨rfl, rfl⟩
  go_wp2_with fail
  refine (plus_any _ _ _ _ _).mono ?_
  rintro e w' ⟨p01, m01, rfl, rfl, s01⟩
  go_wp2_with fail
  rw [rounds_succ]
  go_wp2_with fail
  refine (rspin_any _ _ _ _).mono ?_
  rintro e w' ⟨rfl, rfl⟩
  go_wp2_with fail
  refine (plus_any _ _ _ _ _).mono ?_
  rintro e w' ⟨p02, m02, rfl, rfl, s02⟩
  go_wp2_with fail
  rw [rounds_succ]
  go_wp2_with fail
  refine (rspin_any _ _ _ _).mono ?_
  rintro e w' ⟨rfl, rfl⟩
  go_wp2_with fail
  refine (plus_any _ _ _ _ _).mono ?_
  rintro e w' ⟨p03, m03, rfl, rfl, s03⟩
  go_wp2_with fail
  rw [rounds_succ]
  go_wp2_with fail
  rw [rounds_succ]
  go_wp2_with fail
  refine wp_loop_rounds 4 ?_
  rw [rounds_succ]
  go_wp2_with fail
  refine (rspin_any _ _ _ _).mono ?_
  rintro e w' ⟨rfl, rfl⟩
  go_wp2_with fail
  refine (plus_any _ _ _ _ _).mono ?_
  rintro e w' ⟨p11, m11, rfl, rfl, s11⟩
  go_wp2_with fail
  rw [rounds_succ]
  go_wp2_with fail
  refine (rspin_any _ _ _ _).mono ?_
  rintro e w' ⟨rfl, rfl⟩
  go_wp2_with fail
  refine (plus_any _ _ _ _ _).mono ?_
  rintro e w' ⟨p12, m12, rfl, rfl, s12⟩
  go_wp2_with fail
  rw [rounds_succ]
  go_wp2_with fail
  refine (rspin_any _ _ _ _).mono ?_
  rintro e w' ⟨rfl, rfl⟩
  go_wp2_with fail
  refine (plus_any _ _ _ _ _).mono ?_
  rintro e w' ⟨p13, m13, rfl, rfl, s13⟩
  go_wp2_with fail
  rw [rounds_succ]
  go_wp2_with fail
  rw [rounds_succ]
  go_wp2_with fail
  refine wp_loop_rounds 4 ?_
  rw [rounds_succ]
  go_wp2_with fail
  refine (rspin_any _ _ _ _).mono ?_
  rintro e w' ⟨rfl, rfl⟩
  go_wp2_with fail
  refine (plus_any _ _ _ _ _).mono ?_
  rintro e w' ⟨p21, m21, rfl, rfl, s21⟩
  go_wp2_with fail
  rw [rounds_succ]
  go_wp2_with fail
  refine (rspin_any _ _ _ _).mono ?_
  rintro e w' ⟨rfl, rfl⟩
  go_wp2_with fail
  refine (plus_any _ _ _ _ _).mono ?_
  rintro e w' ⟨p22, m22, rfl, rfl, s22⟩
  go_wp2_with fail
  rw [rounds_succ]
  go_wp2_with fail
  refine (rspin_any _ _ _ _).mono ?_
  rintro e w' ⟨rfl, rfl⟩
  go_wp2_with fail
  refine (plus_any _ _ _ _ _).mono ?_
  rintro e w' ⟨p23, m23, rfl, rfl, s23⟩
  go_wp2_with fail
  rw [rounds_succ]
  go_wp2_with fail
  rw [rounds_succ]
  go_wp2_with fail
  refine wp_loop_rounds 4 ?_
  rw [rounds_succ]
  go_wp2_with fail
  refine (rspin_any _ _ _ _).mono ?_
  rintro e w' ⟨rfl, rfl⟩
  go_wp2_with fail
  refine (plus_any _ _ _ _ _).mono ?_
  rintro e w' ⟨p31, m31, rfl, rfl, s31⟩
  go_wp2_with fail
  rw [rounds_succ]
  go_wp2_with fail
  refine (rspin_any _ _ _ _).mono ?_
  rintro e w' ⟨rfl, rfl⟩
  go_wp2_with fail
  refine (plus_any _ _ _ _ _).mono ?_
  rintro e w' ⟨p32, m32, rfl, rfl, s32⟩
  go_wp2_with fail
  rw [rounds_succ]
  go_wp2_with fail
  refine (rspin_any _ _ _ _).mono ?_
  rintro e w' ⟨rfl, rfl⟩
  go_wp2_with fail
  refine (plus_any _ _ _ _ _).mono ?_
  rintro e w' ⟨p33, m33, rfl, rfl, s33⟩
  go_wp2_with fail
  rw [rounds_succ]
  go_wp2_with fail
  rw [rounds_succ]
  go_wp2_with fail
  refine bodyPost_ret (v := .agg #[.complex .f64 p03.1 p03.2, .complex .f64 p13.1 p13.2, .complex .f64 p23.1 p23.2, .complex .f64 p33.1 p33.2]) ?h1 rfl ?h2
  case h1 =>
    simp [results, Try.results13, go_sem]
  case h2 =>
    refine ⟨p03, p13, p23, p33, rfl, ?_, ⟨p01, p02, s01, s02, s03⟩, ⟨p11, p12, s11, s12, s13⟩, ⟨p21, p22, s21, s22, s23⟩, ⟨p31, p32, s31, s32, s33⟩⟩
    repeat (first | with_reducible refine below_drewN ?_ _ | with_reducible refine Below.setCell ?_ (by first | (simp; done) | (simp; omega)) _ | with_reducible refine Below.alloc ?_ (by first | (simp; done) | (simp; omega)) _ | with_reducible exact Below.refl _ _)

set_option maxHeartbeats 4000000 in
theorem rback_any (z0 z1 z2 z3 : Nat × Nat) (w : World) :
    Calls Try.prog 14 #[.agg #[.complex .f64 z0.1 z0.2, .complex .f64 z1.1 z1.2, .complex .f64 z2.1 z2.2, .complex .f64 z3.1 z3.2]] w fun e w' =>
      ∃ r0 r1 r2 r3, e = .returned (.agg #[cx r0, cx r1, cx r2, cx r3]) ∧ Below w.heap.size w w' ∧
      (∃ t, Spun 0 z0 z1 z2 z3 t ∧ CFourth t r0) ∧ (∃ t, Spun 1 z0 z1 z2 z3 t ∧ CFourth t r1) ∧ (∃ t, Spun 2 z0 z1 z2 z3 t ∧ CFourth t r2) ∧ (∃ t, Spun 3 z0 z1 z2 z3 t ∧ CFourth t r3) := by
  go_enter Try.func14, Try.ntmps14
  go_wp2
  refine wp_loop_rounds 5 ?_
  rw [rounds_succ]
  go_wp2_with fail
  refine wp_loop_rounds 4 ?_
  rw [rounds_succ]
  go_wp2_with fail
  refine (rspin_any _ _ _ _).mono ?_
  rintro e w' ⟨rfl, rfl⟩
  go_wp2_with fail
  refine (plus_any _ _ _ _ _).mono ?_
  rintro e w' ⟨p01, m01, rfl, rfl, s01⟩
  go_wp2_with fail
  rw [rounds_succ]
  go_wp2_with fail
  refine (rspin_any _ _ _ _).mono ?_
  rintro e w' ⟨rfl, rfl⟩
  go_wp2_with fail
  refine (plus_any _ _ _ _ _).mono ?_
  rintro e w' ⟨p02, m02, rfl, rfl, s02⟩
  go_wp2_with fail
  rw [rounds_succ]
  go_wp2_with fail
  refine (rspin_any _ _ _ _).mono ?_
  rintro e w' ⟨rfl, rfl⟩
  go_wp2_with fail
  refine (plus_any _ _ _ _ _).mono ?_
  rintro e w' ⟨p03, m03, rfl, rfl, s03⟩
  go_wp2_with fail
  rw [rounds_succ]
  go_wp2_with fail
  rw [rounds_succ]
  go_wp2_with fail
  refine wp_loop_rounds 4 ?_
  rw [rounds_succ]
  go_wp2_with fail
  refine (rspin_any _ _ _ _).mono ?_
  rintro e w' ⟨rfl, rfl⟩
  go_wp2_with fail
  refine (plus_any _ _ _ _ _).mono ?_
  rintro e w' ⟨p11, m11, rfl, rfl, s11⟩
  go_wp2_with fail
  rw [rounds_succ]
  go_wp2_with fail
  refine (rspin_any _ _ _ _).mono ?_
  rintro e w' ⟨rfl, rfl⟩
  go_wp2_with fail
  refine (plus_any _ _ _ _ _).mono ?_
  rintro e w' ⟨p12, m12, rfl, rfl, s12⟩
  go_wp2_with fail
  rw [rounds_succ]
  go_wp2_with fail
  refine (rspin_any _ _ _ _).mono ?_
  rintro e w' ⟨rfl, rfl⟩
  go_wp2_with fail
  refine (plus_any _ _ _ _ _).mono ?_
  rintro e w' ⟨p13, m13, rfl, rfl, s13⟩
  go_wp2_with fail
  rw [rounds_succ]
  go_wp2_with fail
  rw [rounds_succ]
  go_wp2_with fail
  refine wp_loop_rounds 4 ?_
  rw [rounds_succ]
  go_wp2_with fail
  refine (rspin_any _ _ _ _).mono ?_
  rintro e w' ⟨rfl, rfl⟩
  go_wp2_with fail
  refine (plus_any _ _ _ _ _).mono ?_
  rintro e w' ⟨p21, m21, rfl, rfl, s21⟩
  go_wp2_with fail
  rw [rounds_succ]
  go_wp2_with fail
  refine (rspin_any _ _ _ _).mono ?_
  rintro e w' ⟨rfl, rfl⟩
  go_wp2_with fail
  refine (plus_any _ _ _ _ _).mono ?_
  rintro e w' ⟨p22, m22, rfl, rfl, s22⟩
  go_wp2_with fail
  rw [rounds_succ]
  go_wp2_with fail
  refine (rspin_any _ _ _ _).mono ?_
  rintro e w' ⟨rfl, rfl⟩
  go_wp2_with fail
  refine (plus_any _ _ _ _ _).mono ?_
  rintro e w' ⟨p23, m23, rfl, rfl, s23⟩
  go_wp2_with fail
  rw [rounds_succ]
  go_wp2_with fail
  rw [rounds_succ]
  go_wp2_with fail
  refine wp_loop_rounds 4 ?_
  rw [rounds_succ]
  go_wp2_with fail
  refine (rspin_any _ _ _ _).mono ?_
  rintro e w' ⟨rfl, rfl⟩
  go_wp2_with fail
  refine (plus_any _ _ _ _ _).mono ?_
  rintro e w' ⟨p31, m31, rfl, rfl, s31⟩
  go_wp2_with fail
  rw [rounds_succ]
  go_wp2_with fail
  refine (rspin_any _ _ _ _).mono ?_
  rintro e w' ⟨rfl, rfl⟩
  go_wp2_with fail
  refine (plus_any _ _ _ _ _).mono ?_
  rintro e w' ⟨p32, m32, rfl, rfl, s32⟩
  go_wp2_with fail
  rw [rounds_succ]
  go_wp2_with fail
  refine (rspin_any _ _ _ _).mono ?_
  rintro e w' ⟨rfl, rfl⟩
  go_wp2_with fail
  refine (plus_any _ _ _ _ _).mono ?_
  rintro e w' ⟨p33, m33, rfl, rfl, s33⟩
  go_wp2_with fail
  rw [rounds_succ]
  go_wp2_with fail
  rw [rounds_succ]
  go_wp2_with fail
  refine bodyPost_ret (by simp [results, Try.results14, go_sem]; exact rfl) rfl ?h2
  case h2 =>
    refine ⟨(_, _), (_, _), (_, _), (_, _), rfl, ?_, ⟨p03, ⟨p01, p02, s01, s02, s03⟩, ⟨divOf_divB _ _ _, divOf_divB _ _ _⟩⟩, ⟨p13, ⟨p11, p12, s11, s12, s13⟩, ⟨divOf_divB _ _ _, divOf_divB _ _ _⟩⟩, ⟨p23, ⟨p21, p22, s21, s22, s23⟩, ⟨divOf_divB _ _ _, divOf_divB _ _ _⟩⟩, ⟨p33, ⟨p31, p32, s31, s32, s33⟩, ⟨divOf_divB _ _ _, divOf_divB _ _ _⟩⟩⟩
    repeat (first | with_reducible refine below_drewN ?_ _ | with_reducible refine Below.setCell ?_ (by first | (simp; done) | (simp; omega)) _ | with_reducible refine Below.alloc ?_ (by first | (simp; done) | (simp; omega)) _ | with_reducible exact Below.refl _ _)

end Go.Proofs.Ytlnfghmkfgihjaa
