/-
  The four sums, walked: each is a chain of sums of turned numbers.
-/
import Derived.Test.YtlnfghmkfgihjaaLeaf
namespace Go.Proofs.Ytlnfghmkfgihjaa
open Go.RowKit

/-- the sum of four numbers, each turned by s quarters more than the one ahead. -/
def Spun (s : Int) (z0 z1 z2 z3 r : Nat × Nat) : Prop :=
  ∃ r1 r2, CSumOf z0 (spin s z1) r1 ∧ CSumOf r1 (spin (2 * s) z2) r2 ∧ CSumOf r2 (spin (3 * s) z3) r

/-- four complex numbers in a block of their own. -/
def blk4 (z0 z1 z2 z3 : Nat × Nat) : Obj := .cells #[.complex .f64 z0.1 z0.2, .complex .f64 z1.1 z1.2, .complex .f64 z2.1 z2.2, .complex .f64 z3.1 z3.2] 25
@[go_sem] theorem blk4_eq (z0 z1 z2 z3 : Nat × Nat) : blk4 z0 z1 z2 z3 = .cells #[.complex .f64 z0.1 z0.2, .complex .f64 z1.1 z1.2, .complex .f64 z2.1 z2.2, .complex .f64 z3.1 z3.2] 25 := rfl

set_option maxHeartbeats 400000 in
theorem spun_any (z0 z1 z2 z3 : Nat × Nat) (s : Int) (h0 : -4 < s) (h1 : s < 4) (w : World) :
    Calls Try.prog 25 #[.agg #[.complex .f64 z0.1 z0.2, .complex .f64 z1.1 z1.2, .complex .f64 z2.1 z2.2, .complex .f64 z3.1 z3.2], .int .i64 s] w fun e w' =>
      ∃ r n, e = .returned (cx r) ∧ (w.alloc (blk4 z0 z1 z2 z3)).drewN n = w' ∧ Spun s z0 z1 z2 z3 r := by
  go_enter Try.func25, Try.ntmps25
  go_wp2
  refine wp_scope_passes 3 0 rfl ?_
  go_wp2
  go_step3
  go_wp2_with (go_at_call 20; refine (spin_any _ _ _ _).mono ?_; rintro e w' ⟨rfl, rfl⟩)
  go_step3
  refine ⟨rfl, ?_⟩
  rw [passes_succ]
  go_wp2_with (go_at_call 20; refine (spin_any _ _ _ _).mono ?_; rintro e w' ⟨rfl, rfl⟩)
  go_step3
  refine ⟨rfl, ?_⟩
  rw [passes_succ]
  go_wp2_with (go_at_call 20; refine (spin_any _ _ _ _).mono ?_; rintro e w' ⟨rfl, rfl⟩)
  go_step3
  refine ⟨rfl, ?_⟩
  rw [passes_succ]
  go_wp2
  refine jump_ret ?_
  go_ret
  exact ⟨(_, _), _, rfl, rfl, (_, _), (_, _), ⟨sumOf_addB _ _ _, sumOf_addB _ _ _⟩, ⟨sumOf_addB _ _ _, sumOf_addB _ _ _⟩, ⟨sumOf_addB _ _ _, sumOf_addB _ _ _⟩⟩

theorem bcell {W w1 : World} (hb : Below W.heap.size W w1) : (∀ b o, b < W.heap.size → w1.cell? ⟨b, o, none⟩ = W.cell? ⟨b, o, none⟩) ∧ (∀ b o, b < W.heap.size → w1.frozen? ⟨b, o, none⟩ = W.frozen? ⟨b, o, none⟩) :=
  ⟨fun b o h => hb.cell (p := ⟨b, o, none⟩) h, fun b o h => hb.frozen (p := ⟨b, o, none⟩) h⟩

set_option maxHeartbeats 1000000 in
theorem four_any (z0 z1 z2 z3 : Nat × Nat) (w : World) :
    Calls Try.prog 11 #[.agg #[.complex .f64 z0.1 z0.2, .complex .f64 z1.1 z1.2, .complex .f64 z2.1 z2.2, .complex .f64 z3.1 z3.2]] w fun e w' =>
      ∃ r0 r1 r2 r3, e = .returned (.agg #[cx r0, cx r1, cx r2, cx r3]) ∧ Below w.heap.size w w' ∧
      Spun 0 z0 z1 z2 z3 r0 ∧ Spun (-1) z0 z1 z2 z3 r1 ∧ Spun (-2) z0 z1 z2 z3 r2 ∧ Spun (-3) z0 z1 z2 z3 r3 := by
  go_enter Try.func11, Try.ntmps11
  go_wp2
  refine wp_loop_rounds 5 ?_
  rw [rounds_succ]
  go_wp2_with fail
  refine (spun_any _ _ _ _ _ (by decide) (by decide) _).mono ?_
  rintro e w' ⟨r0, n0, rfl, rfl, s0⟩
  go_wp2_with fail
  rw [rounds_succ]
  go_wp2_with fail
  refine (spun_any _ _ _ _ _ (by decide) (by decide) _).mono ?_
  rintro e w' ⟨r1, n1, rfl, rfl, s1⟩
  go_wp2_with fail
  rw [rounds_succ]
  go_wp2_with fail
  refine (spun_any _ _ _ _ _ (by decide) (by decide) _).mono ?_
  rintro e w' ⟨r2, n2, rfl, rfl, s2⟩
  go_wp2_with fail
  rw [rounds_succ]
  go_wp2_with fail
  refine (spun_any _ _ _ _ _ (by decide) (by decide) _).mono ?_
  rintro e w' ⟨r3, n3, rfl, rfl, s3⟩
  go_wp2_with fail
  rw [rounds_succ]
  go_wp2_with fail
  refine bodyPost_ret (v := .agg #[.complex .f64 r0.1 r0.2, .complex .f64 r1.1 r1.2, .complex .f64 r2.1 r2.2, .complex .f64 r3.1 r3.2]) ?h1 rfl ?h2
  case h1 =>
    simp [results, Try.results11, go_sem]
  case h2 =>
    refine ⟨r0, r1, r2, r3, rfl, ?_, s0, s1, s2, s3⟩
    repeat (first | with_reducible refine below_drewN ?_ _ | with_reducible refine Below.setCell ?_ (by first | (simp; done) | (simp; omega)) _ | with_reducible refine Below.alloc ?_ (by first | (simp; done) | (simp; omega)) _ | with_reducible exact Below.refl _ _)

/-- a quarter of a number, part by part. -/
def CFourth (z r : Nat × Nat) : Prop := DivOf z.1 4616189618054758400 r.1 ∧ DivOf z.2 4616189618054758400 r.2

set_option maxHeartbeats 1000000 in
theorem back_any (z0 z1 z2 z3 : Nat × Nat) (w : World) :
    Calls Try.prog 12 #[.agg #[.complex .f64 z0.1 z0.2, .complex .f64 z1.1 z1.2, .complex .f64 z2.1 z2.2, .complex .f64 z3.1 z3.2]] w fun e w' =>
      ∃ r0 r1 r2 r3, e = .returned (.agg #[cx r0, cx r1, cx r2, cx r3]) ∧ Below w.heap.size w w' ∧
      (∃ t, Spun 0 z0 z1 z2 z3 t ∧ CFourth t r0) ∧ (∃ t, Spun 1 z0 z1 z2 z3 t ∧ CFourth t r1) ∧ (∃ t, Spun 2 z0 z1 z2 z3 t ∧ CFourth t r2) ∧ (∃ t, Spun 3 z0 z1 z2 z3 t ∧ CFourth t r3) := by
  go_enter Try.func12, Try.ntmps12
  go_wp2
  refine wp_loop_rounds 5 ?_
  rw [rounds_succ]
  go_wp2_with fail
  refine (spun_any _ _ _ _ _ (by decide) (by decide) _).mono ?_
  rintro e w' ⟨t0, n0, rfl, rfl, s0⟩
  go_wp2_with fail
  refine (fourth_any _ _ _).mono ?_
  rintro e w' ⟨r0, m0, rfl, rfl, u0⟩
  go_wp2_with fail
  rw [rounds_succ]
  go_wp2_with fail
  refine (spun_any _ _ _ _ _ (by decide) (by decide) _).mono ?_
  rintro e w' ⟨t1, n1, rfl, rfl, s1⟩
  go_wp2_with fail
  refine (fourth_any _ _ _).mono ?_
  rintro e w' ⟨r1, m1, rfl, rfl, u1⟩
  go_wp2_with fail
  rw [rounds_succ]
  go_wp2_with fail
  refine (spun_any _ _ _ _ _ (by decide) (by decide) _).mono ?_
  rintro e w' ⟨t2, n2, rfl, rfl, s2⟩
  go_wp2_with fail
  refine (fourth_any _ _ _).mono ?_
  rintro e w' ⟨r2, m2, rfl, rfl, u2⟩
  go_wp2_with fail
  rw [rounds_succ]
  go_wp2_with fail
  refine (spun_any _ _ _ _ _ (by decide) (by decide) _).mono ?_
  rintro e w' ⟨t3, n3, rfl, rfl, s3⟩
  go_wp2_with fail
  refine (fourth_any _ _ _).mono ?_
  rintro e w' ⟨r3, m3, rfl, rfl, u3⟩
  go_wp2_with fail
  rw [rounds_succ]
  go_wp2_with fail
  refine bodyPost_ret (v := .agg #[.complex .f64 r0.1 r0.2, .complex .f64 r1.1 r1.2, .complex .f64 r2.1 r2.2, .complex .f64 r3.1 r3.2]) ?h1 rfl ?h2
  case h1 =>
    simp [results, Try.results12, go_sem]
  case h2 =>
    refine ⟨r0, r1, r2, r3, rfl, ?_, ⟨t0, s0, u0⟩, ⟨t1, s1, u1⟩, ⟨t2, s2, u2⟩, ⟨t3, s3, u3⟩⟩
    repeat (first | with_reducible refine below_drewN ?_ _ | with_reducible refine Below.setCell ?_ (by first | (simp; done) | (simp; omega)) _ | with_reducible refine Below.alloc ?_ (by first | (simp; done) | (simp; omega)) _ | with_reducible exact Below.refl _ _)

end Go.Proofs.Ytlnfghmkfgihjaa
