/-
  The few examples that every law of the layer asks for first: the program tells them as the document does.
-/
import Derived.Test.YtlnfghmkfgihjaaWhole
namespace Go.Proofs.Ytlnfghmkfgihjaa
open Go.RowKit

theorem CI_1 : CI (4607182418800017408, 0) (1, 0) := ⟨fl_1, fl_0⟩
theorem CI_0 : CI (0, 0) (0, 0) := ⟨fl_0, fl_0⟩
theorem CI_i : CI (0, 4607182418800017408) (0, 1) := ⟨fl_0, fl_1⟩

theorem CI_27 : CI (4611686018427387904, 13842939354630062080) (2, -7) := by
  have h1 := Fl.ofInt_isI 2 (by decide)
  have h2 := Fl.ofInt_isI (-7) (by decide)
  rw [show floatOfInt .f64 2 = 4611686018427387904 from by decide] at h1
  rw [show floatOfInt .f64 (-7) = 13842939354630062080 from by decide] at h2
  exact ⟨h1, h2⟩

set_option maxHeartbeats 1000000 in
theorem told_any (w : World) :
    Calls Try.prog 9 #[] w fun e w' => e = .returned (.bool true) ∧ Below w.heap.size w w' := by
  have o00 : FloatKind.f64.format.order 0 0 = some .eq := by decide +kernel
  have o11 : FloatKind.f64.format.order 4607182418800017408 4607182418800017408 = some .eq := by decide +kernel
  have o22 : FloatKind.f64.format.order 13830554455654793216 13830554455654793216 = some .eq := by decide +kernel
  have o33 : FloatKind.f64.format.order 4613937818241073152 4613937818241073152 = some .eq := by decide +kernel
  have o44 : FloatKind.f64.format.order 13839561654909534208 13839561654909534208 = some .eq := by decide +kernel
  have o55 : FloatKind.f64.format.order 4627730092099895296 4627730092099895296 = some .eq := by decide +kernel
  have t1 : turn 1 = (0, 4607182418800017408) := rfl
  have t2 : turn (-1) = (0, 13830554455654793216) := rfl
  have t3 : turn 6 = (13830554455654793216, 0) := rfl
  have t4 : spin 1 (4613937818241073152, 4616189618054758400) = (13839561654909534208, 4613937818241073152) := by decide +kernel
  have T1 := Lib.hid t1
  have T2 := Lib.hid t2
  have T3 := Lib.hid t3
  have T4 := Lib.hid t4
  clear t1 t2 t3 t4
  go_enter Try.func9, Try.ntmps9
  go_wp2_with fail
  refine (four_any (4607182418800017408, 0) (0, 0) (0, 0) (0, 0) _).mono ?_
  rintro e w' ⟨r0, r1, r2, r3, rfl, hb, s0, s1, s2, s3⟩
  have h2 := (s2.CI CI_1 CI_0 CI_0 CI_0 (B := 1) ⟨by decide, by decide⟩ ⟨by decide, by decide⟩ ⟨by decide, by decide⟩ ⟨by decide, by decide⟩ (by decide)).1
  have e1 : FloatKind.f64.format.order r2.1 4607182418800017408 = some .eq := Fl.eq_isI h2.1 fl_1
  have e2 : FloatKind.f64.format.order r2.2 0 = some .eq := Fl.eq_isI h2.2 fl_0
  clear h2 s0 s1 s2 s3
  go_wp2_with fail
  refine (turn_any _ _).mono ?_
  rintro e w' ⟨rfl, rfl⟩
  rw [T1.out]
  go_wp2_with fail
  refine (turn_any _ _).mono ?_
  rintro e w' ⟨rfl, rfl⟩
  rw [T2.out]
  go_wp2_with fail
  refine (turn_any _ _).mono ?_
  rintro e w' ⟨rfl, rfl⟩
  rw [T3.out]
  go_wp2_with fail
  refine (spin_any _ _ _ _).mono ?_
  rintro e w' ⟨rfl, rfl⟩
  rw [T4.out]
  go_wp2_with fail
  refine (norm_34 _).mono ?_
  rintro e w' ⟨n, rfl, rfl⟩
  go_wp2_with fail
  refine (whole_int (4611686018427387904, 13842939354630062080) (2, -7) CI_27 ⟨by decide, by decide⟩ _).mono ?_
  rintro e w' ⟨rfl, rfl⟩
  go_wp2_with fail
  refine (whole_half _).mono ?_
  rintro e w' ⟨rfl, rfl⟩
  go_wp2_with fail
  refine (sum_any _ 0 2 _ [(4607182418800017408, 0), (0, 4607182418800017408)] (by decide) _ ?hc).mono ?_
  case hc =>
    intro j hj
    match j, hj with
    | 0, _ => simp [go_sem]
    | 1, _ => simp [go_sem]
  rintro e w' ⟨r, m, rfl, rfl, hs⟩
  have hr := (sumTo_CI (zs := [(4607182418800017408, 0), (0, 4607182418800017408)]) (ps := [(1, 0), (0, 1)]) (B := 1) (fun j => match j with | 0 => CI_1 | 1 => CI_i | _ + 2 => CI_0) (fun j => match j with | 0 => ⟨by decide, by decide⟩ | 1 => ⟨by decide, by decide⟩ | _ + 2 => ⟨Nat.zero_le _, Nat.zero_le _⟩) hs (by decide)).1
  have g1 : FloatKind.f64.format.order r.1 4607182418800017408 = some .eq := Fl.eq_isI hr.1 fl_1
  have g2 : FloatKind.f64.format.order r.2 4607182418800017408 = some .eq := Fl.eq_isI hr.2 fl_1
  clear hr hs
  go_wp2_with fail
  go_ret
  refine ⟨rfl, ?_⟩
  repeat (first | with_reducible refine below_drewN ?_ _ | with_reducible refine Below.setCell ?_ (by first | (simp; done) | (simp; omega)) _ | with_reducible refine Below.alloc ?_ (by have := hb.size; first | (simp; done) | (simp; omega)) _ | with_reducible exact hb)

end Go.Proofs.Ytlnfghmkfgihjaa
