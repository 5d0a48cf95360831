/-
  Whole, walked: of whole numbers below 2^40 it says yes; and what the law asks of a few.
-/
import Derived.Test.YtlnfghmkfgihjaaInt
namespace Go.Proofs.Ytlnfghmkfgihjaa
open Go.RowKit

theorem run_trunc (x : Nat) (s : Bool) (m : Nat) (i : Int) (h : Ieee.double.read x = .number s m i) (w : World) :
    (callFunc 35 #[.float .f64 x]).run Try.prog w = .ok (.value (.float .f64 (Ieee.double.write ((Ieee.Datum.number s m i).integral .zero)))) w := by
  rw [run_callFunc_extern (e := Extern.MathFloor.toIntegral "math.archTrunc" .zero) Try.func35 (by kernel_rfl) (by kernel_rfl) (by kernel_rfl) (by kernel_rfl)]
  have hd : FloatKind.f64.decode x = .number s m i := h
  obtain ⟨N, hN⟩ : ∃ N : Bool → Nat → Sem Value, Extern.MathFloor.toIntegral "math.archTrunc" .zero #[.float .f64 x] =
      (match FloatKind.f64.decode x with | .nan s t => N s t | d => pure (.float .f64 (FloatKind.f64.encode (d.integral .zero)))) := ⟨_, rfl⟩
  rw [hN, hd]
  rfl

theorem fl_lo : Fl.isI 14010698440749613056 (-1099511627776) := by
  have := Fl.ofInt_isI (-1099511627776) (by decide)
  rw [show floatOfInt .f64 (-1099511627776) = 14010698440749613056 from by decide] at this; exact this
theorem fl_hi : Fl.isI 4787326403894837248 1099511627776 := by
  have := Fl.ofInt_isI 1099511627776 (by decide)
  rw [show floatOfInt .f64 1099511627776 = 4787326403894837248 from by decide] at this; exact this

set_option maxHeartbeats 400000 in
theorem wholePart_int (x : Nat) (n : Int) (hx : Fl.isI x n) (h0 : -1099511627776 < n) (h1 : n < 1099511627776) (w : World) :
    Calls Try.prog 29 #[.float .f64 x] w fun e w' => e = .returned (.bool true) ∧ w = w' := by
  obtain ⟨s, m, i, hr, ht⟩ := Fl.trunc_isI hx (by omega)
  have r1 := run_trunc x s m i hr
  generalize Ieee.double.write ((Ieee.Datum.number s m i).integral .zero) = t at ht r1
  have o1 : FloatKind.f64.format.order x 14010698440749613056 = some .gt := Fl.gt_isI hx fl_lo h0
  have o2 : FloatKind.f64.format.order x 4787326403894837248 = some .lt := Fl.lt_isI hx fl_hi h1
  have o3 : FloatKind.f64.format.order x t = some .eq := Fl.eq_isI hx ht
  clear hr hx ht h0 h1
  go_enter Try.func29, Try.ntmps29
  go_wp2
  go_ret
  exact ⟨rfl, rfl⟩

set_option maxHeartbeats 400000 in
theorem whole_int (z : Nat × Nat) (p : Int × Int) (hz : CI z p) (h : Bd 1099511627775 p) (w : World) :
    Calls Try.prog 19 #[.complex .f64 z.1 z.2] w fun e w' => e = .returned (.bool true) ∧ w = w' := by
  have c1 := fun w => wholePart_int z.1 p.1 hz.1 (by have := h.1; omega) (by have := h.1; omega) w
  have c2 := fun w => wholePart_int z.2 p.2 hz.2 (by have := h.2; omega) (by have := h.2; omega) w
  have C1 := Lib.hid c1
  have C2 := Lib.hid c2
  clear c1 c2 hz h
  go_enter Try.func19, Try.ntmps19
  go_wp2_with fail
  refine (C1.out _).mono ?_
  rintro e w' ⟨rfl, rfl⟩
  go_wp2_with fail
  refine (C2.out _).mono ?_
  rintro e w' ⟨rfl, rfl⟩
  go_wp2_with fail
  go_ret
  exact ⟨rfl, rfl⟩

set_option maxHeartbeats 400000 in
theorem wholePart_half (w : World) :
    Calls Try.prog 29 #[.float .f64 4602678819172646912] w fun e w' => e = .returned (.bool false) ∧ w = w' := by
  have r1 := run_trunc 4602678819172646912 false (2 ^ 52) (-53) (by decide)
  rw [show Ieee.double.write ((Ieee.Datum.number false (2 ^ 52) (-53)).integral .zero) = 0 from by decide +kernel] at r1
  have o1 : FloatKind.f64.format.order 4602678819172646912 14010698440749613056 = some .gt := by decide +kernel
  have o2 : FloatKind.f64.format.order 4602678819172646912 4787326403894837248 = some .lt := by decide +kernel
  have o3 : FloatKind.f64.format.order 4602678819172646912 0 = some .gt := by decide +kernel
  go_enter Try.func29, Try.ntmps29
  go_wp2
  go_ret
  exact ⟨rfl, rfl⟩

set_option maxHeartbeats 400000 in
theorem whole_half (w : World) :
    Calls Try.prog 19 #[.complex .f64 0 4602678819172646912] w fun e w' => e = .returned (.bool false) ∧ w = w' := by
  go_enter Try.func19, Try.ntmps19
  go_wp2_with fail
  refine (wholePart_int 0 0 fl_0 (by decide) (by decide) _).mono ?_
  rintro e w' ⟨rfl, rfl⟩
  go_wp2_with fail
  refine (wholePart_half _).mono ?_
  rintro e w' ⟨rfl, rfl⟩
  go_wp2_with fail
  go_ret
  exact ⟨rfl, rfl⟩

theorem MulOf.val {x y r v : Nat} (h : MulOf x y r) (e : Ieee.double.mul x y = some v) : r = v := by
  rcases h with h | h
  · rw [e] at h; cases h; rfl
  · rw [e] at h; cases h.1
theorem SumOf.val {x y r v : Nat} (h : SumOf x y r) (e : Ieee.double.add x y = some v) : r = v := by
  rcases h with h | h
  · rw [e] at h; cases h; rfl
  · rw [e] at h; cases h.1

theorem norm_int (z : Nat × Nat) (p : Int × Int) (hz : CI z p) (hb : Bd 1000000 p) (w : World) :
    Calls Try.prog 18 #[.complex .f64 z.1 z.2] w fun e w' => ∃ r, e = .returned (.float .f64 r) ∧ Fl.isI r (nrmI p) ∧ w = w' := by
  have b1 := sq_bd hb.1
  have b2 := sq_bd hb.2
  obtain ⟨v1, e1, i1⟩ := Fl.mul_isI hz.1 hz.1 (by omega)
  obtain ⟨v2, e2, i2⟩ := Fl.mul_isI hz.2 hz.2 (by omega)
  obtain ⟨v3, e3, i3⟩ := Fl.add_isI i1 i2 (by omega)
  obtain ⟨m1, n1⟩ := mulB_val e1
  obtain ⟨m2, n2⟩ := mulB_val e2
  obtain ⟨m3, n3⟩ := addB_val e3
  clear b1 b2 e1 e2 e3 i1 i2 hz hb
  go_enter Try.func18, Try.ntmps18
  go_wp2
  go_ret
  exact ⟨v3, rfl, i3, rfl⟩

theorem norm_34 (w : World) :
    Calls Try.prog 18 #[.complex .f64 4613937818241073152 4616189618054758400] w fun e w' => ∃ n, e = .returned (.float .f64 4627730092099895296) ∧ w.drewN n = w' := by
  refine (norm_any _ _ _).mono ?_
  rintro e w' ⟨x, y, r, n, rfl, rfl, hx, hy, hr⟩
  have h1 := hx.val (v := 4621256167635550208) (by decide +kernel)
  have h2 := hy.val (v := 4625196817309499392) (by decide +kernel)
  subst h1 h2
  have h3 := hr.val (v := 4627730092099895296) (by decide +kernel)
  subst h3
  exact ⟨n, rfl, rfl⟩

theorem sumTo_CI {zs : List (Nat × Nat)} {ps : List (Int × Int)} {B : Nat} (hz : ∀ j, CI (zs.getD j (0, 0)) (ps.getD j (0, 0))) (hB : ∀ j, Bd B (ps.getD j (0, 0))) :
    ∀ {k : Nat} {r : Nat × Nat}, SumTo zs k r → k * B ≤ 2 ^ 53 → CI r ((List.range k).foldl (fun s j => addI s (ps.getD j (0, 0))) (0, 0)) ∧ Bd (k * B) ((List.range k).foldl (fun s j => addI s (ps.getD j (0, 0))) (0, 0))
  | 0, r, h, _ => by cases h; exact ⟨⟨fl_0, fl_0⟩, by simp [Bd]⟩
  | k + 1, r, ⟨m, hm, h⟩, hk => by
    have hk' : k * B + B ≤ 2 ^ 53 := by rw [Nat.succ_mul] at hk; exact hk
    obtain ⟨h1, h2⟩ := sumTo_CI hz hB hm (by omega)
    rw [List.range_succ, List.foldl_append]
    have h3 := add_Bd h2 (hB k)
    rw [Nat.succ_mul]
    exact ⟨h.CI h1 (hz k) h3 hk', h3⟩

end Go.Proofs.Ytlnfghmkfgihjaa
