/-
  QuadTurns, walked: turns add up, four quarters are none, a turn changes no norm.
-/
import Derived.Test.YtlnfghmkfgihjaaTold
namespace Go.Proofs.Ytlnfghmkfgihjaa
open Go.RowKit

theorem ng_ng (b : Nat) : ng (ng b) = b := by
  unfold ng Op.negFloat
  rw [Nat.xor_assoc, Nat.xor_self, Nat.xor_zero]

theorem spin_spin (j k : Int) (z : Nat × Nat) : spin k (spin j z) = spin (j + k) z := by
  have hj : j % 4 = 0 ∨ j % 4 = 1 ∨ j % 4 = 2 ∨ j % 4 = 3 := by omega
  have hk : k % 4 = 0 ∨ k % 4 = 1 ∨ k % 4 = 2 ∨ k % 4 = 3 := by omega
  rcases hj with hj | hj | hj | hj <;> rcases hk with hk | hk | hk | hk
  · rw [spin_0 hj, spin_0 hk, spin_0 (by omega)]
  · rw [spin_0 hj, spin_1 hk, spin_1 (by omega)]
  · rw [spin_0 hj, spin_2 hk, spin_2 (by omega)]
  · rw [spin_0 hj, spin_3 hk, spin_3 (by omega)]
  · rw [spin_1 hj, spin_0 hk, spin_1 (by omega)]
  · rw [spin_1 hj, spin_1 hk, spin_2 (by omega)]
  · rw [spin_1 hj, spin_2 hk, spin_3 (by omega)]; simp only [ng_ng]
  · rw [spin_1 hj, spin_3 hk, spin_0 (by omega)]; simp only [ng_ng]
  · rw [spin_2 hj, spin_0 hk, spin_2 (by omega)]
  · rw [spin_2 hj, spin_1 hk, spin_3 (by omega)]; simp only [ng_ng]
  · rw [spin_2 hj, spin_2 hk, spin_0 (by omega)]; simp only [ng_ng]
  · rw [spin_2 hj, spin_3 hk, spin_1 (by omega)]; simp only [ng_ng]
  · rw [spin_3 hj, spin_0 hk, spin_3 (by omega)]
  · rw [spin_3 hj, spin_1 hk, spin_0 (by omega)]; simp only [ng_ng]
  · rw [spin_3 hj, spin_2 hk, spin_1 (by omega)]; simp only [ng_ng]
  · rw [spin_3 hj, spin_3 hk, spin_2 (by omega)]

theorem nan_ng {b : Nat} (h : b < 2 ^ 64) : NaN (ng b) ↔ NaN b := by
  unfold NaN
  rw [(read_ng h).2]
  cases Ieee.double.read b <;> simp [Ieee.Datum.opposite, Ieee.Datum.isNaN]

theorem spin_nan {x y : Nat} (k : Int) (hx : x < 2 ^ 64) (hy : y < 2 ^ 64) (h : NaN x ∨ NaN y) : NaN (spin k (x, y)).1 ∨ NaN (spin k (x, y)).2 := by
  have hk : k % 4 = 0 ∨ k % 4 = 1 ∨ k % 4 = 2 ∨ k % 4 = 3 := by omega
  rcases hk with hk | hk | hk | hk
  · rw [spin_0 hk]; exact h
  · rw [spin_1 hk]; simp only [nan_ng hy]; exact h.symm
  · rw [spin_2 hk]; simp only [nan_ng hy, nan_ng hx]; exact h
  · rw [spin_3 hk]; simp only [nan_ng hx]; exact h.symm

theorem spin_num {x y : Nat} (k : Int) (hx : x < 2 ^ 64) (hy : y < 2 ^ 64) (h : ¬ NaN x) (g : ¬ NaN y) : ¬ NaN (spin k (x, y)).1 ∧ ¬ NaN (spin k (x, y)).2 := by
  have hk : k % 4 = 0 ∨ k % 4 = 1 ∨ k % 4 = 2 ∨ k % 4 = 3 := by omega
  rcases hk with hk | hk | hk | hk
  · rw [spin_0 hk]; exact ⟨h, g⟩
  · rw [spin_1 hk]; simp only [nan_ng hy]; exact ⟨g, h⟩
  · rw [spin_2 hk]; simp only [nan_ng hy, nan_ng hx]; exact ⟨h, g⟩
  · rw [spin_3 hk]; simp only [nan_ng hx]; exact ⟨g, h⟩

theorem mul_ng {x : Nat} (hx : x < 2 ^ 64) : Ieee.double.mul (ng x) (ng x) = Ieee.double.mul x x := by
  unfold Ieee.Format.mul
  rw [(read_ng hx).2]
  congr 1
  cases h : Ieee.double.read x with
  | nan s t => rfl
  | infinity s => cases s <;> rfl
  | number s m i => cases s <;> rfl

theorem MulOf.like {x y r x' y' r' : Nat} (h : MulOf x y r) (h' : MulOf x' y' r') (e : Ieee.double.mul x y = Ieee.double.mul x' y') : Like r r' := by
  rcases h with h | h
  · rcases h' with h' | h'
    · rw [e, h'] at h; cases h; exact .inl rfl
    · rw [e, h'.1] at h; cases h
  · rcases h' with h' | h'
    · rw [e, h'] at h; cases h.1
    · exact .inr ⟨h.2, h'.2⟩

/-- twice j quarters: the parts as they were, or their signs turned. -/
theorem spin_even (j : Int) (z : Nat × Nat) : spin (2 * j) z = z ∨ spin (2 * j) z = (ng z.1, ng z.2) := by
  have hj : 2 * j % 4 = 0 ∨ 2 * j % 4 = 2 := by omega
  rcases hj with hj | hj
  · exact .inl (spin_0 hj z)
  · exact .inr (spin_2 hj z)

def turnsMul (j k : Int) : Bool :=
  match cMulBits (turn j).1 (turn j).2 (turn k).1 (turn k).2 with
  | some r => Ieee.double.order r.1 (turn (j + k)).1 == some .eq && Ieee.double.order r.2 (turn (j + k)).2 == some .eq
  | none => false

theorem turn_mod (j : Int) : turn (j % 4) = turn j := by
  unfold turn; rw [Int.emod_emod_of_dvd j (Int.dvd_refl 4)]

theorem turnsMul_all (j k : Int) : turnsMul j k = true := by
  have e : turnsMul j k = turnsMul (j % 4) (k % 4) := by
    unfold turnsMul
    rw [turn_mod, turn_mod, ← turn_mod (j % 4 + k % 4), ← turn_mod (j + k), show (j % 4 + k % 4) % 4 = (j + k) % 4 from by omega]
  have hj : j % 4 = 0 ∨ j % 4 = 1 ∨ j % 4 = 2 ∨ j % 4 = 3 := by omega
  have hk : k % 4 = 0 ∨ k % 4 = 1 ∨ k % 4 = 2 ∨ k % 4 = 3 := by omega
  rw [e]
  rcases hj with hj | hj | hj | hj <;> rcases hk with hk | hk | hk | hk <;> (rw [hj, hk]; decide +kernel)

theorem turn_mul (j k : Int) : ∃ re im, cMulBits (turn j).1 (turn j).2 (turn k).1 (turn k).2 = some (re, im) ∧ FloatKind.f64.format.order re (turn (j + k)).1 = some .eq ∧ FloatKind.f64.format.order im (turn (j + k)).2 = some .eq := by
  have h := turnsMul_all j k
  unfold turnsMul at h
  split at h
  · rename_i r hr
    simp only [Bool.and_eq_true, beq_iff_eq] at h
    exact ⟨r.1, r.2, hr, h.1, h.2⟩
  · cases h

theorem mod2001 (a : Int) : wrap64 ((IntKind.u64.wrap a).tmod 2001) = a % 18446744073709551616 % 2001 := by
  have h : IntKind.u64.wrap a = a % 18446744073709551616 := by simp [IntKind.wrap, IntKind.bits, IntKind.signed]
  rw [h, Int.tmod_eq_emod_of_nonneg (by omega)]
  simp only [wrap64]
  omega

set_option maxHeartbeats 2000000 in
theorem turns_any (x y : Nat) (a b : Int) (w : World) (hx : x < 2 ^ 64) (hy : y < 2 ^ 64) :
    Calls Try.prog 5 #[.float .f64 x, .float .f64 y, .int .i64 a, .int .i64 b] w fun e w' => e = .returned (.bool true) ∧ Below w.heap.size w w' := by
  have ha := mod2001 a
  have hb := mod2001 b
  obtain ⟨j0, hj⟩ : ∃ j, a % 18446744073709551616 % 2001 = j := ⟨_, rfl⟩
  obtain ⟨k0, hk⟩ : ∃ j, b % 18446744073709551616 % 2001 = j := ⟨_, rfl⟩
  have p0 : 0 ≤ j0 := by omega
  have p1 : j0 < 2001 := by omega
  have p2 : 0 ≤ k0 := by omega
  have p3 : k0 < 2001 := by omega
  rw [hj] at ha
  rw [hk] at hb
  clear hj hk
  generalize hj1 : j0 - 1000 = j
  generalize hk1 : k0 - 1000 = k
  have q0 : -1000 ≤ j := by omega
  have q1 : j ≤ 1000 := by omega
  have q2 : -1000 ≤ k := by omega
  have q3 : k ≤ 1000 := by omega
  obtain ⟨s1, s2, hs12⟩ : ∃ s1 s2, spin (j + k) (x, y) = (s1, s2) := ⟨_, _, rfl⟩
  have S1 := Lib.hid (show spin k ((spin j (x, y)).1, (spin j (x, y)).2) = (s1, s2) from (spin_spin j k (x, y)).trans hs12)
  have S2 := Lib.hid hs12
  have S3 := Lib.hid (show spin 4 (x, y) = (x, y) from spin_0 rfl _)
  by_cases hn : NaN x ∨ NaN y
  · have hs := spin_nan (j + k) hx hy hn
    rw [hs12] at hs
    clear hs12
    have hxy : (FloatKind.f64.format.order x x = none) ∨ (FloatKind.f64.format.order x x = some .eq ∧ FloatKind.f64.format.order y y = none) := by
      by_cases hx' : NaN x
      · exact .inl (order_nan x hx')
      · exact .inr ⟨order_self hx', order_nan y (hn.resolve_left hx')⟩
    have hss : (FloatKind.f64.format.order s1 s1 = none) ∨ (FloatKind.f64.format.order s1 s1 = some .eq ∧ FloatKind.f64.format.order s2 s2 = none) := by
      by_cases hx' : NaN s1
      · exact .inl (order_nan s1 hx')
      · exact .inr ⟨order_self hx', order_nan s2 (hs.resolve_left hx')⟩
    clear hn hs
    go_enter Try.func5, Try.ntmps5
    rcases hxy with o1 | ⟨o1, o2⟩ <;> rcases hss with r1 | ⟨r1, r2⟩
    all_goals
      go_wp2_with fail
      refine (z_any _ _ _).mono ?_
      rintro e w' ⟨rfl, rfl⟩
      go_wp2_with fail
      refine (spin_any _ _ _ _).mono ?_
      rintro e w' ⟨rfl, rfl⟩
      go_wp2_with fail
      refine (spin_any _ _ _ _).mono ?_
      rintro e w' ⟨rfl, rfl⟩
      rw [S1.out]
      go_wp2_with fail
      refine (told_any _).mono ?_
      rintro e w1 ⟨rfl, hb1⟩
      go_wp2_with fail
      go_ret
      exact ⟨rfl, hb1⟩
  · have nx : ¬ NaN x := fun h => hn (.inl h)
    have ny : ¬ NaN y := fun h => hn (.inr h)
    have hs := spin_num (j + k) hx hy nx ny
    rw [hs12] at hs
    clear hs12
    have o1 : FloatKind.f64.format.order x x = some .eq := order_self nx
    have o2 : FloatKind.f64.format.order y y = some .eq := order_self ny
    have o3 : FloatKind.f64.format.order s1 s1 = some .eq := order_self hs.1
    have o4 : FloatKind.f64.format.order s2 s2 = some .eq := order_self hs.2
    clear hn hs nx ny
    obtain ⟨re, im, hm, o5, o6⟩ := turn_mul j k
    have hmul := fun t w => run_complex_mul (P := Try.prog) w t _ _ _ _ re im hm
    have HM := Lib.hid hmul
    clear hm hmul
    have hev := spin_even j (x, y)
    have HE := Lib.hid hev
    clear hev
    go_enter Try.func5, Try.ntmps5
    go_wp2_with fail
    refine (z_any _ _ _).mono ?_
    rintro e w' ⟨rfl, rfl⟩
    go_wp2_with fail
    refine (spin_any _ _ _ _).mono ?_
    rintro e w' ⟨rfl, rfl⟩
    go_wp2_with fail
    refine (spin_any _ _ _ _).mono ?_
    rintro e w' ⟨rfl, rfl⟩
    rw [S1.out]
    go_wp2_with fail
    refine (told_any _).mono ?_
    rintro e w1 ⟨rfl, hb1⟩
    go_wp2_with fail
    refine (spin_any _ _ _ _).mono ?_
    rintro e w' ⟨rfl, rfl⟩
    rw [S2.out]
    go_wp2_with fail
    refine (spin_any _ _ _ _).mono ?_
    rintro e w' ⟨rfl, rfl⟩
    rw [S3.out]
    go_wp2_with fail
    refine (spin_any _ _ _ _).mono ?_
    rintro e w' ⟨rfl, rfl⟩
    go_wp2_with fail
    refine (norm_any _ _ _).mono ?_
    rintro e w' ⟨m1, m2, m, n1, rfl, rfl, hm1, hm2, hm⟩
    have X1 := Lib.hid hm1
    have X2 := Lib.hid hm2
    have X3 := Lib.hid hm
    clear hm1 hm2 hm
    go_wp2_with fail
    refine (norm_any _ _ _).mono ?_
    rintro e w' ⟨m1', m2', m', n2, rfl, rfl, hm1, hm2, hm⟩
    have hlike : Like m m' := by
      have e1 : Ieee.double.mul (spin (2 * j) (x, y)).1 (spin (2 * j) (x, y)).1 = Ieee.double.mul x x := by
        rcases HE.out with h | h
        · rw [h]
        · rw [h]; exact mul_ng hx
      have e2 : Ieee.double.mul (spin (2 * j) (x, y)).2 (spin (2 * j) (x, y)).2 = Ieee.double.mul y y := by
        rcases HE.out with h | h
        · rw [h]
        · rw [h]; exact mul_ng hy
      exact X3.out.like hm (X1.out.like hm1 e1) (X2.out.like hm2 e2)
    clear hm1 hm2 hm
    have XL := Lib.hid hlike
    clear hlike
    go_wp2_with fail
    refine (float_yes _ _ XL.out _).mono ?_
    rintro e w' ⟨rfl, rfl⟩
    go_wp2_with fail
    refine (turn_any _ _).mono ?_
    rintro e w' ⟨rfl, rfl⟩
    go_wp2_with fail
    refine (turn_any _ _).mono ?_
    rintro e w' ⟨rfl, rfl⟩
    have hmul := HM.out
    go_wp2_with fail
    refine (turn_any _ _).mono ?_
    rintro e w' ⟨rfl, rfl⟩
    go_wp2_with fail
    go_ret
    exact ⟨rfl, by first | exact hb1 | exact below_drewN hb1 _⟩

end Go.Proofs.Ytlnfghmkfgihjaa
