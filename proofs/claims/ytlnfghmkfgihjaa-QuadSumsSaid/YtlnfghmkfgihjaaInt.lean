/-
  Whole numbers through the four sums: turned, added, quartered, held against each other: all exact.
-/
import Derived.Test.YtlnfghmkfgihjaaFour
import Derived.Test.YtlnfghmkfgihjaaSum
namespace Go.Proofs.Ytlnfghmkfgihjaa
open Go.RowKit

namespace Fl
open Ieee
theorem E_shift {m : Nat} {i : Int} {n : Nat} (c : Nat) (h : E m i n) : E (m * 2 ^ c) (i - c) n := by
  unfold E at h ⊢
  have e : c + (i - c).toNat + (-i).toNat = i.toNat + (-(i - c)).toNat := by omega
  refine Nat.eq_of_mul_eq_mul_right (Nat.two_pow_pos (-i).toNat) ?_
  rw [Nat.mul_assoc m, Nat.mul_assoc m, ← pow_split, ← pow_split, e, pow_split i.toNat, ← Nat.mul_assoc, h, Nat.mul_right_comm]

theorem E_quarter {m : Nat} {i : Int} {n : Nat} (h : E m i (4 * n)) : E m (i - 2) n := by
  unfold E at h ⊢
  have e : (i - 2).toNat + ((-i).toNat + 2) = i.toNat + (-(i - 2)).toNat := by omega
  refine Nat.eq_of_mul_eq_mul_right (Nat.two_pow_pos ((-i).toNat + 2)) ?_
  rw [Nat.mul_assoc m, ← pow_split, e, pow_split i.toNat, ← Nat.mul_assoc, h, pow_split (-i).toNat 2, show (2 : Nat) ^ 2 = 4 from rfl]
  ac_rfl

theorem read_mag_lt {b : Nat} {s : Bool} {m : Nat} {i : Int} (h : double.read b = .number s m i) : m < 2 ^ 53 := by
  have hb : double.binade = 2 ^ 52 := rfl
  unfold Format.read at h
  simp only [hb] at h
  split at h
  · cases h; omega
  · split at h
    · cases h
      have := Nat.mod_lt (b % double.signWeight) (show 0 < 2 ^ 52 by decide)
      omega
    · split at h <;> cases h

theorem read_four : double.read 4616189618054758400 = .number false (2 ^ 52) (-50) := by decide

/-- FOUR TIMES A WHOLE NUMBER, QUARTERED. -/
theorem quarter_isI {x : Nat} {a : Int} (hx : isI x (4 * a)) (ha : a.natAbs ≤ 2 ^ 53) : ∃ r, double.div x 4616189618054758400 = some r ∧ isI r a := by
  obtain ⟨_, s, m, i, hr, hE, hs⟩ := hx
  have hm := read_mag_lt hr
  unfold Format.div
  rw [hr, read_four]
  refine ⟨_, rfl, ?_⟩
  have hl : (2 ^ 52 : Nat).log2 = 52 := by decide
  have hf : double.fractionBits = 52 := rfl
  have hml : m.log2 ≤ 52 := by
    by_cases h0 : m = 0
    · subst h0; decide
    · have := (Nat.log2_lt h0).2 hm; omega
  obtain ⟨c, hc⟩ : ∃ c, double.fractionBits + 2 + (2 ^ 52 : Nat).log2 - m.log2 = c + 52 := ⟨double.fractionBits + 2 + (2 ^ 52 : Nat).log2 - m.log2 - 52, by rw [hl, hf]; omega⟩
  have hq : (m <<< (c + 52)) / 2 ^ 52 = m * 2 ^ c := by
    rw [Nat.shiftLeft_eq, pow_split, ← Nat.mul_assoc, Nat.mul_div_cancel _ (Nat.two_pow_pos 52)]
  have hrem : (m <<< (c + 52)) % 2 ^ 52 = 0 := by
    rw [Nat.shiftLeft_eq, pow_split, ← Nat.mul_assoc, Nat.mul_mod_left]
  simp only [hc, hq, hrem]
  have hE' : E m i (4 * a.natAbs) := by
    have : (4 * a).natAbs = 4 * a.natAbs := by omega
    rw [← this]; exact hE
  have h2 := E_shift (c + 1) (E_quarter hE')
  refine nearest_isI (n := a) ?_ ha ?_
  · have e1 : 2 * (m * 2 ^ c) + (0 != 0 : Bool).toNat = m * 2 ^ (c + 1) := by
      rw [pow_split c 1]; simp; rw [Nat.mul_comm 2, Nat.mul_assoc]
    have e2 : i - -50 - ((c + 52 : Nat) : Int) - 1 = i - 2 - ((c + 1 : Nat) : Int) := by omega
    rw [e1, e2]; exact h2
  · intro h0
    rw [hs (by omega), Bool.xor_false]
    congr 1
    simp only [eq_iff_iff]
    omega

/-- A WHOLE NUMBER, CUT TOWARDS NOUGHT, IS ITSELF. -/
theorem trunc_isI {x : Nat} {a : Int} (hx : isI x a) (ha : a.natAbs ≤ 2 ^ 53) : ∃ s m i, double.read x = .number s m i ∧ isI (double.write ((Datum.number s m i).integral .zero)) a := by
  obtain ⟨_, s, m, i, hr, hE, hs⟩ := hx
  refine ⟨s, m, i, hr, ?_⟩
  unfold Datum.integral
  have : m <<< i.toNat = a.natAbs <<< (-i).toNat := by
    unfold E at hE; rw [Nat.shiftLeft_eq, Nat.shiftLeft_eq, hE]
  simp only [this, cut_exact]
  refine nearest_isI ?_ ha hs
  unfold E; rfl

/-- WHAT IS MADE OF AN INTEGER. -/
theorem ofInt_isI (n : Int) (hn : n.natAbs ≤ 2 ^ 53) : isI (floatOfInt .f64 n) n := by
  unfold floatOfInt FloatKind.nearest FloatKind.encode
  refine nearest_isI ?_ hn (fun _ => rfl)
  unfold E; rfl

theorem eq_isI {x y : Nat} {a : Int} (hx : isI x a) (hy : isI y a) : double.order x y = some .eq := by
  rw [order_isI hx hy]; simp
theorem lt_isI {x y : Nat} {a b : Int} (hx : isI x a) (hy : isI y b) (h : a < b) : double.order x y = some .lt := by
  rw [order_isI hx hy, Int.compare_eq_lt.2 h]
theorem gt_isI {x y : Nat} {a b : Int} (hx : isI x a) (hy : isI y b) (h : b < a) : double.order x y = some .gt := by
  rw [order_isI hx hy, Int.compare_eq_gt.2 h]
end Fl

/-- a complex number of two whole parts. -/
def CI (z : Nat × Nat) (p : Int × Int) : Prop := Fl.isI z.1 p.1 ∧ Fl.isI z.2 p.2
def Bd (B : Nat) (p : Int × Int) : Prop := p.1.natAbs ≤ B ∧ p.2.natAbs ≤ B
def spinI (k : Int) (p : Int × Int) : Int × Int :=
  if k % 4 = 1 then (-p.2, p.1) else if k % 4 = 2 then (-p.1, -p.2) else if k % 4 = 3 then (p.2, -p.1) else p
def addI (p q : Int × Int) : Int × Int := (p.1 + q.1, p.2 + q.2)
def spunI (s : Int) (p0 p1 p2 p3 : Int × Int) : Int × Int := addI (addI (addI p0 (spinI s p1)) (spinI (2 * s) p2)) (spinI (3 * s) p3)

theorem spin_CI {z : Nat × Nat} {p : Int × Int} (k : Int) (h : CI z p) : CI (spin k z) (spinI k p) := by
  unfold spin spinI
  split
  · exact ⟨ng_isI h.2, h.1⟩
  · split
    · exact ⟨ng_isI h.1, ng_isI h.2⟩
    · split
      · exact ⟨h.2, ng_isI h.1⟩
      · exact h
theorem spin_Bd {B : Nat} {p : Int × Int} (k : Int) (h : Bd B p) : Bd B (spinI k p) := by
  obtain ⟨h1, h2⟩ := h
  unfold spinI
  split
  · exact ⟨by simpa using h2, h1⟩
  · split
    · exact ⟨by simpa using h1, by simpa using h2⟩
    · split
      · exact ⟨h2, by simpa using h1⟩
      · exact ⟨h1, h2⟩
theorem add_Bd {B C : Nat} {p q : Int × Int} (h : Bd B p) (g : Bd C q) : Bd (B + C) (addI p q) := by
  obtain ⟨h1, h2⟩ := h
  obtain ⟨g1, g2⟩ := g
  unfold addI
  exact ⟨by simp only; omega, by simp only; omega⟩
theorem CSumOf.CI {x y r : Nat × Nat} {p q : Int × Int} {B : Nat} (h : CSumOf x y r) (hx : CI x p) (hy : CI y q) (hB : Bd B (addI p q)) (hb : B ≤ 2 ^ 53) : CI r (addI p q) :=
  ⟨h.1.isI hx.1 hy.1 (Nat.le_trans hB.1 hb), h.2.isI hx.2 hy.2 (Nat.le_trans hB.2 hb)⟩

theorem Spun.CI {s : Int} {z0 z1 z2 z3 r : Nat × Nat} {p0 p1 p2 p3 : Int × Int} {B : Nat} (h : Spun s z0 z1 z2 z3 r) (h0 : CI z0 p0) (h1 : CI z1 p1) (h2 : CI z2 p2) (h3 : CI z3 p3)
    (b0 : Bd B p0) (b1 : Bd B p1) (b2 : Bd B p2) (b3 : Bd B p3) (hb : B ≤ 2 ^ 50) : CI r (spunI s p0 p1 p2 p3) ∧ Bd (B + B + B + B) (spunI s p0 p1 p2 p3) := by
  obtain ⟨r1, r2, e1, e2, e3⟩ := h
  have c1 := e1.CI h0 (spin_CI s h1) (add_Bd b0 (spin_Bd s b1)) (by omega)
  have d1 := add_Bd b0 (spin_Bd s b1)
  have c2 := e2.CI c1 (spin_CI (2 * s) h2) (add_Bd d1 (spin_Bd (2 * s) b2)) (by omega)
  have d2 := add_Bd d1 (spin_Bd (2 * s) b2)
  exact ⟨e3.CI c2 (spin_CI (3 * s) h3) (add_Bd d2 (spin_Bd (3 * s) b3)) (by omega), add_Bd d2 (spin_Bd (3 * s) b3)⟩

theorem CFourth.CI {z r : Nat × Nat} {p : Int × Int} (h : CFourth z r) (hz : CI z (4 * p.1, 4 * p.2)) (hb : Bd (2 ^ 53) p) : CI r p := by
  obtain ⟨v1, e1, i1⟩ := Fl.quarter_isI hz.1 hb.1
  obtain ⟨v2, e2, i2⟩ := Fl.quarter_isI hz.2 hb.2
  refine ⟨?_, ?_⟩
  · rcases h.1 with h | h
    · rw [e1] at h; cases h; exact i1
    · rw [e1] at h; cases h.1
  · rcases h.2 with h | h
    · rw [e2] at h; cases h; exact i2
    · rw [e2] at h; cases h.1

theorem back0 (p0 p1 p2 p3 : Int × Int) : spunI 0 (spunI 0 p0 p1 p2 p3) (spunI (-1) p0 p1 p2 p3) (spunI (-2) p0 p1 p2 p3) (spunI (-3) p0 p1 p2 p3) = (4 * p0.1, 4 * p0.2) := by
  simp [spunI, spinI, addI]; constructor <;> omega
theorem back1 (p0 p1 p2 p3 : Int × Int) : spunI 1 (spunI 0 p0 p1 p2 p3) (spunI (-1) p0 p1 p2 p3) (spunI (-2) p0 p1 p2 p3) (spunI (-3) p0 p1 p2 p3) = (4 * p1.1, 4 * p1.2) := by
  simp [spunI, spinI, addI]; constructor <;> omega
theorem back2 (p0 p1 p2 p3 : Int × Int) : spunI 2 (spunI 0 p0 p1 p2 p3) (spunI (-1) p0 p1 p2 p3) (spunI (-2) p0 p1 p2 p3) (spunI (-3) p0 p1 p2 p3) = (4 * p2.1, 4 * p2.2) := by
  simp [spunI, spinI, addI]; constructor <;> omega
theorem back3 (p0 p1 p2 p3 : Int × Int) : spunI 3 (spunI 0 p0 p1 p2 p3) (spunI (-1) p0 p1 p2 p3) (spunI (-2) p0 p1 p2 p3) (spunI (-3) p0 p1 p2 p3) = (4 * p3.1, 4 * p3.2) := by
  simp [spunI, spinI, addI]; constructor <;> omega
def nrmI (p : Int × Int) : Int := p.1 * p.1 + p.2 * p.2
/-- the four sums' norms together are four times the numbers'. -/
theorem norms4 (p0 p1 p2 p3 : Int × Int) : nrmI (spunI 0 p0 p1 p2 p3) + nrmI (spunI (-1) p0 p1 p2 p3) + nrmI (spunI (-2) p0 p1 p2 p3) + nrmI (spunI (-3) p0 p1 p2 p3) = 4 * (nrmI p0 + nrmI p1 + nrmI p2 + nrmI p3) := by
  simp [spunI, spinI, addI, nrmI]; grind

theorem sq_bd {B : Nat} {n : Int} (h : n.natAbs ≤ B) : 0 ≤ n * n ∧ n * n ≤ (B * B : Nat) := by
  refine ⟨?_, ?_⟩
  · rw [← Int.natAbs_mul_self (a := n)]; exact Int.natCast_nonneg _
  · rw [← Int.natAbs_mul_self (a := n)]
    exact_mod_cast Nat.mul_le_mul h h
theorem nrm_bd {B : Nat} {p : Int × Int} (h : Bd B p) : 0 ≤ nrmI p ∧ nrmI p ≤ (2 * (B * B) : Nat) := by
  have h1 := sq_bd h.1
  have h2 := sq_bd h.2
  unfold nrmI
  omega

theorem addB_val {x y v : Nat} (h : Ieee.double.add x y = some v) : (∀ w, addB w x y = v) ∧ addA x y = 0 := by
  refine ⟨fun w => ?_, ?_⟩
  · unfold addB gets; rw [h]
  · unfold addA asks; rw [h]; rfl
theorem mulB_val {x y v : Nat} (h : Ieee.double.mul x y = some v) : (∀ w, mulB w x y = v) ∧ mulA x y = 0 := by
  refine ⟨fun w => ?_, ?_⟩
  · unfold mulB gets; rw [h]
  · unfold mulA asks; rw [h]; rfl

theorem fl_0 : Fl.isI 0 0 := Fl.ofInt_isI 0 (by decide)
theorem fl_1 : Fl.isI 4607182418800017408 1 := by
  have := Fl.ofInt_isI 1 (by decide)
  rw [show floatOfInt .f64 1 = 4607182418800017408 from by decide] at this; exact this

end Go.Proofs.Ytlnfghmkfgihjaa
