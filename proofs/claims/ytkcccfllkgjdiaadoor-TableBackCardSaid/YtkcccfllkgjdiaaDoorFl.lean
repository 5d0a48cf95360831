/-
  Plain facts on the model's binary floats: whole numbers up to 2^53 are exact under sum, product, order. No program is named here.
-/
import Derived.Laws.FloatArith
import Derived.Laws.ComplexArith
namespace Go.Proofs.YtkcccfllkgjdiaaDoor
namespace Fl
open Ieee

/-- 'm * 2 ^ i' is the whole number 'n'. -/
def E (m : Nat) (i : Int) (n : Nat) : Prop := m * 2 ^ i.toNat = n * 2 ^ (-i).toNat

theorem pow_split (a b : Nat) : 2 ^ (a + b) = 2 ^ a * 2 ^ b := Nat.pow_add 2 a b

theorem E_zero {m : Nat} {i : Int} : E m i 0 ↔ m = 0 := by
  unfold E
  have : 0 < 2 ^ i.toNat := Nat.two_pow_pos _
  constructor
  · intro h
    rw [Nat.zero_mul] at h
    rcases Nat.mul_eq_zero.1 h with h | h
    · exact h
    · omega
  · rintro rfl; simp

theorem log2_mul_pow {n k : Nat} (h : n ≠ 0) : (n * 2 ^ k).log2 = n.log2 + k := by
  have hk : 0 < 2 ^ k := Nat.two_pow_pos _
  have hn : n * 2 ^ k ≠ 0 := by
    intro h0
    rcases Nat.mul_eq_zero.1 h0 with h1 | h1 <;> omega
  have h1 : n.log2 + k ≤ (n * 2 ^ k).log2 := by
    rw [Nat.le_log2 hn, Nat.pow_add]
    exact Nat.mul_le_mul_right _ ((Nat.le_log2 h).1 (Nat.le_refl _))
  have h2 : (n * 2 ^ k).log2 < n.log2 + k + 1 := by
    rw [Nat.log2_lt hn, Nat.add_right_comm, Nat.pow_add]
    exact Nat.mul_lt_mul_of_pos_right ((Nat.log2_lt h).1 (Nat.lt_succ_self _)) hk
  omega

theorem E_log {m : Nat} {i : Int} {n : Nat} (h : E m i n) (hn : n ≠ 0) : (m.log2 : Int) + i = n.log2 := by
  have hm : m ≠ 0 := by
    rintro rfl
    unfold E at h
    have : 0 < 2 ^ (-i).toNat := Nat.two_pow_pos _
    rw [Nat.zero_mul] at h
    rcases Nat.mul_eq_zero.1 h.symm with h1 | h1 <;> omega
  unfold E at h
  have := congrArg Nat.log2 h
  rw [log2_mul_pow hm, log2_mul_pow hn] at this
  omega

/-- the same whole number, at two places. -/
theorem E_cut {m q : Nat} {i l : Int} {n : Nat} (h : E m i n) (g : E q l n) : m <<< (i - l).toNat = q <<< (l - i).toNat := by
  unfold E at h g
  simp only [Nat.shiftLeft_eq]
  have key : m * 2 ^ (i.toNat + (-l).toNat) = q * 2 ^ (l.toNat + (-i).toNat) := by
    rw [pow_split, pow_split, ← Nat.mul_assoc, ← Nat.mul_assoc, h, g, Nat.mul_right_comm]
  rcases Int.le_total i l with h1 | h1
  · have e1 : (i - l).toNat = 0 := by omega
    have e2 : l.toNat + (-i).toNat = (l - i).toNat + (i.toNat + (-l).toNat) := by omega
    rw [e1, Nat.pow_zero, Nat.mul_one]
    rw [e2, pow_split (l - i).toNat, ← Nat.mul_assoc] at key
    exact Nat.eq_of_mul_eq_mul_right (Nat.two_pow_pos _) key
  · have e1 : (l - i).toNat = 0 := by omega
    have e2 : i.toNat + (-l).toNat = (i - l).toNat + (l.toNat + (-i).toNat) := by omega
    rw [e1, Nat.pow_zero, Nat.mul_one]
    rw [e2, pow_split (i - l).toNat, ← Nat.mul_assoc] at key
    exact Nat.eq_of_mul_eq_mul_right (Nat.two_pow_pos _) key

theorem cut_exact (way : Toward) (neg : Bool) (q drop : Nat) : way.cut neg (q <<< drop) drop = q := by
  unfold Toward.cut
  have hmin : q ≠ 0 → min drop ((q <<< drop).log2 + 2) = drop := by
    intro hq
    rw [Nat.shiftLeft_eq, log2_mul_pow hq]; omega
  by_cases hq : q = 0
  · subst hq
    simp
    cases way <;> simp
  · simp only [hmin hq]
    have hp : 0 < 2 ^ drop := Nat.two_pow_pos _
    simp only [Nat.shiftLeft_eq, Nat.one_mul, Nat.mul_mod_left, Nat.mul_div_cancel _ hp]
    cases way <;> simp

theorem read_word_small (neg : Bool) (r : Nat) (h : r < 2 ^ 52) : double.read (double.word neg r) = .number neg r (-1074) := by
  have hs : double.signWeight = 2 ^ 63 := rfl
  have hb : double.binade = 2 ^ 52 := rfl
  have hl : double.leastPlace = -1074 := rfl
  unfold Format.read Format.word
  rw [hs, hb, hl]
  cases neg
  · simp only [Bool.false_eq_true, if_false]
    have e1 : r % 2 ^ 63 = r := Nat.mod_eq_of_lt (by omega)
    have e2 : r / 2 ^ 63 = 0 := Nat.div_eq_of_lt (by omega)
    simp [e1, e2, h]
  · simp only [if_true]
    have e1 : (2 ^ 63 + r) % 2 ^ 63 = r := by omega
    have e2 : (2 ^ 63 + r) / 2 ^ 63 = 1 := by omega
    simp [e1, e2, h]

theorem read_word_big (neg : Bool) (k q : Nat) (hk : k ≤ 2045) (h : 2 ^ 52 ≤ q) (h' : q < 2 ^ 53) :
    double.read (double.word neg (min (k * double.binade + q) double.infRung)) = .number neg q ((k : Int) - 1074) := by
  have hs : double.signWeight = 2 ^ 63 := rfl
  have hb : double.binade = 2 ^ 52 := rfl
  have hl : double.leastPlace = -1074 := rfl
  have hi : double.infRung = 2047 * 2 ^ 52 := rfl
  have hlt : k * 2 ^ 52 + q < 2047 * 2 ^ 52 := by omega
  rw [hb, hi, Nat.min_eq_left (by omega)]
  unfold Format.read Format.word
  rw [hs, hb, hl, hi]
  have e3 : (k * 2 ^ 52 + q) / 2 ^ 52 = k + 1 := by omega
  have e4 : (k * 2 ^ 52 + q) % 2 ^ 52 = q - 2 ^ 52 := by omega
  have n1 : ¬ (k * 2 ^ 52 + q < 2 ^ 52) := by omega
  cases neg
  · simp only [Bool.false_eq_true, if_false]
    have e1 : (k * 2 ^ 52 + q) % 2 ^ 63 = k * 2 ^ 52 + q := Nat.mod_eq_of_lt (by omega)
    have e2 : (k * 2 ^ 52 + q) / 2 ^ 63 = 0 := Nat.div_eq_of_lt (by omega)
    rw [e1, e2, e3, e4, if_neg n1, if_pos hlt]
    simp only [Datum.number.injEq]
    refine ⟨rfl, by omega, by omega⟩
  · simp only [if_true]
    have e1 : (2 ^ 63 + (k * 2 ^ 52 + q)) % 2 ^ 63 = k * 2 ^ 52 + q := by omega
    have e2 : (2 ^ 63 + (k * 2 ^ 52 + q)) / 2 ^ 63 = 1 := by omega
    rw [e1, e2, e3, e4, if_neg n1, if_pos hlt]
    simp only [Datum.number.injEq]
    refine ⟨rfl, by omega, by omega⟩

/-- WHAT IS WRITTEN OF A WHOLE NUMBER UP TO 2^53 IS THAT NUMBER. -/
theorem nearest_nat {m : Nat} {i : Int} {n : Nat} (neg : Bool) (h : E m i n) (hn : n ≤ 2 ^ 53) :
    ∃ q l, double.read (double.nearest neg m i) = .number neg q l ∧ E q l n := by
  by_cases h0 : n = 0
  · subst h0
    have hm := E_zero.1 h
    subst hm
    exact ⟨0, -1074, read_word_small neg 0 (by decide), E_zero.2 rfl⟩
  · have hm : m ≠ 0 := by
      rintro rfl
      unfold E at h
      have : 0 < 2 ^ (-i).toNat := Nat.two_pow_pos _
      rw [Nat.zero_mul] at h
      rcases Nat.mul_eq_zero.1 h.symm with h1 | h1 <;> omega
    have hlog := E_log h h0
    have hlo : n.log2 ≤ 53 := by
      have : n.log2 < 54 := (Nat.log2_lt h0).2 (by omega)
      omega
    have lo := (Nat.le_log2 h0).1 (Nat.le_refl _)
    have hi := (Nat.log2_lt h0).1 (Nat.lt_succ_self _)
    -- the place that is kept
    obtain ⟨q, hq, hq1, hq2⟩ : ∃ q, E q ((n.log2 : Int) - 52) n ∧ 2 ^ 52 ≤ q ∧ q < 2 ^ 53 := by
      by_cases h53 : n.log2 = 53
      · rw [h53] at lo
        have : n = 2 ^ 53 := by omega
        refine ⟨2 ^ 52, ?_, by omega, by omega⟩
        rw [h53, this]; unfold E; decide
      · have hle : n.log2 ≤ 52 := by omega
        refine ⟨n * 2 ^ (52 - n.log2), ?_, ?_, ?_⟩
        · unfold E
          have e1 : ((n.log2 : Int) - 52).toNat = 0 := by omega
          have e2 : (-((n.log2 : Int) - 52)).toNat = 52 - n.log2 := by omega
          rw [e1, e2, Nat.pow_zero, Nat.mul_one]
        · calc 2 ^ 52 = 2 ^ (n.log2 + (52 - n.log2)) := by rw [show n.log2 + (52 - n.log2) = 52 from by omega]
            _ = 2 ^ n.log2 * 2 ^ (52 - n.log2) := pow_split _ _
            _ ≤ n * 2 ^ (52 - n.log2) := Nat.mul_le_mul_right _ lo
        · calc n * 2 ^ (52 - n.log2) < 2 ^ (n.log2 + 1) * 2 ^ (52 - n.log2) := Nat.mul_lt_mul_of_pos_right hi (Nat.two_pow_pos _)
            _ = 2 ^ 53 := by rw [← pow_split, show n.log2 + 1 + (52 - n.log2) = 53 from by omega]
    have hlast : max (i + (m.log2 : Int) - (double.fractionBits : Int)) double.leastPlace = (n.log2 : Int) - 52 := by
      have e1 : (double.fractionBits : Int) = 52 := rfl
      have e2 : double.leastPlace = -1074 := rfl
      rw [e1, e2]; omega
    have hkey := E_cut h hq
    have hk : ((n.log2 : Int) - 52 - double.leastPlace).toNat = n.log2 + 1022 := by
      have e2 : double.leastPlace = -1074 := rfl
      rw [e2]; omega
    refine ⟨q, (n.log2 : Int) - 52, ?_, hq⟩
    unfold Format.nearest
    rw [if_neg hm]
    simp only [hlast, hkey, cut_exact, hk]
    rw [read_word_big neg _ q (by omega) hq1 hq2, show ((n.log2 + 1022 : Nat) : Int) - 1074 = (n.log2 : Int) - 52 from by omega]

/-- A word that is the whole number 'n'. -/
def isI (b : Nat) (n : Int) : Prop := b < 2 ^ 64 ∧ ∃ s m i, double.read b = .number s m i ∧ E m i n.natAbs ∧ (n ≠ 0 → s = decide (n < 0))

theorem nearest_isI {m : Nat} {i : Int} {n : Int} {neg : Bool} (h : E m i n.natAbs) (hn : n.natAbs ≤ 2 ^ 53) (hs : n ≠ 0 → neg = decide (n < 0)) : isI (double.nearest neg m i) n := by
  obtain ⟨q, l, hr, hE⟩ := nearest_nat neg h hn
  exact ⟨double.nearest_lt neg m i, neg, q, l, hr, hE, hs⟩

/-- what a signed magnitude is, at a place not above its own. -/
theorem signed_at {s : Bool} {m : Nat} {i b : Int} {a : Int} (h : E m i a.natAbs) (hs : a ≠ 0 → s = decide (a < 0)) (hb : b ≤ i) :
    signed s m (i - b).toNat * 2 ^ b.toNat = a * 2 ^ (-b).toNat := by
  have hn : m * 2 ^ (i - b).toNat * 2 ^ b.toNat = a.natAbs * 2 ^ (-b).toNat := by
    unfold E at h
    rcases Int.le_total b 0 with h1 | h1
    · have e1 : b.toNat = 0 := by omega
      rw [e1, Nat.pow_zero, Nat.mul_one]
      rcases Int.le_total i 0 with h2 | h2
      · have e2 : i.toNat = 0 := by omega
        have e3 : (-b).toNat = (-i).toNat + (i - b).toNat := by omega
        rw [e2, Nat.pow_zero, Nat.mul_one] at h
        rw [h, e3, pow_split, Nat.mul_assoc]
      · have e2 : (-i).toNat = 0 := by omega
        have e3 : (i - b).toNat = i.toNat + (-b).toNat := by omega
        rw [e2, Nat.pow_zero, Nat.mul_one] at h
        rw [e3, pow_split, ← Nat.mul_assoc, h]
    · have e1 : (-b).toNat = 0 := by omega
      have e2 : (-i).toNat = 0 := by omega
      have e3 : i.toNat = (i - b).toNat + b.toNat := by omega
      rw [e1, Nat.pow_zero, Nat.mul_one, Nat.mul_assoc, ← pow_split, ← e3, h, e2, Nat.pow_zero, Nat.mul_one]
  have hn' : ((m <<< (i - b).toNat : Nat) : Int) * 2 ^ b.toNat = (a.natAbs : Int) * 2 ^ (-b).toNat := by
    rw [Nat.shiftLeft_eq]; exact_mod_cast hn
  unfold signed
  by_cases ha : a = 0
  · subst ha
    simp only [Int.natAbs_zero, Int.natCast_zero, Int.zero_mul] at hn' ⊢
    split
    · rw [Int.neg_mul, hn']; rfl
    · exact hn'
  · rw [hs ha]
    by_cases hneg : a < 0
    · simp only [hneg, decide_true, if_true]
      rw [Int.neg_mul, hn', show ((a.natAbs : Nat) : Int) = -a from by omega, Int.neg_mul, Int.neg_neg]
    · simp only [hneg, decide_false, Bool.false_eq_true, if_false]
      rw [hn', show ((a.natAbs : Nat) : Int) = a from by omega]

theorem E_of_signed {t : Int} {b : Int} {n : Int} (h : t * 2 ^ b.toNat = n * 2 ^ (-b).toNat) : E t.natAbs b n.natAbs ∧ (t = 0 ↔ n = 0) ∧ (t < 0 ↔ n < 0) := by
  have p1 : (0 : Int) < 2 ^ b.toNat := Int.pow_pos (by decide)
  have p2 : (0 : Int) < 2 ^ (-b).toNat := Int.pow_pos (by decide)
  refine ⟨?_, ?_, ?_⟩
  · unfold E
    have := congrArg Int.natAbs h
    rw [Int.natAbs_mul, Int.natAbs_mul, Int.natAbs_pow, Int.natAbs_pow] at this
    exact this
  · constructor
    · rintro rfl
      rw [Int.zero_mul] at h
      rcases Int.mul_eq_zero.1 h.symm with h1 | h1
      · exact h1
      · omega
    · rintro rfl
      rw [Int.zero_mul] at h
      rcases Int.mul_eq_zero.1 h with h1 | h1
      · exact h1
      · omega
  · constructor
    · intro ht
      have := Int.mul_neg_of_neg_of_pos ht p1
      rw [h] at this
      by_cases hn : n < 0
      · exact hn
      · have := Int.mul_nonneg (show 0 ≤ n by omega) (Int.le_of_lt p2)
        omega
    · intro hn
      have := Int.mul_neg_of_neg_of_pos hn p2
      rw [← h] at this
      by_cases ht : t < 0
      · exact ht
      · have := Int.mul_nonneg (show 0 ≤ t by omega) (Int.le_of_lt p1)
        omega

/-- A SUM OF TWO WHOLE NUMBERS IS EXACT. -/
theorem add_isI {x y : Nat} {a b : Int} (hx : isI x a) (hy : isI y b) (hab : (a + b).natAbs ≤ 2 ^ 53) :
    ∃ r, double.add x y = some r ∧ isI r (a + b) := by
  obtain ⟨_, s, m, i, hr, hE, hs⟩ := hx
  obtain ⟨_, t, n, j, hr', hE', ht⟩ := hy
  unfold Format.add
  rw [hr, hr']
  refine ⟨_, rfl, ?_⟩
  have h1 := signed_at hE hs (Int.min_le_left i j)
  have h2 := signed_at hE' ht (Int.min_le_right i j)
  have h3 : (signed s m (i - min i j).toNat + signed t n (j - min i j).toNat) * 2 ^ (min i j).toNat = (a + b) * 2 ^ (-(min i j)).toNat := by
    rw [Int.add_mul, Int.add_mul, h1, h2]
  obtain ⟨g1, g2, g3⟩ := E_of_signed h3
  refine nearest_isI g1 hab ?_
  intro h0
  have : ¬ (signed s m (i - min i j).toNat + signed t n (j - min i j).toNat = 0) := fun h => h0 (g2.1 h)
  rw [if_neg this]
  simp only [g3]

/-- A PRODUCT OF TWO WHOLE NUMBERS IS EXACT. -/
theorem mul_isI {x y : Nat} {a b : Int} (hx : isI x a) (hy : isI y b) (hab : (a * b).natAbs ≤ 2 ^ 53) :
    ∃ r, double.mul x y = some r ∧ isI r (a * b) := by
  obtain ⟨_, s, m, i, hr, hE, hs⟩ := hx
  obtain ⟨_, t, n, j, hr', hE', ht⟩ := hy
  unfold Format.mul
  rw [hr, hr']
  refine ⟨_, rfl, ?_⟩
  refine nearest_isI ?_ hab ?_
  · rw [Int.natAbs_mul]
    unfold E at hE hE' ⊢
    have key : m * n * (2 ^ i.toNat * 2 ^ j.toNat) = a.natAbs * b.natAbs * (2 ^ (-i).toNat * 2 ^ (-j).toNat) := by
      rw [Nat.mul_mul_mul_comm, hE, hE', Nat.mul_mul_mul_comm]
    rw [← pow_split, ← pow_split] at key
    obtain ⟨c, hc1, hc2⟩ : ∃ c, i.toNat + j.toNat = (i + j).toNat + c ∧ (-i).toNat + (-j).toNat = (-(i + j)).toNat + c := by
      refine ⟨i.toNat + j.toNat - (i + j).toNat, ?_, ?_⟩ <;> omega
    rw [hc1, hc2, pow_split, pow_split, ← Nat.mul_assoc, ← Nat.mul_assoc] at key
    exact Nat.eq_of_mul_eq_mul_right (Nat.two_pow_pos _) key
  · intro h0
    have ha : a ≠ 0 := by rintro rfl; simp at h0
    have hb : b ≠ 0 := by rintro rfl; simp at h0
    rw [hs ha, ht hb]
    by_cases h1 : a < 0 <;> by_cases h2 : b < 0
    · have := Int.mul_pos_of_neg_of_neg h1 h2
      simp [h1, h2]; omega
    · have := Int.mul_neg_of_neg_of_pos h1 (show 0 < b by omega)
      simp [h1, h2, this]
    · have := Int.mul_neg_of_pos_of_neg (show 0 < a by omega) h2
      simp [h1, h2, this]
    · have := Int.mul_pos (show 0 < a by omega) (show 0 < b by omega)
      simp [h1, h2]; omega

/-- HOW TWO WHOLE NUMBERS STAND. -/
theorem order_isI {x y : Nat} {a b : Int} (hx : isI x a) (hy : isI y b) : double.order x y = some (compare a b) := by
  obtain ⟨_, s, m, i, hr, hE, hs⟩ := hx
  obtain ⟨_, t, n, j, hr', hE', ht⟩ := hy
  unfold Format.order
  rw [hr, hr']
  have h1 := signed_at hE hs (Int.min_le_left i j)
  have h2 := signed_at hE' ht (Int.min_le_right i j)
  have p1 : (0 : Int) < 2 ^ (min i j).toNat := Int.pow_pos (by decide)
  have p2 : (0 : Int) < 2 ^ (-(min i j)).toNat := Int.pow_pos (by decide)
  show some (compare (signed s m (i - min i j).toNat) (signed t n (j - min i j).toNat)) = _
  congr 1
  generalize signed s m (i - min i j).toNat = u at h1
  generalize signed t n (j - min i j).toNat = v at h2
  have lt : u < v ↔ a < b := by
    rw [← Int.mul_lt_mul_right p1, h1, h2, Int.mul_lt_mul_right p2]
  have gt : v < u ↔ b < a := by
    rw [← Int.mul_lt_mul_right p1, h1, h2, Int.mul_lt_mul_right p2]
  rw [Int.compare_eq_ite_lt, Int.compare_eq_ite_lt]
  simp only [lt, gt]

end Fl
end Go.Proofs.YtkcccfllkgjdiaaDoor
