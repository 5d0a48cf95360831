/-
  ShardLocks' states, plain.
-/
import Derived.Test.YthohjcfpobeplaaShDat
namespace Go.Proofs.Ythohjcfpobeplaa.Sh
set_option linter.unusedVariables false

def nmF (k : Nat) : List UInt8 := [(97 + k % 6).toUInt8]
def lckM (i j : Nat) : Mg := ⟨1, (i : Int) + 1, nmF j, [], false⟩
def hdT (s : Sd) : Int := ((s.hd[0]?).getD hd0).tag
def lckS (k m n : Nat) (s : Sd) : Sd :=
  if n < k * m then putS s [lckM (n / k) (n % k)]
  else if (n - k * m) % (2 * k) < k then getS s
  else ackS s (hdT s)
def lckC (k m n : Nat) (s : Sd) : Bool :=
  if n < k * m then decide (putC s [lckM (n / k) (n % k)] = 0)
  else if (n - k * m) % (2 * k) < k then decide (s.hd.length = (n - k * m) % (2 * k)) && decide (getC s = 0) && decide ((getH s).m.key = nmF ((n - k * m) % (2 * k))) && decide ((getH s).m.seq = ((n - k * m) / (2 * k) : Nat) + 1)
  else decide (s.hd.length = 2 * k - (n - k * m) % (2 * k)) && decide ((n - k * m) % (2 * k) = k → getC s = 3) && decide (outC s (hdT s) = 0)
def lckG (k m : Nat) : Nat → Nat → Sd → Bool
  | 0, _, s => decide (s.hd.length = 0) && decide (s.rd.length = 0) && decide (s.ms.length = k)
  | f + 1, n, s => lckC k m n s && lckG k m f (n + 1) (lckS k m n s)
set_option maxRecDepth 100000 in
theorem lck_all : ∀ k : Fin 6, ∀ m : Fin 5, lckG (k.val + 1) (m.val + 1) (3 * ((k.val + 1) * (m.val + 1))) 0 sd1 = true := by decide +kernel

def lckT (k m : Nat) : Nat → Sd
  | 0 => sd1
  | n + 1 => lckS k m n (lckT k m n)
theorem lckG_at (k m : Nat) : ∀ (f n : Nat) (s : Sd), lckG k m f n s = true → s = lckT k m n → (∀ j, n ≤ j → j < n + f → lckC k m j (lckT k m j) = true) ∧ (lckT k m (n + f)).hd.length = 0 ∧ (lckT k m (n + f)).rd.length = 0 ∧ (lckT k m (n + f)).ms.length = k := by
  intro f
  induction f with
  | zero =>
    intro n s h hs
    unfold lckG at h
    simp only [Bool.and_eq_true, decide_eq_true_eq] at h
    rw [hs] at h
    exact ⟨fun j h1 h2 => by omega, h.1.1, h.1.2, h.2⟩
  | succ f ih =>
    intro n s h hs
    unfold lckG at h
    rw [Bool.and_eq_true] at h
    obtain ⟨h1, h2⟩ := h
    have h3 := ih (n + 1) _ h2 (by rw [hs]; rfl)
    rw [show n + (f + 1) = n + 1 + f by omega]
    refine ⟨fun j hj hj2 => ?_, h3.2⟩
    by_cases e : j = n
    · subst e; rw [← hs]; exact h1
    · exact h3.1 j (by omega) (by omega)
theorem lck_run {k m : Nat} (hk : 1 ≤ k ∧ k ≤ 6) (hm : 1 ≤ m ∧ m ≤ 5) : (∀ j, j < 3 * (k * m) → lckC k m j (lckT k m j) = true) ∧ (lckT k m (3 * (k * m))).hd.length = 0 ∧ (lckT k m (3 * (k * m))).rd.length = 0 ∧ (lckT k m (3 * (k * m))).ms.length = k := by
  have h := lck_all ⟨k - 1, by omega⟩ ⟨m - 1, by omega⟩
  simp only at h
  rw [show k - 1 + 1 = k by omega, show m - 1 + 1 = m by omega] at h
  have h2 := lckG_at k m _ 0 sd1 h rfl
  rw [Nat.zero_add] at h2
  exact ⟨fun j hj => h2.1 j (Nat.zero_le _) hj, h2.2⟩

/-- where a round begins. -/
def lckN (k m i : Nat) : Nat := k * m + 2 * k * i
theorem lck_put {k m : Nat} (hk : 1 ≤ k ∧ k ≤ 6) (hm : 1 ≤ m ∧ m ≤ 5) (i j : Nat) (hi : i < m) (hj : j < k) : putC (lckT k m (k * i + j)) [lckM i j] = 0 ∧ lckT k m (k * i + (j + 1)) = putS (lckT k m (k * i + j)) [lckM i j] := by
  have hlt : k * i + j < k * m := by
    have : k * (i + 1) ≤ k * m := Nat.mul_le_mul_left k hi
    rw [Nat.mul_add, Nat.mul_one] at this
    omega
  have hd : (k * i + j) / k = i := by rw [Nat.mul_add_div (by omega), Nat.div_eq_of_lt hj]; rfl
  have hr : (k * i + j) % k = j := by rw [Nat.mul_add_mod, Nat.mod_eq_of_lt hj]
  have h := (lck_run hk hm).1 (k * i + j) (by omega)
  unfold lckC at h
  rw [if_pos hlt, hd, hr, decide_eq_true_eq] at h
  refine ⟨h, ?_⟩
  show lckS k m (k * i + j) (lckT k m (k * i + j)) = _
  unfold lckS
  rw [if_pos hlt, hd, hr]
theorem lck_at {k m : Nat} (hk : 1 ≤ k) (i q : Nat) (hi : i < m) (hq : q < 2 * k) : ¬ lckN k m i + q < k * m ∧ (lckN k m i + q - k * m) % (2 * k) = q ∧ (lckN k m i + q - k * m) / (2 * k) = i ∧ lckN k m i + q < 3 * (k * m) := by
  have e : lckN k m i + q - k * m = 2 * k * i + q := by unfold lckN; omega
  have hle : 2 * k * (i + 1) ≤ 2 * k * m := Nat.mul_le_mul_left _ hi
  rw [Nat.mul_add, Nat.mul_one, Nat.mul_assoc 2 k m] at hle
  refine ⟨by unfold lckN; omega, by rw [e, Nat.mul_add_mod, Nat.mod_eq_of_lt hq], by rw [e, Nat.mul_add_div (by omega), Nat.div_eq_of_lt hq]; rfl, by unfold lckN; omega⟩
theorem lck_get {k m : Nat} (hk : 1 ≤ k ∧ k ≤ 6) (hm : 1 ≤ m ∧ m ≤ 5) (i j : Nat) (hi : i < m) (hj : j < k) : getC (lckT k m (lckN k m i + j)) = 0 ∧ (getH (lckT k m (lckN k m i + j))).m.key = nmF j ∧ (getH (lckT k m (lckN k m i + j))).m.seq = (i : Int) + 1 ∧ lckT k m (lckN k m i + (j + 1)) = getS (lckT k m (lckN k m i + j)) := by
  obtain ⟨a1, a2, a3, a4⟩ := lck_at hk.1 i j hi (show j < 2 * k by omega)
  have h := (lck_run hk hm).1 _ a4
  unfold lckC at h
  rw [if_neg a1, a2, if_pos hj, a3] at h
  simp only [Bool.and_eq_true, decide_eq_true_eq] at h
  refine ⟨h.1.1.2, h.1.2, h.2, ?_⟩
  show lckS k m (lckN k m i + j) (lckT k m (lckN k m i + j)) = _
  unfold lckS
  rw [if_neg a1, a2, if_pos hj]
theorem lck_ack {k m : Nat} (hk : 1 ≤ k ∧ k ≤ 6) (hm : 1 ≤ m ∧ m ≤ 5) (i j : Nat) (hi : i < m) (hj : j < k) : (lckT k m (lckN k m i + k + j)).hd.length = k - j ∧ (j = 0 → getC (lckT k m (lckN k m i + k + j)) = 3) ∧ outC (lckT k m (lckN k m i + k + j)) (hdT (lckT k m (lckN k m i + k + j))) = 0 ∧ lckT k m (lckN k m i + k + (j + 1)) = ackS (lckT k m (lckN k m i + k + j)) (hdT (lckT k m (lckN k m i + k + j))) := by
  obtain ⟨a1, a2, a3, a4⟩ := lck_at hk.1 i (k + j) hi (show k + j < 2 * k by omega)
  have h := (lck_run hk hm).1 _ a4
  unfold lckC at h
  rw [if_neg a1, a2, if_neg (by omega)] at h
  simp only [Bool.and_eq_true, decide_eq_true_eq] at h
  rw [← Nat.add_assoc] at h a1 a2
  refine ⟨by have := h.1.1; omega, fun e => h.1.2 (by omega), h.2, ?_⟩
  show lckS k m (lckN k m i + k + j) (lckT k m (lckN k m i + k + j)) = _
  unfold lckS
  rw [if_neg a1, a2, if_neg (by omega)]
theorem lck_next (k m i : Nat) : lckN k m (i + 1) = lckN k m i + k + k := by unfold lckN; rw [Nat.mul_add, Nat.mul_one]; omega
theorem lck_none {k m : Nat} (hk : 1 ≤ k ∧ k ≤ 6) (hm : 1 ≤ m ∧ m ≤ 5) (i : Nat) (hi : i ≤ m) : (lckT k m (lckN k m i)).hd.length = 0 := by
  by_cases h : i < m
  · obtain ⟨a1, a2, a3, a4⟩ := lck_at hk.1 i 0 h (show 0 < 2 * k by omega)
    have h := (lck_run hk hm).1 _ a4
    unfold lckC at h
    rw [if_neg a1, a2, if_pos (by omega), a3] at h
    simp only [Bool.and_eq_true, decide_eq_true_eq] at h
    exact h.1.1.1
  · obtain rfl : i = m := by omega
    have := (lck_run hk hm).2.1
    rwa [show 3 * (k * i) = lckN k i i by unfold lckN; rw [Nat.mul_assoc]; omega] at this
theorem lck_end {k m : Nat} (hk : 1 ≤ k ∧ k ≤ 6) (hm : 1 ≤ m ∧ m ≤ 5) : (lckT k m (lckN k m m)).rd.length = 0 ∧ (lckT k m (lckN k m m)).ms.length = k := by
  have := (lck_run hk hm).2.2
  rwa [show 3 * (k * m) = lckN k m m by unfold lckN; rw [Nat.mul_assoc]; omega] at this
theorem lck_start (k m : Nat) : lckN k m 0 = k * m := by unfold lckN; omega

end Go.Proofs.Ythohjcfpobeplaa.Sh
