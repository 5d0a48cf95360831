/-
  ShardFull's states, plain.
-/
import Derived.Test.YthohjcfpobeplaaShDat
namespace Go.Proofs.Ythohjcfpobeplaa.Sh

def fulM (one : Bool) (i : Nat) : Mg := ⟨2, if one then i + 1 else 1, if one then [107] else [107, (48 + i % 10).toUInt8, (48 + i / 10).toUInt8], [], false⟩
def fulG (one : Bool) : Nat → Nat → Sd → Bool
  | 0, _, _ => true
  | n + 1, i, s => decide (putC s [fulM one i] = if i < 48 then 0 else 4) && decide ((putS s [fulM one i]).rd.length = min (i + 1) 48) && fulG one n (i + 1) (putS s [fulM one i])
set_option maxRecDepth 100000 in
theorem ful_one : fulG true 60 0 sd1 = true := by decide +kernel

set_option maxRecDepth 100000 in
theorem ful_many : fulG false 60 0 sd1 = true := by decide +kernel

def fulS (one : Bool) : Nat → Sd
  | 0 => sd1
  | i + 1 => putS (fulS one i) [fulM one i]
theorem fulG_at (one : Bool) : ∀ (n i : Nat) (s : Sd), fulG one n i s = true → s = fulS one i → ∀ j, i ≤ j → j < i + n → putC (fulS one j) [fulM one j] = (if j < 48 then 0 else 4) ∧ (fulS one (j + 1)).rd.length = min (j + 1) 48 := by
  intro n
  induction n with
  | zero => intro i s _ _ j h1 h2; omega
  | succ n ih =>
    intro i s h hs j h1 h2
    unfold fulG at h
    rw [Bool.and_eq_true, Bool.and_eq_true, decide_eq_true_eq, decide_eq_true_eq] at h
    by_cases e : j = i
    · subst e
      rw [hs] at h
      exact ⟨h.1.1, h.1.2⟩
    · exact ih (i + 1) _ h.2 (by rw [hs]; rfl) j (by omega) (by omega)
theorem ful_put (one : Bool) (j : Nat) (h : j < 60) : putC (fulS one j) [fulM one j] = (if j < 48 then 0 else 4) ∧ (fulS one (j + 1)).rd.length = min (j + 1) 48 := by
  cases one
  · exact fulG_at false 60 0 sd1 ful_many rfl j (by omega) (by omega)
  · exact fulG_at true 60 0 sd1 ful_one rfl j (by omega) (by omega)
theorem ful_len (one : Bool) (k : Nat) (h : k ≤ 60) : (fulS one k).rd.length = min k 48 := by
  cases k with
  | zero => rfl
  | succ k => exact (ful_put one k (by omega)).2

end Go.Proofs.Ythohjcfpobeplaa.Sh
