/-
  What a frame's bytes begin with when one of them is another: plain lists.
-/
import Derived.Test.YtpibbgencojbgaaSeq4
namespace Go.Proofs.Ytpibbgencojbgaa
set_option linter.unusedVariables false

/-- a frame's bytes but the last. -/
def bodyF (f : Fr) : List UInt8 := be 1 f.kind.toNat ++ be 2 f.chan.toNat ++ be 4 f.data.length ++ f.data
theorem bodyF_length (f : Fr) : (bodyF f).length = f.data.length + 7 := by simp [bodyF]; omega
theorem putF_body (f : Fr) : putF f = bodyF f ++ [206] := by
  unfold putF bodyF
  rw [be_one]
  rfl
theorem putF_set (f : Fr) (c : UInt8) {k : Nat} (hk : k = f.data.length + 7) : (putF f).set k c = bodyF f ++ [c] := by
  subst hk
  rw [putF_body, ← bodyF_length, List.set_append_right _ _ (Nat.le_refl _), Nat.sub_self]
  rfl

theorem nextP_last {f : Fr} (h : MayF f) (c : UInt8) : nextP (bodyF f ++ [c]) = if c = 206 then .got f (f.data.length + 8) else .never := by
  by_cases hc : c = 206
  · subst hc
    rw [if_pos rfl, ← putF_body]
    have := nextP_put h []
    rwa [List.append_nil] at this
  · rw [if_neg hc]
    obtain ⟨k, ch, d⟩ := f
    obtain ⟨h1, h2, h3⟩ := h
    have k1 := kind_range h1
    have k2 := chan_range h2
    have k3 := len_range h3
    obtain ⟨kn, rfl⟩ : ∃ n : Nat, k = n := ⟨k.toNat, by simp only at k1; omega⟩
    obtain ⟨c', rfl⟩ : ∃ n : Nat, ch = n := ⟨ch.toNat, by simp only at k2; omega⟩
    simp only at h1 h2 h3 k1 k2 k3
    have e1 : kd (bodyF ⟨kn, c', d⟩ ++ [c]) = kn := by
      simp only [bodyF, List.append_assoc, Int.toNat_natCast]
      exact kd_put (by omega)
    have e2 : cn (bodyF ⟨kn, c', d⟩ ++ [c]) = c' := by
      have := cn_put (k := kn) (c := c') (r := be 4 d.length ++ d ++ [c]) (by omega)
      simpa only [bodyF, List.append_assoc, Int.toNat_natCast] using this
    have e3 : ln (bodyF ⟨kn, c', d⟩ ++ [c]) = d.length := by
      have := ln_put (k := kn) (c := c') (n := d.length) (r := d ++ [c]) (by omega)
      simpa only [bodyF, List.append_assoc, Int.toNat_natCast] using this
    have hl : (bodyF ⟨kn, c', d⟩ ++ [c]).length = d.length + 8 := by rw [List.length_append, bodyF_length]; rfl
    have e5 : lst (bodyF ⟨kn, c', d⟩ ++ [c]) = c.toNat := by
      unfold lst
      rw [e3, List.drop_left' (by rw [bodyF_length]; exact Nat.add_comm _ _)]
      simp [de]
    have hc2 : ¬ c.toNat = 206 := fun e => hc (UInt8.toNat_inj.1 (by rw [e]; rfl))
    unfold nextP
    rw [hl, e1, e2, e3, e5]
    rw [if_neg (by omega), if_neg (Classical.not_not.2 h1), if_neg (by omega), if_neg (Classical.not_not.2 h2), if_neg (by omega), if_neg (Classical.not_not.2 h3), if_neg (by omega), if_neg (by omega), if_pos hc2]

theorem nextP_wide {f : Fr} (h : MayF f) : nextP (((putF f).take 7).set 3 1) = .never := by
  obtain ⟨k, ch, d⟩ := f
  obtain ⟨h1, h2, h3⟩ := h
  have k1 := kind_range h1
  have k2 := chan_range h2
  have k3 := len_range h3
  obtain ⟨kn, rfl⟩ : ∃ n : Nat, k = n := ⟨k.toNat, by simp only at k1; omega⟩
  obtain ⟨c', rfl⟩ : ∃ n : Nat, ch = n := ⟨ch.toNat, by simp only at k2; omega⟩
  simp only at h1 h2 h3 k1 k2 k3
  have hy : ((putF ⟨kn, c', d⟩).take 7).set 3 1 = be 1 kn ++ be 2 c' ++ ((1 : UInt8) :: be 3 d.length) := by
    have ht : (putF ⟨kn, c', d⟩).take 7 = be 1 kn ++ be 2 c' ++ be 4 d.length := by
      simp only [putF, Int.toNat_natCast]
      rw [List.append_assoc _ d]
      exact List.take_left' (by simp)
    rw [ht, List.set_append_right _ _ (by simp)]
    simp [be]
  rw [hy]
  have e1 : kd (be 1 kn ++ be 2 c' ++ ((1 : UInt8) :: be 3 d.length)) = kn := by rw [List.append_assoc]; exact kd_put (by omega)
  have e2 : cn (be 1 kn ++ be 2 c' ++ ((1 : UInt8) :: be 3 d.length)) = c' := cn_put (by omega)
  have e3 : 16777216 ≤ ln (be 1 kn ++ be 2 c' ++ ((1 : UInt8) :: be 3 d.length)) := by
    unfold ln
    rw [List.drop_left' (by simp), List.take_of_length_le (by simp), de_cons, be_length]
    have : (1 : UInt8).toNat = 1 := rfl
    rw [this]
    omega
  have hl : (be 1 kn ++ be 2 c' ++ ((1 : UInt8) :: be 3 d.length)).length = 7 := by simp
  have h6 : ¬ FitsN kn (ln (be 1 kn ++ be 2 c' ++ ((1 : UInt8) :: be 3 d.length))) 4096 := by
    unfold FitsN
    omega
  unfold nextP
  rw [hl, e1, e2]
  rw [if_neg (by omega), if_neg (Classical.not_not.2 h1), if_neg (by omega), if_neg (Classical.not_not.2 h2), if_neg (by omega), if_pos h6]
theorem nextP_one {c : UInt8} (h : KindOk c.toNat) : nextP [c] = .cut := by
  have : kd [c] = c.toNat := by simp [kd, de]
  unfold nextP
  rw [this, if_neg (by simp), if_neg (Classical.not_not.2 h), if_pos (by simp)]
theorem kind_byte {c : UInt8} : KindOk c.toNat ↔ (c.toNat = 1 ∨ c.toNat = 2 ∨ c.toNat = 3 ∨ c.toNat = 8) := by unfold KindOk; omega

end Go.Proofs.Ytpibbgencojbgaa
