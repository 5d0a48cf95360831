/-
  Reading numbers and counted bytes off a list of bytes, as plain data; no program here.
-/
import Derived.Test.YtiobcgolcoocnaaGreatDoorBy
namespace Go.Proofs.YtiobcgolcoocnaaGreatDoor
open Go.RowKit
set_option linter.unusedVariables false

def takeP (n : Nat) (l : List UInt8) : List UInt8 × List UInt8 × Bool := if l.length < n then ([], [], true) else (l.take n, l.drop n, false)

def numP (k : Nat) (l : List UInt8) : Nat × List UInt8 × Bool := (de (takeP k l).1, (takeP k l).2)

def cntP (k : Nat) (l : List UInt8) : List UInt8 × List UInt8 × Bool :=
  ((takeP (numP k l).1 (numP k l).2.1).1, (takeP (numP k l).1 (numP k l).2.1).2.1, (numP k l).2.2 || (takeP (numP k l).1 (numP k l).2.1).2.2)

theorem takeP_le (n : Nat) (l : List UInt8) : (takeP n l).2.1.length ≤ l.length ∧ (takeP n l).1.length ≤ l.length ∧ (takeP n l).1.length + (takeP n l).2.1.length ≤ l.length := by
  unfold takeP; split <;> simp; omega

theorem takeP_drop {n : Nat} {l : List UInt8} (hn : 0 < n) (hl : 0 < l.length) : (takeP n l).2.1.length < l.length := by
  unfold takeP; split <;> simp <;> omega

theorem numP_le (k : Nat) (l : List UInt8) : (numP k l).2.1.length ≤ l.length := (takeP_le k l).1

theorem numP_lt {k : Nat} {l : List UInt8} (hk : 0 < k) (hl : 0 < l.length) : (numP k l).2.1.length < l.length := takeP_drop hk hl

theorem cntP_le (k : Nat) (l : List UInt8) : (cntP k l).2.1.length ≤ l.length ∧ (cntP k l).1.length ≤ l.length := by
  have h1 := numP_le k l
  have h2 := takeP_le (numP k l).1 (numP k l).2.1
  unfold cntP
  exact ⟨Nat.le_trans h2.1 h1, Nat.le_trans h2.2.1 h1⟩

theorem cntP_lt {k : Nat} {l : List UInt8} (hk : 0 < k) (hl : 0 < l.length) : (cntP k l).2.1.length < l.length ∧ (cntP k l).1.length < l.length := by
  have h1 := numP_lt hk hl
  have h2 := takeP_le (numP k l).1 (numP k l).2.1
  unfold cntP
  exact ⟨Nat.lt_of_le_of_lt h2.1 h1, Nat.lt_of_le_of_lt h2.2.1 h1⟩

theorem takeP_ok {n : Nat} {l : List UInt8} (h : (takeP n l).2.2 = false) : l = (takeP n l).1 ++ (takeP n l).2.1 ∧ (takeP n l).1.length = n := by
  unfold takeP at h ⊢
  split at h
  · cases h
  · rename_i hn
    rw [if_neg hn]
    exact ⟨(List.take_append_drop n l).symm, by simp; omega⟩

theorem takeP_app (a r : List UInt8) : takeP a.length (a ++ r) = (a, r, false) := by
  unfold takeP; rw [if_neg (by simp)]; simp

theorem numP_ok {k : Nat} {l : List UInt8} (h : (numP k l).2.2 = false) : l = be k (numP k l).1 ++ (numP k l).2.1 ∧ (numP k l).1 < 256 ^ k := by
  obtain ⟨h1, h2⟩ := takeP_ok (n := k) (l := l) h
  have h3 := be_de (takeP k l).1
  have h4 := de_lt (takeP k l).1
  rw [h2] at h3 h4
  exact ⟨by rw [show (numP k l).1 = de (takeP k l).1 from rfl, h3]; exact h1, h4⟩

theorem numP_app (k n : Nat) (r : List UInt8) : numP k (be k n ++ r) = (n % 256 ^ k, r, false) := by
  have h := takeP_app (be k n) r
  rw [be_length] at h
  unfold numP
  rw [h, de_be]

theorem cntP_ok {k : Nat} {l : List UInt8} (h : (cntP k l).2.2 = false) : l = be k (cntP k l).1.length ++ ((cntP k l).1 ++ (cntP k l).2.1) ∧ (cntP k l).1.length < 256 ^ k := by
  unfold cntP at h ⊢
  simp only [Bool.or_eq_false_iff] at h ⊢
  obtain ⟨h1, h2⟩ := numP_ok h.1
  obtain ⟨h3, h4⟩ := takeP_ok h.2
  rw [h4]
  exact ⟨by rw [← h3]; exact h1, h2⟩

theorem cntP_app {k : Nat} {c : List UInt8} (r : List UInt8) (h : c.length < 256 ^ k) : cntP k (be k c.length ++ (c ++ r)) = (c, r, false) := by
  have h1 := numP_app k c.length (c ++ r)
  rw [Nat.mod_eq_of_lt h] at h1
  unfold cntP
  rw [h1]
  simp only [takeP_app]
  rfl

theorem empty_of_size {s : ByteArray} (h : s.size = 0) : s = ByteArray.empty := by
  obtain ⟨⟨l⟩⟩ := s
  have : l.length = 0 := h
  have : l = [] := List.eq_nil_of_length_eq_zero this
  subst this; rfl

theorem size_toList (s : ByteArray) : s.data.toList.length = s.size := by simp

theorem mk_toList (s : ByteArray) : (⟨s.data.toList.toArray⟩ : ByteArray) = s := by obtain ⟨⟨l⟩⟩ := s; rfl

end Go.Proofs.YtiobcgolcoocnaaGreatDoor
