/-
  Law RouteBounds: what the calls in turn make of plain data.
-/
import Derived.Test.YtlghphmehlmehaaDoorRtF
namespace Go.Proofs.YtlghphmehlmehaaDoor.Rt
open Top
set_option linter.unusedVariables false

def dgs : List UInt8 := [48, 49, 50, 51, 52, 53, 54, 55, 56, 57, 97, 98, 99, 100, 101, 102, 103, 104, 105]
def exN (i : Nat) : Ex := ⟨[120, dgs.getD i 0], 2⟩
def xsN (n : Nat) : List Ex := (List.range n).map exN
def bdN (i : Nat) : Bd := ⟨[120, 48], [113, dgs.getD (i / 10) 0], [dgs.getD (i % 10) 0], 0⟩
def bsN (n : Nat) : List Bd := (List.range n).map bdN

theorem decl_fin : ∀ i : Fin 17, declF (xsN (min i.val 16)) (exN i.val) = (xsN (min (i.val + 1) 16), if i.val < 16 then 0 else 1) := by decide +kernel
theorem decl_N (i : Nat) (h : i < 17) : declF (xsN (min i 16)) (exN i) = (xsN (min (i + 1) 16), if i < 16 then 0 else 1) := decl_fin ⟨i, h⟩
theorem xs_may : ∀ k : Fin 3, MayX (xsN (14 + k.val)) ∧ fnd [120, 48] (xsN (14 + k.val)) = some 0 ∧ kindAt (xsN (14 + k.val)) 0 = 2 := by decide +kernel
theorem bd_alike : ∀ i j : Fin 65, lk (bdN i.val) (bdN j.val) = decide (i = j) := by decide +kernel
theorem bd_ok : ∀ i : Fin 65, MayNm (bdN i.val).q ∧ (bdN i.val).key.length ≤ 255 ∧ (bdN i.val).wt = 0 ∧ (bdN i.val).ex = [120, 48] := by decide +kernel

theorem bsN_length (n : Nat) : (bsN n).length = n := by simp [bsN]
theorem bsN_get (n i : Nat) (h : i < (bsN n).length) : (bsN n)[i] = bdN i := by simp [bsN]
theorem bsN_succ (n : Nat) : bsN (n + 1) = bsN n ++ [bdN n] := by simp [bsN, List.range_succ]
theorem xsN_length (n : Nat) : (xsN n).length = n := by simp [xsN]
theorem alk_in (n i : Nat) (hi : i < n) (hn : n ≤ 65) : alk (bdN i) (bsN n) = some i := by
  have hil : i < (bsN n).length := by rw [bsN_length]; exact hi
  refine find_first hil ?_ fun j hj => ?_
  · rw [bsN_get]
    have := bd_alike ⟨i, by omega⟩ ⟨i, by omega⟩
    simpa using this
  · rw [bsN_get]
    have := bd_alike ⟨i, by omega⟩ ⟨j, by omega⟩
    rw [this, decide_eq_false_iff_not]
    intro h
    simp at h
    omega
theorem alk_out (n i : Nat) (hi : n ≤ i) (h65 : i < 65) : alk (bdN i) (bsN n) = none := by
  refine find_not fun j hj => ?_
  rw [bsN_length] at hj
  rw [bsN_get]
  have := bd_alike ⟨i, h65⟩ ⟨j, by omega⟩
  rw [this, decide_eq_false_iff_not]
  intro h
  simp at h
  omega
theorem bd_may (k : Nat) (hk : k < 3) (i : Nat) (hi : i < 65) : MayBd (xsN (14 + k)) (bdN i) := by
  obtain ⟨h1, h2, h3⟩ := xs_may ⟨k, hk⟩
  obtain ⟨g1, g2, g3, g4⟩ := bd_ok ⟨i, hi⟩
  exact ⟨0, by rw [g4]; exact h2, g1, g2, .inr (.inr ⟨by rw [h3]; decide, by rw [h3]; decide, g3⟩)⟩
theorem bs_may (k : Nat) (hk : k < 3) (n : Nat) (hn : n ≤ 64) : MayR (xsN (14 + k)) (bsN n) := by
  refine ⟨(xs_may ⟨k, hk⟩).1, by rw [bsN_length]; exact hn, fun i hi => ?_⟩
  rw [bsN_length] at hi
  rw [bsN_get]
  exact ⟨bd_may k hk i (by omega), alk_in n i hi (by omega)⟩
theorem bind_N (k : Nat) (hk : k < 3) (i : Nat) (h : i < 65) : bindF (xsN (14 + k)) (bsN (min i 64)) (bdN i) = (bsN (min (i + 1) 64), if i < 64 then 0 else 1) := by
  obtain ⟨h1, h2, h3⟩ := xs_may ⟨k, hk⟩
  obtain ⟨g1, g2, g3, g4⟩ := bd_ok ⟨i, h⟩
  unfold bindF
  rw [show fnd (bdN i).ex (xsN (14 + k)) = some 0 by rw [show (bdN i).ex = [120, 48] from rfl]; exact h2]
  rw [alk_out (min i 64) i (by omega) h]
  by_cases h64 : i < 64
  · rw [show min i 64 = i by omega, show min (i + 1) 64 = i + 1 by omega, if_pos h64, ← bsN_succ]
    simp only
    rw [if_pos (bs_may k hk (i + 1) (by omega))]
  · obtain rfl : i = 64 := by omega
    rw [if_neg h64]
    simp only
    rw [if_neg]
    · rfl
    · intro hm
      have := hm.2.1
      simp [bsN_length] at this

end Go.Proofs.YtlghphmehlmehaaDoor.Rt
