/-
  ValueLong: its table as plain data.
-/
import Derived.Test.YtpibbgencojbgaaDat
namespace Go.Proofs.Ytpibbgencojbgaa
set_option linter.unusedVariables false

def longNames : ByteArray := ⟨#[48, 49, 50, 51, 52, 53, 54, 55, 56, 57, 97, 98, 99, 100]⟩
def zeros (n : Nat) : ByteArray := ⟨Array.replicate n 0⟩
def longName (j : Nat) : ByteArray := longNames.extract j (j + 1)
def longIt (j : Nat) : It := .mk (longName j) 4 0 (zeros 200) []
def longs (i : Nat) : List It := (List.range i).map longIt
def lastIt (n : Nat) : It := .mk ⟨#[122]⟩ 4 0 (zeros n) []
def longL (k : Nat) : List It := longs 14 ++ [lastIt (81 + k)]

theorem longName_size : ∀ j, j < 14 → (longName j).size = 1 := by decide +kernel
theorem longName_ne : ∀ j, j < 14 → ∀ i, i < j → longName i ≠ longName j := by decide +kernel
theorem longName_z : ∀ j, j < 14 → longName j ≠ ⟨#[122]⟩ := by decide +kernel
theorem zeros_size (n : Nat) : (zeros n).size = n := by simp [zeros, ByteArray.size]
theorem longs_succ (i : Nat) : longs (i + 1) = longs i ++ [longIt i] := by simp [longs, List.range_succ]
theorem longs_length (i : Nat) : (longs i).length = i := by simp [longs]
theorem longs_mem {i : Nat} {y : It} (h : y ∈ longs i) : ∃ j, j < i ∧ y = longIt j := by
  simp only [longs, List.mem_map, List.mem_range] at h
  obtain ⟨j, hj, rfl⟩ := h
  exact ⟨j, hj, rfl⟩
theorem longs_named : ∀ i, i ≤ 14 → Named (longs i)
  | 0, _ => by simp only [longs, List.range_zero, List.map_nil]; exact named_nil
  | i + 1, h => by
    rw [longs_succ, named_snoc]
    have hs := longName_size i (by omega)
    refine ⟨longs_named i (by omega), by simp only [longIt, It.name_mk]; omega, by simp only [longIt, It.name_mk]; omega, fun y hy => ?_⟩
    obtain ⟨j, hj, rfl⟩ := longs_mem hy
    exact longName_ne i (by omega) j hj
theorem longL_may (k : Nat) (hk : k < 20) : MayT 1 (longL k) := by
  refine ⟨by decide, by simp [longL, longs_length], ?_, ?_⟩
  · rw [longL, named_snoc]
    refine ⟨longs_named 14 (by omega), ?_, ?_, fun y hy => ?_⟩
    · show 1 ≤ (ByteArray.mk #[122]).size; decide
    · show (ByteArray.mk #[122]).size ≤ 40; decide
    · obtain ⟨j, hj, rfl⟩ := longs_mem hy
      exact longName_z j hj
  · rw [mayAll_iff]
    intro x hx
    rw [may_iff]
    refine .inr (.inr (.inr (.inr (.inl ?_))))
    rcases List.mem_append.1 hx with hx | hx
    · obtain ⟨j, hj, rfl⟩ := longs_mem hx
      exact ⟨rfl, rfl, by show (zeros 200).size ≤ 200; rw [zeros_size]; omega, rfl⟩
    · obtain rfl := List.mem_singleton.1 hx
      exact ⟨rfl, rfl, by show (zeros (81 + k)).size ≤ 200; rw [zeros_size]; omega, rfl⟩
theorem put_text_length (nm s : ByteArray) : ((It.mk nm 4 0 s []).put).length = nm.size + s.size + 6 := by
  rw [put_eq, It.putV]
  simp only [It.kind_mk, It.s_mk, It.name_mk, show ((4 : Int) = 1) = False by simp, show ((4 : Int) = 2) = False by simp, show ((4 : Int) = 3) = False by simp, if_false, if_true]
  simp only [List.length_append, List.length_cons, be_length, size_toList]
  omega
theorem longs_put : ∀ i, i ≤ 14 → (putAll (longs i)).length = 207 * i
  | 0, _ => by simp [longs, putAll]
  | i + 1, h => by
    have hs := longName_size i (by omega)
    rw [longs_succ, putAll_append, List.length_append, longs_put i (by omega)]
    simp only [putAll, List.append_nil, longIt]
    rw [put_text_length, zeros_size]
    omega
theorem longL_put (k : Nat) : (putT (longL k)).length = 2990 + k := by
  rw [putT_length, longL, putAll_append, List.length_append, longs_put 14 (by omega)]
  simp only [putAll, List.append_nil, lastIt]
  rw [put_text_length, zeros_size]
  have : (ByteArray.mk #[122]).size = 1 := rfl
  omega

end Go.Proofs.Ytpibbgencojbgaa
