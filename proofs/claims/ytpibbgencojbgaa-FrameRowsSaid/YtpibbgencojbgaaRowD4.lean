/-
  Frames one behind the other, cut: how many are whole. Plain lists.
-/
import Derived.Test.YtpibbgencojbgaaSeq4
namespace Go.Proofs.Ytpibbgencojbgaa
set_option linter.unusedVariables false

/-- where the first j frames end. -/
def endAt (l : List Fr) (j : Nat) : Nat := ((l.take j).flatMap putF).length
theorem endAt_zero (l : List Fr) : endAt l 0 = 0 := by simp [endAt]
theorem endAt_succ {l : List Fr} {j : Nat} (h : j < l.length) : endAt l (j + 1) = endAt l j + (putF l[j]).length := by
  unfold endAt
  rw [List.take_succ_eq_append_getElem h, List.flatMap_append, List.length_append]
  simp
theorem allP_at {l : List Fr} {k j : Nat} (hm : ∀ f ∈ l, MayF f) (hk : k ≤ (l.flatMap putF).length) (hj : j ≤ l.length) (h1 : endAt l j ≤ k) (h2 : j = l.length ∨ ∃ h : j < l.length, k < endAt l (j + 1)) :
    allP (((l.flatMap putF).take k).length + 1) ((l.flatMap putF).take k) = (l.take j, endAt l j, if endAt l j = k then 0 else 3) := by
  have hsplit : (l.flatMap putF).take k = (l.take j).flatMap putF ++ ((l.drop j).flatMap putF).take (k - endAt l j) := by
    conv => lhs; rw [← List.take_append_drop j l, List.flatMap_append, List.take_append]
    rw [List.take_of_length_le h1]
    rfl
  have hmt : ∀ f ∈ l.take j, MayF f := fun f hf => hm f (List.mem_of_mem_take hf)
  rw [hsplit, allP_puts (l.take j) _ _ hmt (by omega)]
  rw [show ((l.take j).flatMap putF).length = endAt l j from rfl]
  by_cases he : endAt l j = k
  · rw [he, Nat.sub_self, List.take_zero, allP_nil, if_pos rfl]
    simp
  · rw [if_neg he]
    rcases h2 with rfl | ⟨hlt, h2⟩
    · have : endAt l l.length = (l.flatMap putF).length := by unfold endAt; rw [List.take_length]
      omega
    · rw [endAt_succ hlt] at h2
      have hd : (l.drop j).flatMap putF = putF l[j] ++ (l.drop (j + 1)).flatMap putF := by
        rw [List.drop_eq_getElem_cons hlt, List.flatMap_cons]
      have hr : ((l.drop j).flatMap putF).take (k - endAt l j) = (putF l[j]).take (k - endAt l j) := by
        rw [hd, List.take_append_of_le_length (by omega)]
      have hn := nextP_cut (hm l[j] (List.getElem_mem hlt)) (j := k - endAt l j) (by omega)
      rw [hr]
      rw [allP_cut (by rw [List.length_take]; omega) hn]
      simp

end Go.Proofs.Ytpibbgencojbgaa
