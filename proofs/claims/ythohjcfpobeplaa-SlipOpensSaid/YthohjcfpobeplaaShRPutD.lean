/-
  What the document's Put makes of the marks, plain.
-/
import Derived.Test.YthohjcfpobeplaaShMayP
namespace Go.Proofs.Ythohjcfpobeplaa.Sh

def updK (p : Int) (k : List UInt8) (q : Int) (m : Mk) : Mk := if m.pub = p ∧ m.key = k then { m with seq := q } else m
def mixL {α : Type} (f : α → α) (l : List α) (j : Nat) : List α := (l.take j).map f ++ l.drop j
theorem mix_zero {α : Type} (f : α → α) (l : List α) : mixL f l 0 = l := by simp [mixL]
theorem mix_all {α : Type} (f : α → α) (l : List α) : mixL f l l.length = l.map f := by simp [mixL]
theorem mix_len {α : Type} (f : α → α) (l : List α) (j : Nat) : (mixL f l j).length = l.length := by simp [mixL]; omega
theorem mix_get {α : Type} (f : α → α) (l : List α) (j : Nat) (h : j < l.length) (h' : j < (mixL f l j).length) : (mixL f l j)[j] = l[j] := by
  simp only [mixL]
  rw [List.getElem_append_right (by simp; omega)]
  simp [Nat.min_eq_left (Nat.le_of_lt h)]
theorem mix_set {α : Type} (f : α → α) (l : List α) (j : Nat) (h : j < l.length) : (mixL f l j).set j (f l[j]) = mixL f l (j + 1) := by
  apply List.ext_getElem
  · rw [List.length_set, mix_len, mix_len]
  · intro t h1 h2
    rw [List.length_set, mix_len] at h1
    simp only [mixL, List.getElem_set, List.getElem_append, List.length_map, List.length_take, List.getElem_map, List.getElem_take, List.getElem_drop]
    by_cases e : j = t
    · subst e
      rw [if_pos rfl, dif_pos (by omega)]
    · rw [if_neg e]
      by_cases ht : t < j
      · rw [dif_pos (by omega), dif_pos (by omega)]
      · rw [dif_neg (by omega), dif_neg (by omega)]
        congr 1
        omega
theorem mix_same {α : Type} (f : α → α) (l : List α) (j : Nat) (h : j < l.length) (hf : f l[j] = l[j]) : mixL f l j = mixL f l (j + 1) := by
  rw [← mix_set f l j h, hf]
  apply List.ext_getElem
  · rw [List.length_set]
  · intro t h1 h2
    rw [List.getElem_set]
    by_cases e : j = t
    · subst e; rw [if_pos rfl, mix_get f l j h]
    · rw [if_neg e]
theorem upd_yes {p : Int} {k : List UInt8} {q : Int} {m : Mk} (e1 : m.pub = p) (e2 : m.key = k) : updK p k q m = ⟨p, k, q⟩ := by
  unfold updK
  rw [if_pos ⟨e1, e2⟩, ← e1, ← e2]
theorem upd_no {p : Int} {k : List UInt8} {q : Int} {m : Mk} (h : ¬ (m.pub = p ∧ m.key = k)) : updK p k q m = m := by
  unfold updK
  rw [if_neg h]
theorem upd_all {l : List Mk} {p : Int} {k : List UInt8} {q : Int} {i : Nat} (hd : l.Pairwise (fun a b => ¬ (a.pub = b.pub ∧ a.key = b.key))) (h : fnd l p k = some i) : l.map (updK p k q) = markF l p k q := by
  obtain ⟨hi, e1, e2⟩ := fnd_lt h
  unfold markF
  rw [h]
  rw [List.pairwise_iff_getElem] at hd
  apply List.ext_getElem
  · simp
  · intro t h1 h2
    rw [List.length_map] at h1
    simp only [List.getElem_map, List.getElem_set]
    by_cases e : i = t
    · subst e
      rw [if_pos rfl, upd_yes e1 e2]
    · rw [if_neg e, upd_no]
      rintro ⟨g1, g2⟩
      by_cases hlt : i < t
      · exact hd i t hi h1 hlt ⟨by rw [e1, g1], by rw [e2, g2]⟩
      · exact hd t i h1 hi (by omega) ⟨by rw [e1, g1], by rw [e2, g2]⟩
theorem put_arg {s : Sd} {l : List Mg} {c : Int} (h : putC s l = c) (hc : c ≠ 0) : putC s l = c ∧ putS s l = s := ⟨h, by unfold putS; rw [if_neg (by rw [h]; exact hc)]⟩
theorem putC_dup {s : Sd} {l : List Mg} (h1 : MaySd s) (h2 : MayB l) (h : (endB l).seq ≤ lastF s.ms (firstB l).pub (firstB l).key) : putC s l = 8 := by rw [putC_of h1 h2, if_pos h]
theorem putC_part {s : Sd} {l : List Mg} (h1 : MaySd s) (h2 : MayB l) (h3 : ¬ (endB l).seq ≤ lastF s.ms (firstB l).pub (firstB l).key) (h : (firstB l).seq ≤ lastF s.ms (firstB l).pub (firstB l).key) : putC s l = 1 := by rw [putC_of h1 h2, if_neg h3, if_pos h]
theorem putC_fro {s : Sd} {l : List Mg} (h1 : MaySd s) (h2 : MayB l) (h3 : ¬ (endB l).seq ≤ lastF s.ms (firstB l).pub (firstB l).key) (h4 : ¬ (firstB l).seq ≤ lastF s.ms (firstB l).pub (firstB l).key) (h : s.fr = true) : putC s l = 6 := by rw [putC_of h1 h2, if_neg h3, if_neg h4, if_pos h]
theorem putC_ful {s : Sd} {l : List Mg} (h1 : MaySd s) (h2 : MayB l) (h3 : ¬ (endB l).seq ≤ lastF s.ms (firstB l).pub (firstB l).key) (h4 : ¬ (firstB l).seq ≤ lastF s.ms (firstB l).pub (firstB l).key) (h5 : s.fr = false) (h : 48 < s.rd.length + s.hd.length + l.length ∨ (lastF s.ms (firstB l).pub (firstB l).key = 0 ∧ 64 ≤ s.ms.length)) : putC s l = 4 := by
  rw [putC_of h1 h2, if_neg h3, if_neg h4, if_neg (by simp [h5])]
  rw [if_pos]
  rcases h with h | ⟨g1, g2⟩
  · exact .inl h
  · refine .inr ⟨by have := h1.2.2.2.1; omega, ?_⟩
    rcases last_may h1.2.2.2.2.1 (firstB l).pub (firstB l).key with g | g
    · exact g.2
    · omega
theorem putC_fine {s : Sd} {l : List Mg} (h1 : MaySd s) (h2 : MayB l) (h3 : ¬ (endB l).seq ≤ lastF s.ms (firstB l).pub (firstB l).key) (h4 : ¬ (firstB l).seq ≤ lastF s.ms (firstB l).pub (firstB l).key) (h5 : s.fr = false) (h : ¬ 48 < s.rd.length + s.hd.length + l.length) (h6 : ¬ (lastF s.ms (firstB l).pub (firstB l).key = 0 ∧ 64 ≤ s.ms.length)) : putC s l = 0 ∧ putS s l = { s with rd := s.rd ++ l, ms := markF s.ms (firstB l).pub (firstB l).key (endB l).seq } := by
  have hc : putC s l = 0 := by
    rw [putC_of h1 h2, if_neg h3, if_neg h4, if_neg (by simp [h5]), if_neg]
    rintro (g | ⟨g1, g2⟩)
    · exact h g
    · exact h6 ⟨last_none g2, by omega⟩
  exact ⟨hc, by unfold putS; rw [if_pos hc]⟩

end Go.Proofs.Ythohjcfpobeplaa.Sh
