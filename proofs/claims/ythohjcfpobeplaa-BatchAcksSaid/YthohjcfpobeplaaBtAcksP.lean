/-
  Law BatchAcks, plain: acks of a shard's own tags, each once.
-/
import Derived.Test.YthohjcfpobeplaaBtDo
import Derived.Test.YthohjcfpobeplaaShInv
namespace Go.Proofs.Ythohjcfpobeplaa.Bt
open Sh
set_option linter.unusedVariables false

theorem tag_mem {s : Sd} {x : Int} : tagI s x ≠ none ↔ ∃ h ∈ s.hd, h.tag = x := by
  unfold tagI
  rw [Ne, List.findIdx?_eq_none_iff]
  constructor
  · intro h
    apply Classical.byContradiction
    intro hn
    exact h fun y hy => by simpa using fun e => hn ⟨y, hy, e⟩
  · rintro ⟨h, hm, he⟩ hn
    have := hn h hm
    rw [he] at this
    simp at this
theorem ack_hd {s : Sd} {x : Int} (h : outC s x = 0) : ∃ k, ∃ hk : k < s.hd.length, s.hd[k].tag = x ∧ (ackS s x).hd = s.hd.eraseIdx k := by
  have h1 : tagI s x ≠ none := by
    intro e
    unfold outC at h
    split at h
    · cases h
    · first | exact absurd h (by decide) | (rw [if_pos e] at h; exact absurd h (by decide))
  obtain ⟨k, hk⟩ : ∃ k, tagI s x = some k := by
    cases e : tagI s x with
    | none => exact absurd e h1
    | some k => exact ⟨k, rfl⟩
  obtain ⟨hi, he⟩ := tag_lt hk
  refine ⟨k, hi, he, ?_⟩
  unfold ackS
  rw [if_pos h]
  show s.hd.eraseIdx (outI s x) = _
  unfold outI
  rw [hk]; rfl
theorem tags_apart {s : Sd} (h : MaySd s) {i j : Nat} (hi : i < s.hd.length) (hj : j < s.hd.length) (hne : i ≠ j) : s.hd[i].tag ≠ s.hd[j].tag := by
  have hp := List.pairwise_iff_getElem.1 h.2.2.2.2.2.2.2.1
  rcases Nat.lt_or_gt_of_ne hne with h1 | h1
  · have := hp i j hi hj h1; omega
  · have := hp j i hj hi h1; omega
theorem ackA_snoc : ∀ (l : List Int) (s t : Sd) (x : Int), ackA s l = (t, 0) → ackA s (l ++ [x]) = (ackS t x, outC t x)
  | [], s, t, x, h => by
    have e : s = t := congrArg Prod.fst h
    subst e
    show ackA s [x] = _
    rw [ackA_cons]
    by_cases hc : outC s x = 0
    · rw [if_pos hc, hc]; rfl
    · rw [if_neg hc]
  | y :: l, s, t, x, h => by
    rw [ackA_cons] at h
    rw [List.cons_append, ackA_cons]
    by_cases hc : outC s y = 0
    · rw [if_pos hc] at h ⊢
      exact ackA_snoc l _ t x h
    · rw [if_neg hc] at h
      exact absurd (congrArg Prod.snd h) hc
/-- so far: those tags acked, the others there. -/
structure AkI (s : Sd) (i : Nat) (tags : List Int) (t : Sd) : Prop where
  run : ackA s tags = (t, 0)
  may : MaySd t
  fwd : ∀ j (h : j < s.hd.length), i ≤ j → ∃ x ∈ t.hd, x.tag = s.hd[j].tag
  done : ∀ x ∈ tags, ∀ y ∈ t.hd, y.tag ≠ x
  len : tags.length ≤ i
theorem AkI.start {s : Sd} (h : MaySd s) : AkI s 0 [] s := ⟨rfl, h, fun j hj _ => ⟨_, List.getElem_mem hj, rfl⟩, (fun x hx => by cases hx), Nat.le_refl _⟩
theorem AkI.skip {s t : Sd} {i : Nat} {tags : List Int} (h : AkI s i tags t) : AkI s (i + 1) tags t := ⟨h.run, h.may, fun j hj hi => h.fwd j hj (by omega), h.done, by have := h.len; omega⟩
theorem AkI.code {s t : Sd} {i : Nat} {tags : List Int} (h : AkI s i tags t) (hi : i < s.hd.length) : outC t s.hd[i].tag = 0 := by
  unfold outC
  rw [if_neg (fun g => g h.may), if_neg (tag_mem.2 (h.fwd i hi (Nat.le_refl _)))]
theorem AkI.step {s t : Sd} {i : Nat} {tags : List Int} (hs : MaySd s) (h : AkI s i tags t) (hi : i < s.hd.length) : AkI s (i + 1) (tags ++ [s.hd[i].tag]) (ackS t s.hd[i].tag) := by
  have hc := h.code hi
  obtain ⟨k, hk, he, hh⟩ := ack_hd hc
  refine ⟨by rw [ackA_snoc _ _ _ _ h.run, hc], ack_may h.may _, fun j hj hij => ?_, fun x hx y hy => ?_, by rw [List.length_append]; have := h.len; simp; omega⟩
  · obtain ⟨x, hx, hxe⟩ := h.fwd j hj (by omega)
    obtain ⟨m, hm, rfl⟩ := List.getElem_of_mem hx
    refine ⟨t.hd[m], ?_, hxe⟩
    rw [hh, List.mem_eraseIdx_iff_getElem]
    refine ⟨m, hm, fun e => ?_, rfl⟩
    subst e
    exact tags_apart hs hj hi (by omega) (hxe.symm.trans he)
  · rw [hh, List.mem_eraseIdx_iff_getElem] at hy
    obtain ⟨m, hm, hne, rfl⟩ := hy
    rcases List.mem_append.1 hx with h1 | h1
    · exact h.done x h1 _ (List.getElem_mem hm)
    · obtain rfl := List.mem_singleton.1 h1
      intro e
      exact tags_apart h.may hm hk hne (e.trans he.symm)
theorem ak_none (s : Sd) : doC s [] [] = 1 := rfl
theorem ak_do {s t : Sd} {i : Nat} {tags : List Int} (h : AkI s i tags t) (hne : tags ≠ []) : doC s [] tags = 0 ∧ doS s [] tags = t := by
  have h1 : ¬ (([] : List Mg) = [] ∧ tags = []) := fun g => hne g.2
  constructor
  · unfold doC
    rw [if_neg h1, h.run, if_neg (fun g => g rfl), if_pos rfl]
  · unfold doS
    rw [if_neg h1, h.run, if_neg (fun g => g rfl), if_pos rfl]
theorem ak_twice {s t : Sd} {i : Nat} {x : Int} {r : List Int} (h : AkI s i (x :: r) t) : doC s [] ((x :: r) ++ [x]) = 3 ∧ doS s [] ((x :: r) ++ [x]) = s := by
  have hc : outC t x = 3 := by
    unfold outC
    rw [if_neg (fun g => g h.may), if_pos]
    apply Classical.byContradiction
    intro hn
    obtain ⟨y, hy, he⟩ := tag_mem.1 hn
    exact h.done x (List.mem_cons_self ..) y hy he
  have hr := ackA_snoc _ _ _ x h.run
  rw [hc] at hr
  have h1 : ¬ (([] : List Mg) = [] ∧ (x :: r) ++ [x] = []) := fun g => by cases g.2
  constructor
  · unfold doC
    rw [if_neg h1, hr, if_pos (show ¬ (3 : Int) = 0 by decide)]
  · unfold doS
    rw [if_neg h1, hr, if_pos (show ¬ (3 : Int) = 0 by decide)]

end Go.Proofs.Ythohjcfpobeplaa.Bt
