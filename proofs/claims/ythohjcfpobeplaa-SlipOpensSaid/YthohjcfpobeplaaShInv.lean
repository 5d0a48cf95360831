/-
  A shard that may be stays one, whatever is done.
-/
import Derived.Test.YthohjcfpobeplaaShRPutD
import Derived.Test.YthohjcfpobeplaaShRAck
import Derived.Test.YthohjcfpobeplaaShRGet
import Derived.Test.YthohjcfpobeplaaShPut
namespace Go.Proofs.Ythohjcfpobeplaa.Sh

theorem allF_get {s : Sd} {m : Mg} : m ∈ allF s ↔ (∃ h ∈ s.hd, h.m = m) ∨ m ∈ s.rd := by
  unfold allF
  rw [List.mem_append, List.mem_map]
theorem set_may {s : Sd} (h : MaySd s) (b : Bool) : MaySd (setS s b) := by
  unfold setS
  split
  · exact h
  · exact h
theorem getC_zero {s : Sd} (h : getC s = 0) : ∃ i, ∃ hi : i < s.rd.length, freeI s = some i ∧ lockd s s.rd[i].key = false ∧ s.fr = false := by
  obtain ⟨hi, -, -, -, -, hm⟩ := get_zero h
  unfold getC at h
  rw [if_neg (fun g => g hm)] at h
  split at h
  · cases h
  · rename_i hf
    split at h
    · cases h
    · rename_i hn
      cases hq : freeI s with
      | none => exact absurd hq hn
      | some i =>
        have hq' := hq
        unfold freeI at hq
        rw [List.findIdx?_eq_some_iff_getElem] at hq
        obtain ⟨hi, hp, -⟩ := hq
        exact ⟨i, hi, rfl, by simpa using hp, by simpa using hf⟩
theorem lockd_false {s : Sd} {k : List UInt8} (h : lockd s k = false) : ∀ x ∈ s.hd, ¬ x.m.key = k := by
  unfold lockd at h
  rw [List.any_eq_false] at h
  intro x hx
  simpa using h x hx
theorem free_first {s : Sd} {i : Nat} (h : freeI s = some i) : ∀ j (hj : j < i) (hl : j < s.rd.length), ¬ s.rd[j].key = (s.rd[i]'(by unfold freeI at h; rw [List.findIdx?_eq_some_iff_getElem] at h; exact h.1)).key := by
  unfold freeI at h
  rw [List.findIdx?_eq_some_iff_getElem] at h
  obtain ⟨hi, hp, hno⟩ := h
  intro j hj hl e
  have h1 := hno j hj
  simp only [Bool.not_eq_true', Bool.not_eq_false] at h1 hp
  rw [e] at h1
  rw [h1] at hp
  simp at hp
theorem get_may {s : Sd} (h : MaySd s) : MaySd (getS s) := by
  by_cases hc : getC s = 0
  case neg => unfold getS; rw [if_neg hc]; exact h
  obtain ⟨i, hi, hf, hl, hfr⟩ := getC_zero hc
  have hnx : ¬ s.nx = 1073741824 := by
    obtain ⟨-, -, -, -, h5, -⟩ := get_zero hc
    omega
  obtain ⟨-, -, e⟩ := get_is hi h hfr hf hnx
  rw [e]
  rw [rmay_is] at h ⊢
  obtain ⟨a, b, c, d, r1, r2, r3⟩ := h
  have hx := r3 i hi
  have lk := lockd_false hl
  have hlen : (s.rd.take i ++ s.rd.drop (i + 1)).length = s.rd.length - 1 := by rw [List.length_append, List.length_take, List.length_drop]; omega
  have hlen2 : (s.hd ++ [(⟨s.nx, s.rd[i]⟩ : Hd)]).length = s.hd.length + 1 := by simp
  -- what stands at a place of the rest
  have at_ : ∀ n (hn : n < (s.rd.take i ++ s.rd.drop (i + 1)).length), ∃ n', ∃ hn' : n' < s.rd.length, (s.rd.take i ++ s.rd.drop (i + 1))[n] = s.rd[n'] ∧ n' ≠ i ∧ (n < i → n' = n) ∧ (i ≤ n → n' = n + 1) := by
    intro n hn
    by_cases h1 : n < i
    · refine ⟨n, by omega, ?_, by omega, fun _ => rfl, fun h => by omega⟩
      rw [List.getElem_append_left (by rw [List.length_take]; omega), List.getElem_take]
    · refine ⟨n + 1, by omega, ?_, by omega, fun h => by omega, fun _ => rfl⟩
      rw [List.getElem_append_right (by rw [List.length_take]; omega), List.getElem_drop]
      congr 1
      rw [List.length_take]
      omega
  refine ⟨by show 1 ≤ s.nx + 1; omega, by show s.nx + 1 ≤ _; omega, by show (s.rd.take i ++ s.rd.drop (i + 1)).length + (s.hd ++ [(⟨s.nx, s.rd[i]⟩ : Hd)]).length ≤ 48; omega, d, r1, fun n hn => ?_, fun n hn => ?_⟩
  · by_cases hlt : n < s.hd.length
    · have e1 : (s.hd ++ [(⟨s.nx, s.rd[i]⟩ : Hd)])[n]'hn = s.hd[n] := List.getElem_append_left hlt
      obtain ⟨g1, g2, g3, g4, g5, g6⟩ := r2 n hlt
      unfold R2
      simp only [e1]
      refine ⟨g1, g2, by omega, fun h0 => ?_, g5, fun k hk => ?_⟩
      · rw [List.getElem_append_left (by omega)]; exact g4 h0
      · rw [List.getElem_append_left (by omega)]; exact g6 k hk
    · have hn' : n < (s.hd ++ [(⟨s.nx, s.rd[i]⟩ : Hd)]).length := hn
      have hne : n = s.hd.length := by omega
      subst hne
      have e1 : (s.hd ++ [(⟨s.nx, s.rd[i]⟩ : Hd)])[s.hd.length]'hn = ⟨s.nx, s.rd[i]⟩ := by simp
      unfold R2
      simp only [e1]
      refine ⟨hx.1, a, by omega, fun h0 => ?_, hx.2.1, fun k hk => ?_⟩
      · rw [List.getElem_append_left (by omega)]
        exact (r2 (s.hd.length - 1) (by omega)).2.2.1
      · rw [List.getElem_append_left (by omega)]
        exact lk _ (List.getElem_mem _)
  · obtain ⟨n', hn', e1, hne, hlo, hhi⟩ := at_ n hn
    obtain ⟨g1, g2, g3, g4⟩ := r3 n' hn'
    unfold R3
    simp only [e1]
    refine ⟨g1, g2, fun k hk => ?_, fun k hk => ?_⟩
    · obtain ⟨k', hk', e2, hne2, hlo2, hhi2⟩ := at_ k (by omega)
      simp only [e2]
      exact g3 k' (by by_cases h1 : k < i <;> by_cases h2 : n < i <;> omega)
    · by_cases hlt : k < s.hd.length
      · rw [List.getElem_append_left hlt]; exact g4 k hlt
      · have hk2 : k < (s.hd ++ [(⟨s.nx, s.rd[i]⟩ : Hd)]).length := hk
        have hke : k = s.hd.length := by omega
        subst hke
        have e2 : (s.hd ++ [(⟨s.nx, s.rd[i]⟩ : Hd)])[s.hd.length]'hk = ⟨s.nx, s.rd[i]⟩ := by simp
        simp only [e2]
        rintro ⟨p1, p2, p3⟩
        by_cases hni : n' < i
        · exact free_first hf n' hni hn' p2.symm
        · exact g3 i (by omega) ⟨p1, p2, p3⟩

theorem gone_may {s : Sd} (h : MaySd s) (t : Int) : MaySd (goneS s t) := by
  unfold goneS
  cases hq : tagI s t with
  | none => exact h
  | some i =>
    obtain ⟨a, b, c, d, e, f, g, h1, h2, h3, h4⟩ := h
    have hsub : (s.hd.eraseIdx i).Sublist s.hd := List.eraseIdx_sublist s.hd i
    have hall : (allF { s with hd := s.hd.eraseIdx i }).Sublist (allF s) := by
      unfold allF
      exact List.Sublist.append (List.Sublist.map _ hsub) (List.Sublist.refl _)
    have hl := hsub.length_le
    exact ⟨a, b, by show s.rd.length + (s.hd.eraseIdx i).length ≤ 48; omega, d, e, f, fun x hx => g x (hsub.subset hx), h1.sublist hsub, h2.sublist hsub, fun m hm => h3 m (hall.subset hm), h4.sublist hall⟩
theorem ack_may {s : Sd} (h : MaySd s) (t : Int) : MaySd (ackS s t) := by
  cases hq : tagI s t with
  | none => rw [(ack_none h hq).2.1]; exact h
  | some i => rw [(ack_ok h hq).2.1]; exact gone_may h t
theorem tag_lt {s : Sd} {t : Int} {i : Nat} (h : tagI s t = some i) : ∃ hi : i < s.hd.length, s.hd[i].tag = t := by
  unfold tagI at h
  rw [List.findIdx?_eq_some_iff_getElem] at h
  obtain ⟨hi, hp, -⟩ := h
  exact ⟨hi, by simpa using hp⟩
theorem nack_may {s : Sd} (h : MaySd s) (t : Int) : MaySd (nackS s t) := by
  cases hq : tagI s t with
  | none => rw [(ack_none h hq).2.2]; exact h
  | some i =>
    obtain ⟨hi, -⟩ := tag_lt hq
    have hg := gone_may h t
    have hG : goneS s t = { s with hd := s.hd.eraseIdx i } := by unfold goneS; rw [hq]
    have hM : goneM s t = s.hd[i].m := by unfold goneM; rw [hq]; simp [hi]
    rw [(ack_ok h hq).2.2, hG, hM]
    rw [hG] at hg
    obtain ⟨a, b, c, d, e, f, g, h1, h2, h3, h4⟩ := hg
    obtain ⟨-, -, c0, -, -, -, -, -, k2, k3, k4⟩ := h
    have hsub : (s.hd.eraseIdx i).Sublist s.hd := List.eraseIdx_sublist s.hd i
    have hlen : (s.hd.eraseIdx i).length = s.hd.length - 1 := by rw [List.length_eraseIdx, if_pos hi]
    have hmi : s.hd[i].m ∈ allF s := List.mem_append_left _ (List.mem_map.2 ⟨_, List.getElem_mem hi, rfl⟩)
    have hmm := k3 _ hmi
    refine ⟨a, b, ?_, d, e, f, g, h1, h2, fun m hm => ?_, ?_⟩
    · show ({ s.hd[i].m with again := true } :: s.rd).length + (s.hd.eraseIdx i).length ≤ 48
      simp only [List.length_cons]
      omega
    · unfold allF at hm
      rcases List.mem_append.1 hm with hm | hm
      · exact h3 m (List.mem_append_left _ hm)
      · rcases List.mem_cons.1 hm with rfl | hm
        · exact hmm
        · exact h3 m (List.mem_append_right _ hm)
    · unfold allF at h4 k4 ⊢
      rw [List.pairwise_append] at h4 k4 ⊢
      refine ⟨h4.1, ?_, fun x hx y hy => ?_⟩
      · rw [List.pairwise_cons]
        exact ⟨fun y hy => k4.2.2 s.hd[i].m (List.mem_map.2 ⟨_, List.getElem_mem hi, rfl⟩) y hy, h4.2.1⟩
      · rcases List.mem_cons.1 hy with rfl | hy
        · intro hxy
          exfalso
          obtain ⟨z, hz, rfl⟩ := List.mem_map.1 hx
          obtain ⟨n, hn, rfl⟩ := List.getElem_of_mem hz
          rw [List.pairwise_iff_getElem] at k2
          have hn2 : n < s.hd.length - 1 := by have : n < (s.hd.eraseIdx i).length := hn; omega
          by_cases hlt : n < i
          · have e1 : (s.hd.eraseIdx i)[n] = s.hd[n] := by rw [List.getElem_eraseIdx, dif_pos hlt]
            rw [e1] at hxy
            exact k2 n i (by omega) hi hlt hxy.2
          · have e1 : (s.hd.eraseIdx i)[n] = s.hd[n + 1] := by rw [List.getElem_eraseIdx, dif_neg hlt]
            rw [e1] at hxy
            exact k2 i (n + 1) hi (by omega) (by omega) hxy.2.symm
        · exact h4.2.2 x hx y hy
theorem last_mark (l : List Mk) (p : Int) (k : List UInt8) (q : Int) (p' : Int) (k' : List UInt8) : lastF (markF l p k q) p' k' = if p' = p ∧ k' = k then q else lastF l p' k' := by
  have hnone : ∀ l : List Mk, fnd l p k = none → lastF (l ++ [⟨p, k, q⟩]) p' k' = if p' = p ∧ k' = k then q else lastF l p' k' := by
    intro l
    induction l with
    | nil =>
      intro _
      show (if lk p' k' ⟨p, k, q⟩ = true then q else 0) = if p' = p ∧ k' = k then q else 0
      by_cases h : p' = p ∧ k' = k
      · rw [if_pos h, if_pos (show lk p' k' ⟨p, k, q⟩ = true from by unfold lk; simp [h.1, h.2])]
      · rw [if_neg h, if_neg (show ¬ lk p' k' ⟨p, k, q⟩ = true from by unfold lk; simp; exact fun h1 h2 => h ⟨h1.symm, h2.symm⟩)]
    | cons m l ih =>
      intro hf
      unfold fnd at hf
      rw [List.findIdx?_cons] at hf
      by_cases hm : lk p k m = true
      · rw [if_pos hm] at hf; cases hf
      · rw [if_neg hm] at hf
        have hf' : fnd l p k = none := Option.map_eq_none_iff.1 hf
        simp only [List.cons_append, lastF]
        by_cases h2 : lk p' k' m = true
        · rw [if_pos h2, if_pos h2, if_neg]
          rintro ⟨rfl, rfl⟩
          exact hm h2
        · rw [if_neg h2, if_neg h2]
          exact ih hf'
  have hsome : ∀ (l : List Mk) (i : Nat), fnd l p k = some i → lastF (l.set i ⟨p, k, q⟩) p' k' = if p' = p ∧ k' = k then q else lastF l p' k' := by
    intro l
    induction l with
    | nil => intro i hf; simp [fnd] at hf
    | cons m l ih =>
      intro i hf
      unfold fnd at hf
      rw [List.findIdx?_cons] at hf
      by_cases hm : lk p k m = true
      · rw [if_pos hm] at hf
        cases hf
        simp only [List.set_cons_zero, lastF, lk, decide_eq_true_eq] at hm ⊢
        by_cases h : p' = p ∧ k' = k
        · rw [if_pos h, if_pos ⟨h.1.symm, h.2.symm⟩]
        · rw [if_neg h, if_neg (fun g => h ⟨g.1.symm, g.2.symm⟩), if_neg (fun g => h ⟨by rw [← g.1, hm.1], by rw [← g.2, hm.2]⟩)]
      · rw [if_neg hm] at hf
        cases hj : l.findIdx? (lk p k) with
        | none => rw [hj] at hf; simp at hf
        | some j =>
          rw [hj] at hf
          simp at hf
          subst hf
          simp only [List.set_cons_succ, lastF]
          by_cases h2 : lk p' k' m = true
          · rw [if_pos h2, if_pos h2, if_neg]
            rintro ⟨rfl, rfl⟩
            exact hm h2
          · rw [if_neg h2, if_neg h2]
            exact ih j hj
  unfold markF
  cases hf : fnd l p k with
  | none => exact hnone l hf
  | some i => exact hsome l i hf
theorem put_ok {s : Sd} {l : List Mg} (h : putC s l = 0) : lastF s.ms (firstB l).pub (firstB l).key < (firstB l).seq ∧ ¬ (s.ms.length = 64 ∧ fnd s.ms (firstB l).pub (firstB l).key = none) ∧ s.fr = false := by
  obtain ⟨h1, h2, -⟩ := put_zero h
  rw [putC_of h1 h2] at h
  split at h
  · cases h
  · split at h
    · cases h
    · rename_i g2
      split at h
      · cases h
      · rename_i g3
        split at h
        · cases h
        · rename_i g4
          exact ⟨by omega, fun g => g4 (.inr g), by simpa using g3⟩
theorem put_may {s : Sd} (h : MaySd s) (l : List Mg) : MaySd (putS s l) := by
  by_cases hc : putC s l = 0
  case neg => unfold putS; rw [if_neg hc]; exact h
  obtain ⟨-, hB, h48⟩ := put_zero hc
  obtain ⟨hlt, hfull, -⟩ := put_ok hc
  have hS : putS s l = { s with rd := s.rd ++ l, ms := markF s.ms (firstB l).pub (firstB l).key (endB l).seq } := by unfold putS; rw [if_pos hc]
  rw [hS]
  have hl0 : 0 < l.length := hB.1
  have hgl : ∀ n (hn : n < l.length), OkB l[n] (firstB l) n := fun n hn => hB.2.2 n hn
  have hend : (endB l).seq = (firstB l).seq + (l.length - 1 : Nat) := by
    rw [end_get hl0]
    exact (hgl (l.length - 1) (by omega)).2.2.2.2
  have hendm := hgl (l.length - 1) (by omega)
  obtain ⟨a, b, c, d, e, f, g, h1, h2, h3, h4⟩ := h
  have hlm := fun p k => last_mark s.ms (firstB l).pub (firstB l).key (endB l).seq p k
  have hst : MayStand (firstB l).pub (endB l).seq (firstB l).key := by
    rw [end_get hl0]
    have := hendm.1.1
    rw [hendm.2.2.1, hendm.2.2.2.1] at this
    exact this
  have hal : allF { s with rd := s.rd ++ l, ms := markF s.ms (firstB l).pub (firstB l).key (endB l).seq } = allF s ++ l := by unfold allF; simp
  refine ⟨a, b, by show (s.rd ++ l).length + s.hd.length ≤ 48; rw [List.length_append]; omega, ?_, ?_, ?_, g, h1, h2, ?_, ?_⟩
  · show (markF s.ms _ _ _).length ≤ 64
    unfold markF
    cases hq : fnd s.ms (firstB l).pub (firstB l).key with
    | none =>
      have : ¬ s.ms.length = 64 := fun g => hfull ⟨g, hq⟩
      simp only [List.length_append, List.length_cons, List.length_nil]
      omega
    | some i => simp only [List.length_set]; exact d
  · show ∀ m ∈ markF s.ms _ _ _, MayStand m.pub m.seq m.key
    unfold markF
    cases hq : fnd s.ms (firstB l).pub (firstB l).key with
    | none =>
      intro m hm
      rcases List.mem_append.1 hm with hm | hm
      · exact e m hm
      · rw [List.mem_singleton] at hm
        subst hm
        exact hst
    | some i =>
      intro m hm
      rcases List.mem_or_eq_of_mem_set hm with hm | hm
      · exact e m hm
      · subst hm
        exact hst
  · show (markF s.ms _ _ _).Pairwise _
    unfold markF
    cases hq : fnd s.ms (firstB l).pub (firstB l).key with
    | none =>
      simp only
      rw [List.pairwise_append]
      refine ⟨f, List.pairwise_singleton _ _, fun x hx y hy => ?_⟩
      rw [List.mem_singleton] at hy
      subst hy
      rintro ⟨g1, g2⟩
      unfold fnd at hq
      rw [List.findIdx?_eq_none_iff] at hq
      have := hq x hx
      simp only [lk, decide_eq_false_iff_not] at this
      exact this ⟨g1, g2⟩
    | some i =>
      obtain ⟨hi, e1, e2⟩ := fnd_lt hq
      simp only
      rw [List.pairwise_iff_getElem] at f ⊢
      intro x y hx hy hxy
      rw [List.length_set] at hx hy
      rw [List.getElem_set, List.getElem_set]
      by_cases hix : i = x
      · subst hix
        rw [if_pos rfl, if_neg (by omega)]
        have := f i y hi hy hxy
        rw [e1, e2] at this
        exact this
      · rw [if_neg hix]
        by_cases hiy : i = y
        · subst hiy
          rw [if_pos rfl]
          have := f x i hx hi hxy
          rw [e1, e2] at this
          exact this
        · rw [if_neg hiy]
          exact f x y hx hy hxy
  · rw [hal]
    show ∀ m ∈ allF s ++ l, MayMg m ∧ m.seq ≤ lastF (markF s.ms _ _ _) m.pub m.key
    intro m hm
    rw [hlm]
    rcases List.mem_append.1 hm with hm | hm
    · obtain ⟨g1, g2⟩ := h3 m hm
      refine ⟨g1, ?_⟩
      split
      · rename_i gg
        rw [gg.1, gg.2] at g2
        omega
      · exact g2
    · obtain ⟨n, hn, rfl⟩ := List.getElem_of_mem hm
      obtain ⟨g1, g2, g3, g4, g5⟩ := hgl n hn
      rw [if_pos ⟨g3, g4⟩]
      exact ⟨g1, by omega⟩
  · rw [hal, List.pairwise_append]
    refine ⟨h4, ?_, fun x hx y hy => ?_⟩
    · rw [List.pairwise_iff_getElem]
      intro i j hi hj hij hxy
      have := (hgl i hi).2.2.2.2
      have := (hgl j hj).2.2.2.2
      omega
    · rintro ⟨g1, g2⟩
      obtain ⟨n, hn, rfl⟩ := List.getElem_of_mem hy
      obtain ⟨-, -, k3, k4, k5⟩ := hgl n hn
      have := (h3 x hx).2
      rw [g1, g2, k3, k4] at this
      omega

end Go.Proofs.Ythohjcfpobeplaa.Sh
