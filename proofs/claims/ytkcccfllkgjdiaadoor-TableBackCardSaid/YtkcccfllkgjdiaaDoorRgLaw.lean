/-
  What the laws of rings ask, of plain data.
-/
import Derived.Test.YtkcccfllkgjdiaaDoorRgHalf
namespace Go.Proofs.YtkcccfllkgjdiaaDoor.Rg
set_option linter.unusedVariables false

theorem cut_wd {t : Tr} (h : 2 ≤ wd t.f t.e) : wd t.f (halfAt t) = wd t.f t.e / 2 ∧ wd (halfAt t) t.e = wd t.f t.e - wd t.f t.e / 2 := by
  unfold halfAt
  unfold wd at *
  omega

/-- how many arcs are of x. -/
def cntS (T : List Tr) (x : Int) : Int := (T.countP fun t => decide (t.s = x) : Nat)
theorem cntS_cons (t : Tr) (r : List Tr) (x : Int) : cntS (t :: r) x = cntS r x + if t.s = x then 1 else 0 := by
  unfold cntS
  rw [List.countP_cons]
  by_cases h : t.s = x <;> simp [h]
/-- shares, behind halving: what is left, what the other one got. -/
theorem halve_sm (s o : Int) (hso : s ≠ o) (T : List Tr) (ho : ∀ t ∈ T, t.s ≠ o) :
    sm (T.flatMap (sp2 s o)) s + sm (T.flatMap (sp2 s o)) o = sm T s ∧
    sm (T.flatMap (sp2 s o)) o ≤ sm (T.flatMap (sp2 s o)) s + cntS T s ∧ sm (T.flatMap (sp2 s o)) s ≤ sm (T.flatMap (sp2 s o)) o + cntS T s := by
  induction T with
  | nil => simp [sm, cntS]
  | cons t r ih =>
    obtain ⟨h1, h2, h3⟩ := ih fun u hu => ho u (by simp [hu])
    have hto := ho t (by simp)
    have hw := wd_in t.f t.e
    simp only [List.flatMap_cons, sm_app]
    rw [cntS_cons]
    generalize sm (List.flatMap (sp2 s o) r) s = x at *
    generalize sm (List.flatMap (sp2 s o) r) o = y at *
    generalize cntS r s = n at *
    simp only [sm]
    generalize sm r s = z at *
    by_cases hts : t.s = s
    · by_cases h4 : 2 ≤ wd t.f t.e
      · have hc : sp2 s o t = [⟨t.f, halfAt t, t.s⟩, ⟨halfAt t, t.e, o⟩] := if_pos (by unfold cuts; simp [hts, h4])
        obtain ⟨c1, c2⟩ := cut_wd h4
        rw [hc]
        simp only [sm, hts, c1, c2, if_neg hso, if_neg (Ne.symm hso), if_true]
        omega
      · have hc : sp2 s o t = [t] := if_neg (by unfold cuts; simp [h4])
        rw [hc]
        simp only [sm, hts, if_neg hso, if_true]
        omega
    · have hc : sp2 s o t = [t] := if_neg (by unfold cuts; simp [hts])
      rw [hc]
      simp only [sm, if_neg hts, if_neg hto]
      omega
theorem tr_cnt (l : List Ar) (e x : Int) : cntS (tr l e) x = (l.countP fun a => decide (a.s = x) : Nat) := by
  induction l with
  | nil => rfl
  | cons a t ih =>
    simp only [tr]
    rw [cntS_cons, ih, List.countP_cons]
    by_cases h : a.s = x <;> simp [h]
theorem halve_share {l : List Ar} (hw : Wf l) (hu : Up l) {s o : Int} (hso : s ≠ o) (ho : shareF l o = 0) :
    shareF (halveF l s o) s + shareF (halveF l s o) o = shareF l s ∧
    shareF (halveF l s o) o ≤ shareF (halveF l s o) s + (l.countP fun a => decide (a.s = s) : Nat) ∧
    shareF (halveF l s o) s ≤ shareF (halveF l s o) o + (l.countP fun a => decide (a.s = s) : Nat) := by
  have h := halve_sm s o hso (ringT l) (sm_zero ho)
  have hp := halve_ring hw hu s o
  unfold shareF
  rw [← sm_perm hp, ← sm_perm hp, ← tr_cnt l (hd l 0)]
  exact h
theorem half_way (f p W : Int) (hW : 2 ≤ W ∧ W ≤ 4294967296) (h : (p - f) % 4294967296 < W) (h2 : ¬ (p - f) % 4294967296 < W / 2) : (p - (f + W / 2) % 4294967296) % 4294967296 < W - W / 2 := by omega
theorem ds_half {t : Tr} {p : Int} (h : 2 ≤ wd t.f t.e) (hin : ds t.f p < wd t.f t.e) : ds t.f p < wd t.f (halfAt t) ∨ ds (halfAt t) p < wd (halfAt t) t.e := by
  obtain ⟨h1, h2⟩ := cut_wd h
  rw [h1, h2]
  by_cases hlt : ds t.f p < wd t.f t.e / 2
  · exact .inl hlt
  · exact .inr (half_way t.f p _ ⟨h, (wd_in _ _).2⟩ hin hlt)
/-- no point comes to anybody but the other one. -/
theorem halve_owner {l : List Ar} (hw : Wf l) (hu : Up l) (h1 : 1 ≤ l.length) (s o : Int) {p : Int} (hp : 0 ≤ p ∧ p < 4294967296) :
    ownerF (halveF l s o) p = ownerF l p ∨ (ownerF l p = s ∧ ownerF (halveF l s o) p = o) := by
  obtain ⟨t, ht, hin, hs⟩ := in_owner hw hu h1 hp
  have hp2 := halve_ring hw hu s o
  have key : ∀ u ∈ sp2 s o t, ds u.f p < wd u.f u.e → ownerF (halveF l s o) p = u.s := fun u hu' hu2 =>
    owner_of_in (halve_wf hw s o) (halve_up hw hu s o) hp (hp2.mem_iff.1 (List.mem_flatMap.2 ⟨t, ht, hu'⟩)) hu2
  unfold sp2 at key
  by_cases hc : cuts s t = true
  · rw [if_pos hc] at key
    simp only [cuts, Bool.and_eq_true, decide_eq_true_eq] at hc
    rcases ds_half hc.2 hin with g | g
    · exact .inl ((key ⟨t.f, halfAt t, t.s⟩ (by simp) g).trans hs)
    · exact .inr ⟨hs.symm.trans hc.1, key ⟨halfAt t, t.e, o⟩ (by simp) g⟩
  · rw [if_neg hc] at key
    exact .inl ((key t (by simp) hin).trans hs)
theorem cut_length (T : List Tr) (s o : Int) : T.length ≤ (cutT T s o).length ∧ (cutT T s o).length ≤ 2 * T.length := by
  unfold cutT
  induction T with
  | nil => simp
  | cons t r ih =>
    rw [List.flatMap_cons, List.length_append]
    have : (sp s o t).length = 1 ∨ (sp s o t).length = 2 := by unfold sp; split <;> simp
    simp only [List.length_cons]
    omega
theorem halve_length (l : List Ar) (s o : Int) : l.length ≤ (halveF l s o).length ∧ (halveF l s o).length ≤ 2 * l.length := by
  have := cut_length (ringT l) s o
  rw [ring_length] at this
  unfold halveF
  rw [srt_length]
  exact this
theorem cut_shard {l : List Ar} {s o : Int} {a : Ar} (h : a ∈ cutF l s o) : a.s = o ∨ ∃ b ∈ l, b.s = a.s := by
  unfold cutF cutT at h
  obtain ⟨t, ht, ha⟩ := List.mem_flatMap.1 h
  obtain ⟨k, hk, rfl⟩ := List.getElem_of_mem ht
  rw [ring_length] at hk
  rw [ring_get l k hk] at ha
  unfold sp at ha
  split at ha
  · simp only [List.mem_cons, List.not_mem_nil, or_false] at ha
    rcases ha with rfl | rfl
    · exact .inr ⟨_, List.getElem_mem hk, rfl⟩
    · exact .inl rfl
  · simp only [List.mem_cons, List.not_mem_nil, or_false] at ha
    subst ha
    exact .inr ⟨_, List.getElem_mem hk, rfl⟩
theorem halve_may {l : List Ar} (hw : Wf l) (hm : May l) (h60 : l.length ≤ 512) (s o : Int) (ho : 0 ≤ o ∧ o < 16) : May (halveF l s o) := by
  have hl := halve_length l s o
  have h1 := hm.1
  refine may_of (by omega) (by omega) (fun a ha => ?_) (halve_up hw hm.up s o)
  rcases cut_shard ((srt_perm _).mem_iff.1 ha) with h | ⟨b, hb, h⟩
  · rw [h]; exact ho
  · rw [← h]; exact hm.shard hb

/-! ### more arcs -/
theorem more_owner {A N : List Ar} (n : Int) (hw : Wf (A ++ N)) (ha : Apart (A ++ N)) (hA : A ≠ []) (hN : ∀ b ∈ N, b.s = n) {p : Int} (hp : 0 ≤ p ∧ p < 4294967296) :
    ownerF (srt (A ++ N)) p = ownerF (srt A) p ∨ ownerF (srt (A ++ N)) p = n := by
  have haA : Apart A := (List.pairwise_append.1 ha).1
  have hl1 : 1 ≤ (srt (A ++ N)).length := by
    rw [srt_length, List.length_append]
    have := List.length_pos_iff.2 hA
    omega
  obtain ⟨a, h1, h2, h3⟩ := near_owner (srt_wf hw) (srt_up ha) hl1 hp
  rcases List.mem_append.1 ((srt_perm _).mem_iff.1 h1) with g | g
  · refine .inl ?_
    rw [h2]
    refine (owner_near (srt_wf fun b hb => hw b (by simp [hb])) (srt_up haA) hp ((srt_perm _).mem_iff.2 g) fun b hb => ?_).symm
    exact h3 b ((srt_perm _).mem_iff.2 (by simp [(srt_perm _).mem_iff.1 hb]))
  · exact .inr (h2.trans (hN a g))
theorem owner_shard {l : List Ar} (h : 1 ≤ l.length) (p : Int) : ∃ a ∈ l, ownerF l p = a.s := ⟨_, List.getElem_mem (place_lt h p), owner_in h p⟩
theorem owner_share {l : List Ar} (h : 1 ≤ l.length) (p : Int) : 1 ≤ shareF l (ownerF l p) := by
  rw [owner_in h]
  have := sm_pos (List.getElem_mem (l := ringT l) (n := placeF l p) (by rw [ring_length]; exact place_lt h p))
  rw [ring_get l _ (place_lt h p)] at this
  exact this

/-! ### shares of all shards -/
def smAll (T : List Tr) : Nat → Int
  | 0 => 0
  | n + 1 => smAll T n + sm T (n : Int)
theorem smAll_cons (t : Tr) (r : List Tr) (n : Nat) : smAll (t :: r) n = smAll r n + if 0 ≤ t.s ∧ t.s < n then wd t.f t.e else 0 := by
  induction n with
  | zero =>
    simp only [smAll]
    rw [if_neg (by omega)]; rfl
  | succ n ih =>
    simp only [smAll, ih, sm]
    by_cases h1 : 0 ≤ t.s ∧ t.s < n
    · rw [if_pos h1, if_neg (by omega), if_pos (by omega)]; omega
    · by_cases h2 : t.s = n
      · rw [if_neg h1, if_pos h2, if_pos (by omega)]; omega
      · rw [if_neg h1, if_neg h2, if_neg (by omega)]; omega
theorem smAll_tot (T : List Tr) (n : Nat) (h : ∀ t ∈ T, 0 ≤ t.s ∧ t.s < n) : smAll T n = tot T := by
  induction T with
  | nil =>
    have : ∀ k, smAll [] k = 0 := fun k => by
      induction k with
      | zero => rfl
      | succ k ih => simp only [smAll, ih, sm]; rfl
    exact this n
  | cons t r ih =>
    rw [smAll_cons, ih fun u hu => h u (by simp [hu]), if_pos (h t (by simp))]
    simp only [tot]; omega
theorem ring_shard {l : List Ar} (h : ∀ a ∈ l, 0 ≤ a.s ∧ a.s < 16) : ∀ t ∈ ringT l, 0 ≤ t.s ∧ t.s < (16 : Nat) := by
  intro t ht
  obtain ⟨k, hk, rfl⟩ := List.getElem_of_mem ht
  rw [ring_length] at hk
  rw [ring_get l k hk]
  exact h _ (List.getElem_mem hk)
theorem shares_all {l : List Ar} (hw : Wf l) (hm : May l) : smAll (ringT l) 16 = 4294967296 := by
  rw [smAll_tot _ _ (ring_shard fun a ha => hm.shard ha), tot_ring hw hm.up hm.1]
theorem smAll_le (T : List Tr) (n k : Nat) (h : k ≤ n) : 0 ≤ smAll T k ∧ smAll T k ≤ smAll T n := by
  induction n with
  | zero => obtain rfl : k = 0 := by omega
            simp [smAll]
  | succ n ih =>
    have h0 := sm_nonneg T (n : Int)
    by_cases hk : k = n + 1
    · subst hk
      have := ih
      refine ⟨?_, Int.le_refl _⟩
      simp only [smAll]
      have : ∀ j, 0 ≤ smAll T j := fun j => by
        induction j with
        | zero => simp [smAll]
        | succ j ihj => simp only [smAll]; have := sm_nonneg T (j : Int); omega
      have := this n
      omega
    · have := ih (by omega)
      simp only [smAll]
      omega

end Go.Proofs.YtkcccfllkgjdiaaDoor.Rg
