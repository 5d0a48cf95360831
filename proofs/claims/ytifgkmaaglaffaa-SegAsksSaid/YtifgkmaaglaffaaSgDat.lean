/-
  A log's records as plain data: sums, records, what is read off bytes; no program here.
-/
import Derived.Test.YtifgkmaaglaffaaOctD
import Derived.Test.YtifgkmaaglaffaaXor
namespace Go.Proofs.Ytifgkmaaglaffaa.Sg
open Go.RowKit
set_option linter.unusedVariables false

def sx (p : Nat × Nat) (c : UInt8) : Nat × Nat := ((31 * p.1 + c.toNat + 1) % 65521, (p.2 + (31 * p.1 + c.toNat + 1) % 65521) % 65521)
def sums (l : List UInt8) : Nat × Nat := l.foldl sx (1, 0)
def sumF (l : List UInt8) : Nat := 65536 * (sums l).2 + (sums l).1
theorem sums_snoc (l : List UInt8) (c : UInt8) : sums (l ++ [c]) = sx (sums l) c := by simp [sums]
theorem sx_lt (p : Nat × Nat) (c : UInt8) : (sx p c).1 < 65521 ∧ (sx p c).2 < 65521 := ⟨Nat.mod_lt _ (by decide), Nat.mod_lt _ (by decide)⟩
theorem fold_lt (l : List UInt8) : ∀ p : Nat × Nat, p.1 < 65521 → p.2 < 65521 → (l.foldl sx p).1 < 65521 ∧ (l.foldl sx p).2 < 65521 := by
  induction l with
  | nil => intro p h1 h2; exact ⟨h1, h2⟩
  | cons c r ih => intro p h1 h2; exact ih _ (sx_lt p c).1 (sx_lt p c).2
theorem sums_lt (l : List UInt8) : (sums l).1 < 65521 ∧ (sums l).2 < 65521 := fold_lt l _ (by decide) (by decide)
theorem sumF_lt (l : List UInt8) : sumF l < 4294967296 := by
  have h := sums_lt l
  unfold sumF
  omega

theorem fold_inj (l : List UInt8) : ∀ p q : Nat × Nat, p.1 < 65521 → q.1 < 65521 → p.1 ≠ q.1 → (l.foldl sx p).1 ≠ (l.foldl sx q).1 := by
  induction l with
  | nil => intro p q _ _ h; exact h
  | cons c r ih =>
    intro p q hp hq h
    refine ih _ _ (sx_lt p c).1 (sx_lt q c).1 ?_
    show (31 * p.1 + c.toNat + 1) % 65521 ≠ (31 * q.1 + c.toNat + 1) % 65521
    omega
/-- another byte makes another sum. -/
theorem sum_set {l : List UInt8} {k : Nat} (hk : k < l.length) {c : UInt8} (hc : l[k] ≠ c) : sumF (l.set k c) ≠ sumF l := by
  have e1 : l = l.take k ++ (l[k] :: l.drop (k + 1)) := by rw [List.getElem_cons_drop, List.take_append_drop]
  have e2 : l.set k c = l.take k ++ (c :: l.drop (k + 1)) := List.set_eq_take_append_cons_drop .. |>.trans (by rw [if_pos hk])
  obtain ⟨d, hd⟩ : ∃ d, d = l[k] := ⟨_, rfl⟩
  rw [← hd] at hc e1
  have hdc : d.toNat ≠ c.toNat := fun e => hc (UInt8.toNat_inj.1 e)
  have hd2 : d.toNat < 256 := d.toNat_lt
  have hc2 : c.toNat < 256 := c.toNat_lt
  intro he
  have hx : (sums (l.set k c)).1 = (sums l).1 := by
    have h1 := sums_lt l
    have h2 := sums_lt (l.set k c)
    unfold sumF at he
    omega
  rw [e2] at hx
  rw [show (sums l).1 = (sums (l.take k ++ (d :: l.drop (k + 1)))).1 by rw [← e1]] at hx
  simp only [sums, List.foldl_append, List.foldl_cons] at hx
  refine fold_inj (l.drop (k + 1)) _ _ (sx_lt _ _).1 (sx_lt _ _).1 ?_ hx
  show (31 * _ + c.toNat + 1) % 65521 ≠ (31 * _ + d.toNat + 1) % 65521
  generalize (List.foldl sx (1, 0) (l.take k)).1 = x
  omega
theorem sum_turn {l : List UInt8} {k : Nat} (hk : k < l.length) (c : UInt8) : sumF (l.set k (l[k] ^^^ c)) = sumF l ↔ c = 0 := by
  constructor
  · intro h
    by_cases hc : l[k] = l[k] ^^^ c
    · exact set_turn hk (by rw [← hc, List.set_getElem_self])
    · exact absurd h (sum_set hk hc)
  · rintro rfl
    rw [set_same hk]

def MayL (n : Nat) : Prop := 1 ≤ n ∧ n ≤ 20000
instance (n : Nat) : Decidable (MayL n) := inferInstanceAs (Decidable (_ ∧ _))
def recF (l : List UInt8) : List UInt8 := be 2 l.length ++ (be 4 (sumF l) ++ l)
@[simp] theorem recF_length (l : List UInt8) : (recF l).length = l.length + 6 := by simp [recF]; omega
def catR (ls : List (List UInt8)) : List UInt8 := ls.flatMap recF
theorem catR_cons (d : List UInt8) (ls : List (List UInt8)) : catR (d :: ls) = recF d ++ catR ls := by simp [catR]
theorem catR_append (a b : List (List UInt8)) : catR (a ++ b) = catR a ++ catR b := by simp [catR]
theorem catR_one (d : List UInt8) : catR [d] = recF d := by simp [catR]

/-- what the record at b's beginning would be of. -/
def dataP (b : List UInt8) : List UInt8 := (takeP (numP 2 b).1 (numP 4 (numP 2 b).2.1).2.1).1
def sumP (b : List UInt8) : Nat := (numP 4 (numP 2 b).2.1).1
def firstF (b : List UInt8) : List UInt8 := if MayL (dataP b).length ∧ sumF (dataP b) = sumP b then dataP b else []

theorem take_rest {n : Nat} {l : List UInt8} (h : (takeP n l).2.1 ≠ []) : (takeP n l).2.2 = false := by
  unfold takeP at h ⊢
  split
  · rename_i hn; rw [if_pos hn] at h; exact absurd rfl h
  · rfl
theorem take_data {n : Nat} {l : List UInt8} (h : (takeP n l).1 ≠ []) : (takeP n l).2.2 = false ∧ 0 < n := by
  unfold takeP at h ⊢
  split
  · rename_i hn; rw [if_pos hn] at h; exact absurd rfl h
  · rename_i hn
    rw [if_neg hn] at h
    refine ⟨rfl, Nat.pos_of_ne_zero fun e => h (by subst e; simp)⟩
theorem data_ok {b : List UInt8} (h : dataP b ≠ []) : b = be 2 (dataP b).length ++ (be 4 (sumP b) ++ (dataP b ++ b.drop ((dataP b).length + 6))) := by
  obtain ⟨h1, h0⟩ := take_data h
  obtain ⟨e1, e2⟩ := takeP_ok h1
  have hd : (dataP b).length = (numP 2 b).1 := e2
  have hr4 : (numP 4 (numP 2 b).2.1).2.1 ≠ [] := by
    intro e
    rw [e] at e1
    have := congrArg List.length e1
    rw [List.length_append] at this
    rw [e] at e2
    simp only [List.length_nil] at this
    rw [e2] at this
    omega
  obtain ⟨f1, -⟩ := numP_ok (k := 4) (l := (numP 2 b).2.1) (take_rest hr4)
  have hr2 : (numP 2 b).2.1 ≠ [] := by
    intro e
    rw [e] at f1
    have := congrArg List.length f1
    simp at this
    omega
  obtain ⟨g1, -⟩ := numP_ok (k := 2) (l := b) (take_rest hr2)
  have key : b = be 2 (dataP b).length ++ (be 4 (sumP b) ++ (dataP b ++ (takeP (numP 2 b).1 (numP 4 (numP 2 b).2.1).2.1).2.1)) := by
    rw [hd]
    refine g1.trans ?_
    congr 1
    refine f1.trans ?_
    congr 1
  have hdrop : b.drop ((dataP b).length + 6) = (takeP (numP 2 b).1 (numP 4 (numP 2 b).2.1).2.1).2.1 := by
    obtain ⟨t, ht⟩ : ∃ t, t = (takeP (numP 2 b).1 (numP 4 (numP 2 b).2.1).2.1).2.1 := ⟨_, rfl⟩
    rw [← ht] at key ⊢
    obtain ⟨d, hdd⟩ : ∃ d, d = dataP b := ⟨_, rfl⟩
    rw [← hdd] at key ⊢
    rw [key]
    rw [← List.append_assoc, ← List.append_assoc]
    exact List.drop_left' (by simp; omega)
  rw [hdrop]
  exact key
theorem first_ne {b : List UInt8} (h : firstF b ≠ []) : firstF b = dataP b ∧ MayL (dataP b).length ∧ sumF (dataP b) = sumP b := by
  unfold firstF at h ⊢
  split at h
  · rename_i hc; rw [if_pos hc]; exact ⟨rfl, hc⟩
  · exact absurd rfl h
theorem first_ok {b : List UInt8} (h : firstF b ≠ []) : b = recF (firstF b) ++ b.drop ((firstF b).length + 6) ∧ MayL (firstF b).length := by
  obtain ⟨e, hm, hs⟩ := first_ne h
  have hd : dataP b ≠ [] := by rw [← e]; exact h
  refine ⟨?_, by rw [e]; exact hm⟩
  rw [e]
  refine (data_ok hd).trans ?_
  unfold recF
  rw [hs]
  simp
theorem first_le {b : List UInt8} (h : firstF b ≠ []) : (firstF b).length + 6 ≤ b.length := by
  have := congrArg List.length (first_ok h).1
  rw [List.length_append, recF_length] at this
  omega
theorem data_rec (d : List UInt8) (s : Nat) (r : List UInt8) (hd : d.length < 65536) : dataP (be 2 d.length ++ (be 4 s ++ (d ++ r))) = d ∧ sumP (be 2 d.length ++ (be 4 s ++ (d ++ r))) = s % 256 ^ 4 := by
  have h1 := numP_app 2 d.length (be 4 s ++ (d ++ r))
  rw [Nat.mod_eq_of_lt (by simpa using hd)] at h1
  have h2 := numP_app 4 s (d ++ r)
  unfold dataP sumP
  rw [h1]
  simp only
  rw [h2]
  simp only
  rw [takeP_app]
  exact ⟨rfl, trivial⟩
theorem first_rec {d : List UInt8} (h : MayL d.length) (r : List UInt8) : firstF (recF d ++ r) = d := by
  have h2 := h.2
  have := data_rec d (sumF d) r (by omega)
  have hs : sumF d % 256 ^ 4 = sumF d := Nat.mod_eq_of_lt (sumF_lt d)
  unfold firstF recF
  simp only [List.append_assoc]
  rw [this.1, this.2, hs, if_pos ⟨h, rfl⟩]
/-- bytes that have not the sum that is told are no record's. -/
theorem first_turned {d e : List UInt8} (hl : e.length = d.length) (h2 : MayL d.length) (hs : sumF e ≠ sumF d) (r : List UInt8) : firstF (be 2 d.length ++ (be 4 (sumF d) ++ (e ++ r))) = [] := by
  have h3 := h2.2
  have := data_rec e (sumF d) r (by omega)
  have hm : sumF d % 256 ^ 4 = sumF d := Nat.mod_eq_of_lt (sumF_lt d)
  rw [← hl]
  unfold firstF
  rw [this.1, this.2, hm, if_neg (fun h => hs h.2)]
theorem first_nil_of {b : List UInt8} (h : b.length < 7) : firstF b = [] := by
  by_cases he : firstF b = []
  · exact he
  · have h1 := first_le he
    have h2 := (first_ok he).2.1
    omega
theorem first_nil : firstF [] = [] := first_nil_of (by simp)
/-- a torn record reads as nothing. -/
theorem first_torn {d : List UInt8} (h : MayL d.length) {j : Nat} (hj : j < d.length + 6) : firstF ((recF d).take j) = [] := by
  by_cases he : firstF ((recF d).take j) = []
  · exact he
  exfalso
  obtain ⟨h1, h2⟩ := first_ok he
  have h3 := first_le he
  obtain ⟨f, hf⟩ : ∃ f, f = firstF ((recF d).take j) := ⟨_, rfl⟩
  rw [← hf] at h1 h2 h3
  have hl : ((recF d).take j).length = j := by rw [List.length_take, recF_length]; omega
  rw [hl] at h3
  have ht : ((recF d).take j).take 2 = be 2 d.length := by
    rw [List.take_take, Nat.min_eq_left (by omega)]
    unfold recF
    exact List.take_left' (by simp)
  have hu : ((recF d).take j).take 2 = be 2 f.length := by
    rw [h1]
    unfold recF
    rw [List.append_assoc]
    exact List.take_left' (by simp)
  have hb : be 2 d.length = be 2 f.length := ht.symm.trans hu
  have h4 := h.2
  have h5 := h2.2
  have := congrArg de hb
  rw [de_be, de_be, Nat.mod_eq_of_lt (by omega), Nat.mod_eq_of_lt (by omega)] at this
  omega

/-- the records at b's beginning. -/
def rdL (b : List UInt8) : List (List UInt8) := if h : firstF b = [] then [] else firstF b :: rdL (b.drop ((firstF b).length + 6))
termination_by b.length
decreasing_by
  have := first_le h
  simp only [List.length_drop]
  omega
theorem rdL_nil {b : List UInt8} (h : firstF b = []) : rdL b = [] := by rw [rdL, dif_pos h]
theorem rdL_cons {b : List UInt8} (h : firstF b ≠ []) : rdL b = firstF b :: rdL (b.drop ((firstF b).length + 6)) := by rw [rdL, dif_neg h]
theorem rd_rec {d : List UInt8} (h : MayL d.length) (r : List UInt8) : rdL (recF d ++ r) = d :: rdL r := by
  have e := first_rec h r
  have hn : firstF (recF d ++ r) ≠ [] := by
    rw [e]
    intro h0
    have := h.1
    rw [h0] at this
    simp at this
  rw [rdL_cons hn, e, List.drop_left' (by simp)]
theorem rd_cat {ls : List (List UInt8)} (h : ∀ d ∈ ls, MayL d.length) (r : List UInt8) : rdL (catR ls ++ r) = ls ++ rdL r := by
  induction ls with
  | nil => simp [catR]
  | cons d ls ih =>
    rw [catR_cons, List.append_assoc, rd_rec (h d (by simp)), ih fun x hx => h x (by simp [hx])]
    rfl
theorem rd_all {ls : List (List UInt8)} (h : ∀ d ∈ ls, MayL d.length) : rdL (catR ls) = ls := by
  have := rd_cat h []
  rwa [List.append_nil, rdL_nil first_nil, List.append_nil] at this
theorem rd_good (b : List UInt8) : ∀ d ∈ rdL b, MayL d.length := by
  induction hn : b.length using Nat.strongRecOn generalizing b with
  | _ n ih =>
    by_cases h : firstF b = []
    · rw [rdL_nil h]; intro d hd; simp at hd
    · rw [rdL_cons h]
      intro d hd
      rcases List.mem_cons.1 hd with rfl | hd
      · exact (first_ok h).2
      · have := first_le h
        refine ih _ ?_ _ rfl d hd
        simp only [List.length_drop]
        omega
theorem rd_pre (b : List UInt8) : b = catR (rdL b) ++ b.drop (catR (rdL b)).length := by
  induction hn : b.length using Nat.strongRecOn generalizing b with
  | _ n ih =>
    by_cases h : firstF b = []
    · rw [rdL_nil h]; simp [catR]
    · have hl := first_le h
      have h1 := ih _ (by simp only [List.length_drop]; omega) (b.drop ((firstF b).length + 6)) rfl
      rw [rdL_cons h, catR_cons]
      obtain ⟨f, hf⟩ : ∃ f, f = firstF b := ⟨_, rfl⟩
      have h0 := (first_ok h).1
      rw [← hf] at h1 h0 hl ⊢
      rw [List.length_append, recF_length, ← List.drop_drop (j := f.length + 6), List.append_assoc, ← h1]
      exact h0
theorem rd_le (b : List UInt8) : (catR (rdL b)).length ≤ b.length := by
  have := congrArg List.length (rd_pre b)
  rw [List.length_append] at this
  omega
theorem rd_take (b : List UInt8) : b.take (catR (rdL b)).length = catR (rdL b) := by
  have h := rd_pre b
  obtain ⟨c, hc⟩ : ∃ c, c = catR (rdL b) := ⟨_, rfl⟩
  rw [← hc] at h ⊢
  rw [h]
  exact List.take_left' (by simp)
/-- of records that are cut off somewhere a beginning is read. -/
theorem rd_cut {ls : List (List UInt8)} (h : ∀ d ∈ ls, MayL d.length) (m : Nat) : ∃ j, j ≤ ls.length ∧ rdL ((catR ls).take m) = ls.take j ∧ ∀ k, k ≤ ls.length → (catR (ls.take k)).length ≤ m → k ≤ j := by
  induction ls generalizing m with
  | nil => exact ⟨0, Nat.le_refl _, by simp [catR, rdL_nil first_nil], fun k hk _ => by simpa using hk⟩
  | cons d ls ih =>
    have hd := h d (by simp)
    by_cases hm : m < d.length + 6
    · refine ⟨0, Nat.zero_le _, ?_, ?_⟩
      · rw [catR_cons, List.take_append_of_le_length (by simp; omega), List.take_zero]
        exact rdL_nil (first_torn hd hm)
      · intro k hk hl
        cases k with
        | zero => exact Nat.le_refl _
        | succ k =>
          rw [List.take_succ_cons, catR_cons, List.length_append, recF_length] at hl
          omega
    · obtain ⟨j, hj, e, hk⟩ := ih (fun x hx => h x (by simp [hx])) (m - (d.length + 6))
      refine ⟨j + 1, by simpa using hj, ?_, ?_⟩
      · rw [catR_cons, List.take_append, recF_length, List.take_of_length_le (by simp; omega), rd_rec hd, e, List.take_succ_cons]
      · intro k hk1 hl
        cases k with
        | zero => omega
        | succ k =>
          rw [List.take_succ_cons, catR_cons, List.length_append, recF_length] at hl
          have := hk k (by simpa using hk1) (by omega)
          omega

end Go.Proofs.Ytifgkmaaglaffaa.Sg
