/-
  Words of one letter: what their patterns are and match.
-/
import Derived.Test.YtidedmmfmifgjaaTTold
namespace Go.Proofs.Ytidedmmfmifgjaa
set_option linter.unusedVariables false

def One (l : List (List UInt8)) : Prop := ∀ x ∈ l, x.length = 1 ∧ 46 ∉ x
theorem One.ne {l : List (List UInt8)} (h : One l) : ∀ x ∈ l, x ≠ [] := fun x hx e => by
  have := (h x hx).1
  rw [e] at this
  cases this
theorem One.dot {l : List (List UInt8)} (h : One l) : ∀ x ∈ l, 46 ∉ x := fun x hx => (h x hx).2
theorem One.nil : One [] := fun x hx => by cases hx
theorem One.snoc {l : List (List UInt8)} {c : UInt8} (h : One l) (hc : c ≠ 46) : One (l ++ [[c]]) := by
  intro x hx
  rcases List.mem_append.1 hx with hx | hx
  · exact h x hx
  · obtain rfl := List.mem_singleton.1 hx
    exact ⟨rfl, by simpa using hc.symm⟩
theorem One.rep (n : Nat) {c : UInt8} (hc : c ≠ 46) : One (List.replicate n [c]) := by
  intro x hx
  obtain ⟨_, rfl⟩ := List.mem_replicate.1 hx
  exact ⟨rfl, by simpa using hc.symm⟩
theorem One.app {l m : List (List UInt8)} (h : One l) (h' : One m) : One (l ++ m) := by
  intro x hx
  rcases List.mem_append.1 hx with hx | hx
  · exact h x hx
  · exact h' x hx
theorem joinW_one : ∀ {l : List (List UInt8)}, One l → (joinW l).length ≤ 2 * l.length
  | [], _ => by simp [joinW]
  | [x], h => by
    have := (h x (by simp)).1
    show x.length ≤ 2 * 1
    omega
  | x :: y :: r, h => by
    have ih := joinW_one (l := y :: r) (fun z hz => h z (by simp [hz]))
    have := (h x (by simp)).1
    simp only [joinW, List.length_append, List.length_cons] at ih ⊢
    omega
theorem fits_join {l : List (List UInt8)} (h : One l) (hl : l.length ≤ 100) : fitsB (joinW l) = decide (l.length ≤ 20) := by
  have h1 := joinW_one h
  rw [fitsB_eq, wds_joinW h.dot h.ne, decide_eq_false (p := 255 < (joinW l).length) (by omega), Bool.or_false]
  by_cases h2 : l.length ≤ 20
  · rw [decide_eq_true h2, decide_eq_false (by omega)]; rfl
  · rw [decide_eq_false h2, decide_eq_true (by omega)]; rfl
theorem may_join {l : List (List UInt8)} (h : One l) (hl : l.length ≤ 100) : mayB (joinW l) = (decide (l.length ≤ 20) && l.all mayW) := by
  unfold mayB
  rw [fits_join h hl, wds_joinW h.dot h.ne]
theorem match_join {p k : List (List UInt8)} (hp : One p) (hk : One k) (hpl : p.length ≤ 100) (hkl : k.length ≤ 100) :
    matchB (joinW p) (joinW k) = (decide (p.length ≤ 20) && p.all mayW && decide (k.length ≤ 20) && stand p k) := by
  unfold matchB
  rw [may_join hp hpl, fits_join hk hkl, wds_joinW hp.dot hp.ne, wds_joinW hk.dot hk.ne]
theorem match_all {k : List (List UInt8)} (hk : One k) (hkl : k.length ≤ 100) : matchB [35] (joinW k) = decide (k.length ≤ 20) := by
  have := match_join (p := [[35]]) (k := k) (fun x hx => by obtain rfl := List.mem_singleton.1 hx; exact ⟨rfl, by decide⟩) hk (by decide) hkl
  rw [show joinW [[35]] = [35] from rfl] at this
  rw [this, stand_hash_nil, Bool.and_true]
  rfl
theorem rep_all (n : Nat) (x : List UInt8) (h : mayW x = true) : (List.replicate n x).all mayW = true := by
  rw [List.all_eq_true]
  intro y hy
  obtain ⟨_, rfl⟩ := List.mem_replicate.1 hy
  exact h
theorem star_step (p k : List (List UInt8)) (c : List UInt8) : stand ([42] :: p) (c :: k) = stand p k := by
  rw [stand_eq, if_neg (by decide)]
  simp
theorem star_none (p : List (List UInt8)) : stand ([42] :: p) [] = false := by
  rw [stand_eq, if_neg (by decide)]
/-- so many stars ahead. -/
theorem stars_ahead (c : List UInt8) : ∀ (n m : Nat) (q : List (List UInt8)), stand (List.replicate n [42] ++ q) (List.replicate m c) = (decide (n ≤ m) && stand q (List.replicate (m - n) c))
  | 0, m, q => by simp
  | n + 1, 0, q => by
    rw [List.replicate_succ, List.cons_append, List.replicate_zero, star_none, decide_eq_false (by omega)]
    rfl
  | n + 1, m + 1, q => by
    rw [List.replicate_succ, List.cons_append, List.replicate_succ, star_step, stars_ahead c n m q, Nat.add_sub_add_right]
    congr 1
    rw [decide_eq_decide]
    omega
theorem stars (c : List UInt8) (n m : Nat) : stand (List.replicate n [42]) (List.replicate m c) = decide (n = m) := by
  have h := stars_ahead c n m []
  rw [List.append_nil] at h
  rw [h]
  by_cases e : n = m
  · subst e; simp [stand]
  · rw [decide_eq_false e]
    by_cases h1 : n ≤ m
    · have : stand [] (List.replicate (m - n) c) = false := by
        obtain ⟨d, hd⟩ : ∃ d, m - n = d + 1 := ⟨m - n - 1, by omega⟩
        rw [hd]
        rfl
      rw [this, Bool.and_false]
    · rw [decide_eq_false h1]; rfl
theorem cross_stars (c : List UInt8) (n m : Nat) : stand ([35] :: List.replicate n [42]) (List.replicate m c) = decide (n ≤ m) := by
  rw [Bool.eq_iff_iff, stand_hash, decide_eq_true_eq]
  constructor
  · rintro ⟨i, h⟩
    rw [List.drop_replicate, stars, decide_eq_true_eq] at h
    omega
  · intro h
    refine ⟨m - n, ?_⟩
    rw [List.drop_replicate, stars, decide_eq_true_eq]
    omega
theorem stars_cross (c : List UInt8) (t n m : Nat) (ht : t ≤ n) : stand (List.replicate t [42] ++ [35] :: List.replicate (n - t) [42]) (List.replicate m c) = decide (n ≤ m) := by
  rw [stars_ahead, cross_stars, Bool.eq_iff_iff, Bool.and_eq_true, decide_eq_true_eq, decide_eq_true_eq, decide_eq_true_eq]
  omega
theorem stand_app {p q k l : List (List UInt8)} (h : stand p k = true) (h' : stand q l = true) : stand (p ++ q) (k ++ l) = true :=
  (stand_split _ _ _).2 ⟨k.length, by simp, by simpa using h, by simpa using h'⟩
theorem stand_len : ∀ (p k : List (List UInt8)), (∀ x ∈ p, x ≠ [35]) → stand p k = true → p.length = k.length
  | [], k, _, h => by rw [(stand_nil k).1 h]
  | x :: p, k, hx, h => by
    obtain ⟨c, cs, rfl, _, h⟩ := (stand_cons (hx x (by simp)) _ _).1 h
    rw [List.length_cons, List.length_cons, stand_len p cs (fun y hy => hx y (by simp [hy])) h]
theorem stand_self : ∀ (k : List (List UInt8)), (∀ x ∈ k, x ≠ [35]) → stand k k = true
  | [], _ => rfl
  | x :: k, hx => (stand_cons (hx x (by simp)) _ _).2 ⟨x, k, rfl, .inr rfl, stand_self k fun y hy => hx y (by simp [hy])⟩
end Go.Proofs.Ytidedmmfmifgjaa
