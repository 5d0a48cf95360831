/-
  Words and patterns as lists of bytes: what a text is cut into, what a pattern stands for. No function of the program is named here.
-/
import Derived.Test.YtifgkmaaglaffaaRow
namespace Go.Proofs.Ytifgkmaaglaffaa.Top
set_option linter.unusedVariables false

/-- a text, cut at each point. -/
def spl : List UInt8 → List (List UInt8)
  | [] => [[]]
  | c :: r => if c = 46 then [] :: spl r else match spl r with
    | [] => [[c]]
    | x :: xs => (c :: x) :: xs
def wds (l : List UInt8) : List (List UInt8) := if l = [] then [] else spl l

theorem spl_ne (l : List UInt8) : spl l ≠ [] := by
  cases l with
  | nil => simp [spl]
  | cons c r =>
    unfold spl
    split
    · simp
    · split <;> simp
theorem spl_none : ∀ l : List UInt8, 46 ∉ l → spl l = [l]
  | [], _ => rfl
  | c :: r, h => by
    have hc : c ≠ 46 := fun e => h (by simp [e])
    have ih := spl_none r (fun e => h (by simp [e]))
    unfold spl
    rw [if_neg hc, ih]
theorem spl_at : ∀ (a b : List UInt8), 46 ∉ a → spl (a ++ 46 :: b) = a :: spl b
  | [], b, _ => by simp [spl]
  | c :: r, b, h => by
    have hc : c ≠ 46 := fun e => h (by simp [e])
    have ih := spl_at r b (fun e => h (by simp [e]))
    rw [List.cons_append, spl, if_neg hc, ih]
theorem spl_len : ∀ l : List UInt8, (spl l).length = l.count 46 + 1
  | [] => rfl
  | c :: r => by
    have ih := spl_len r
    unfold spl
    by_cases hc : c = 46
    · subst hc; simp [ih]
    · rw [if_neg hc]
      have hn := spl_ne r
      rw [List.count_cons_of_ne (by simpa using hc)]
      revert ih hn
      cases spl r with
      | nil => intro ih hn; exact absurd rfl hn
      | cons x xs => intro ih _; simpa using ih
theorem wds_nil : wds [] = [] := rfl
theorem wds_of {l : List UInt8} (h : l ≠ []) : wds l = spl l := if_neg h
/-- what the words of a text are, taken together again. -/
def joinW : List (List UInt8) → List UInt8
  | [] => []
  | [a] => a
  | a :: b :: r => a ++ 46 :: joinW (b :: r)
theorem joinW_snoc : ∀ (l : List (List UInt8)) (x : List UInt8), l ≠ [] → joinW (l ++ [x]) = joinW l ++ 46 :: x
  | [], _, h => absurd rfl h
  | [a], x, _ => by simp [joinW]
  | a :: b :: r, x, _ => by
    have ih := joinW_snoc (b :: r) x (by simp)
    show a ++ 46 :: joinW (b :: (r ++ [x])) = (a ++ 46 :: joinW (b :: r)) ++ 46 :: x
    rw [show b :: (r ++ [x]) = (b :: r) ++ [x] from rfl, ih]
    simp
theorem joinW_spl : ∀ l : List UInt8, joinW (spl l) = l
  | [] => rfl
  | c :: r => by
    have ih := joinW_spl r
    have hn := spl_ne r
    unfold spl
    by_cases hc : c = 46
    · subst hc
      rw [if_pos rfl]
      revert ih hn
      cases hs : spl r with
      | nil => intro _ hn; exact absurd rfl hn
      | cons x xs => intro ih _; show [] ++ 46 :: joinW (x :: xs) = _; rw [ih]; rfl
    · rw [if_neg hc]
      revert ih hn
      cases hs : spl r with
      | nil => intro _ hn; exact absurd rfl hn
      | cons x xs =>
        intro ih _
        show joinW ((c :: x) :: xs) = c :: r
        rw [← ih]
        cases xs <;> rfl
theorem joinW_wds (l : List UInt8) : joinW (wds l) = l := by
  unfold wds
  split
  · rename_i h; rw [h]; rfl
  · exact joinW_spl l
theorem spl_joinW : ∀ l : List (List UInt8), l ≠ [] → (∀ x ∈ l, 46 ∉ x) → spl (joinW l) = l
  | [], h, _ => absurd rfl h
  | [a], _, h => spl_none a (h a (by simp))
  | a :: b :: r, _, h => by
    show spl (a ++ 46 :: joinW (b :: r)) = _
    rw [spl_at _ _ (h a (by simp)), spl_joinW (b :: r) (by simp) (fun x hx => h x (by simp [hx]))]
theorem joinW_ne : ∀ l : List (List UInt8), l ≠ [] → (∀ x ∈ l, x ≠ []) → joinW l ≠ []
  | [], h, _ => absurd rfl h
  | [a], _, h => h a (by simp)
  | a :: b :: r, _, h => by simp [joinW]
theorem wds_joinW {l : List (List UInt8)} (h : ∀ x ∈ l, 46 ∉ x) (h1 : ∀ x ∈ l, x ≠ []) : wds (joinW l) = l := by
  cases l with
  | nil => rfl
  | cons a r => rw [wds_of (joinW_ne _ (by simp) h1), spl_joinW _ (by simp) h]

/-! ### Patterns -/
/-- what a row of a pattern's words stands for. -/
def stand : List (List UInt8) → List (List UInt8) → Bool
  | [], k => k.isEmpty
  | p :: ps, k => if p = [35] then (List.range (k.length + 1)).any (fun i => stand ps (k.drop i)) else match k with
    | [] => false
    | c :: cs => (p == [42] || p == c) && stand ps cs

theorem stand_eq (p : List UInt8) (ps k : List (List UInt8)) : stand (p :: ps) k = (if p = [35] then (List.range (k.length + 1)).any (fun i => stand ps (k.drop i)) else match k with
    | [] => false
    | c :: cs => (p == [42] || p == c) && stand ps cs) := by cases k <;> rfl
theorem stand_nil (k : List (List UInt8)) : stand [] k = true ↔ k = [] := by simp [stand]
theorem stand_hash (ps k : List (List UInt8)) : stand ([35] :: ps) k = true ↔ ∃ i, stand ps (k.drop i) = true := by
  rw [stand_eq, if_pos rfl, List.any_eq_true]
  constructor
  · rintro ⟨i, _, h⟩; exact ⟨i, h⟩
  · rintro ⟨i, h⟩
    by_cases hi : i ≤ k.length
    · exact ⟨i, by simp; omega, h⟩
    · refine ⟨k.length, by simp, ?_⟩
      rw [List.drop_eq_nil_of_le (Nat.le_refl _)]
      rwa [List.drop_eq_nil_of_le (by omega)] at h
theorem stand_cons {p : List UInt8} (hp : p ≠ [35]) (ps k : List (List UInt8)) : stand (p :: ps) k = true ↔ ∃ c cs, k = c :: cs ∧ (p = [42] ∨ p = c) ∧ stand ps cs = true := by
  rw [stand_eq, if_neg hp]
  cases k with
  | nil => simp
  | cons c cs =>
    constructor
    · intro h
      simp only [Bool.and_eq_true, Bool.or_eq_true, beq_iff_eq] at h
      exact ⟨c, cs, rfl, h⟩
    · rintro ⟨d, ds, h, h'⟩
      cases h
      simpa using h'
theorem stand_hash_nil (k : List (List UInt8)) : stand [[35]] k = true := (stand_hash _ _).2 ⟨k.length, by simp [stand]⟩
theorem stand_hash_here {ps k : List (List UInt8)} (h : stand ps k = true) : stand ([35] :: ps) k = true := (stand_hash _ _).2 ⟨0, h⟩
theorem stand_hash_drop {ps k : List (List UInt8)} (n : Nat) (h : stand ([35] :: ps) (k.drop n) = true) : stand ([35] :: ps) k = true := by
  obtain ⟨i, h⟩ := (stand_hash _ _).1 h
  exact (stand_hash _ _).2 ⟨n + i, by rwa [List.drop_drop] at h⟩
theorem stand_split : ∀ (p q k : List (List UInt8)), stand (p ++ q) k = true ↔ ∃ j, j ≤ k.length ∧ stand p (k.take j) = true ∧ stand q (k.drop j) = true
  | [], q, k => by
    constructor
    · intro h; exact ⟨0, Nat.zero_le _, by simp [stand], by simpa using h⟩
    · rintro ⟨j, hj, h1, h2⟩
      have := (stand_nil _).1 h1
      have h0 : j = 0 ∨ k = [] := by simpa using this
      rcases h0 with rfl | rfl
      · simpa using h2
      · simpa using h2
  | p :: ps, q, k => by
    by_cases hp : p = [35]
    · subst hp
      rw [List.cons_append, stand_hash]
      constructor
      · rintro ⟨i, h⟩
        by_cases hi : i ≤ k.length
        · obtain ⟨j, hj, h1, h2⟩ := (stand_split ps q _).1 h
          rw [List.length_drop] at hj
          refine ⟨i + j, by omega, (stand_hash _ _).2 ⟨i, ?_⟩, by rwa [List.drop_drop] at h2⟩
          rw [List.drop_take, Nat.add_sub_cancel_left]; exact h1
        · rw [List.drop_eq_nil_of_le (by omega)] at h
          obtain ⟨j, hj, h1, h2⟩ := (stand_split ps q _).1 h
          refine ⟨k.length, Nat.le_refl _, (stand_hash _ _).2 ⟨k.length, ?_⟩, ?_⟩
          · rw [List.take_length, List.drop_eq_nil_of_le (Nat.le_refl _)]; simpa using h1
          · rw [List.drop_eq_nil_of_le (Nat.le_refl _)]; simpa using h2
      · rintro ⟨j, hj, h1, h2⟩
        obtain ⟨i, h1⟩ := (stand_hash _ _).1 h1
        by_cases hi : i ≤ j
        · refine ⟨i, (stand_split ps q _).2 ⟨j - i, by rw [List.length_drop]; omega, ?_, ?_⟩⟩
          · rw [List.drop_take] at h1; exact h1
          · rw [List.drop_drop, show i + (j - i) = j by omega]; exact h2
        · refine ⟨j, (stand_split ps q _).2 ⟨0, Nat.zero_le _, ?_, by simpa using h2⟩⟩
          rw [List.drop_eq_nil_of_le (by rw [List.length_take]; omega)] at h1
          simpa using h1
    · rw [List.cons_append, stand_cons hp]
      constructor
      · rintro ⟨c, cs, rfl, hc, h⟩
        obtain ⟨j, hj, h1, h2⟩ := (stand_split ps q _).1 h
        exact ⟨j + 1, by simpa using hj, (stand_cons hp _ _).2 ⟨c, cs.take j, rfl, hc, h1⟩, h2⟩
      · rintro ⟨j, hj, h1, h2⟩
        obtain ⟨c, cs, hk, hc, h1⟩ := (stand_cons hp _ _).1 h1
        cases k with
        | nil => simp at hk
        | cons d ds =>
          cases j with
          | zero => simp at hk
          | succ j =>
            simp only [List.take_succ_cons, List.cons.injEq] at hk
            obtain ⟨rfl, rfl⟩ := hk
            exact ⟨d, ds, rfl, hc, (stand_split ps q _).2 ⟨j, by simpa using hj, h1, h2⟩⟩

/-- one word more of the pattern, by the beginnings of the key: a cross. -/
theorem stand_snoc_hash (p k : List (List UInt8)) (j : Nat) (hj : j ≤ k.length) :
    stand (p ++ [[35]]) (k.take j) = true ↔ stand p (k.take j) = true ∨ (0 < j ∧ stand (p ++ [[35]]) (k.take (j - 1)) = true) := by
  have key : ∀ n, n ≤ k.length → (stand (p ++ [[35]]) (k.take n) = true ↔ ∃ i, i ≤ n ∧ stand p (k.take i) = true) := by
    intro n hn
    rw [stand_split]
    constructor
    · rintro ⟨i, hi, h1, _⟩
      rw [List.length_take] at hi
      refine ⟨i, by omega, ?_⟩
      rwa [List.take_take, Nat.min_eq_left (by omega)] at h1
    · rintro ⟨i, hi, h⟩
      refine ⟨i, by rw [List.length_take]; omega, ?_, stand_hash_nil _⟩
      rwa [List.take_take, Nat.min_eq_left (by omega)]
  rw [key j hj]
  constructor
  · rintro ⟨i, hi, h⟩
    by_cases e : i = j
    · subst e; exact .inl h
    · exact .inr ⟨by omega, (key _ (by omega)).2 ⟨i, by omega, h⟩⟩
  · rintro (h | ⟨h0, h⟩)
    · exact ⟨j, Nat.le_refl _, h⟩
    · obtain ⟨i, hi, h⟩ := (key _ (by omega)).1 h
      exact ⟨i, by omega, h⟩
/-- any other word. -/
theorem stand_snoc {x : List UInt8} (hx : x ≠ [35]) (p k : List (List UInt8)) (j : Nat) (hj : j < k.length) :
    stand (p ++ [x]) (k.take (j + 1)) = true ↔ stand p (k.take j) = true ∧ (x = [42] ∨ x = k[j]) := by
  rw [stand_split]
  constructor
  · rintro ⟨i, hi, h1, h2⟩
    obtain ⟨c, cs, hk, hc, h2⟩ := (stand_cons hx _ _).1 h2
    have hcs := (stand_nil _).1 h2
    subst hcs
    rw [List.length_take, Nat.min_eq_left (by omega)] at hi
    have hlen := congrArg List.length hk
    simp only [List.length_drop, List.length_take, List.length_cons, List.length_nil] at hlen
    have hij : i = j := by omega
    subst hij
    rw [List.take_take, Nat.min_eq_left (by omega)] at h1
    refine ⟨h1, ?_⟩
    have : k[i] = c := by
      have := congrArg (fun l => l[0]?) hk
      simp only [List.getElem?_drop, Nat.add_zero, List.getElem?_take, List.getElem?_cons_zero] at this
      rw [if_pos (by omega), List.getElem?_eq_getElem hj] at this
      exact Option.some.inj this
    rw [this]; exact hc
  · rintro ⟨h1, hc⟩
    refine ⟨j, by rw [List.length_take]; omega, ?_, (stand_cons hx _ _).2 ⟨k[j], [], ?_, hc, rfl⟩⟩
    · rwa [List.take_take, Nat.min_eq_left (by omega)]
    · rw [List.drop_take, show j + 1 - j = 1 by omega, List.drop_eq_getElem_cons hj]
      rfl
theorem stand_snoc_none {x : List UInt8} (hx : x ≠ [35]) (p : List (List UInt8)) : stand (p ++ [x]) [] = false := by
  rw [Bool.eq_false_iff]
  intro h
  obtain ⟨j, hj, _, h2⟩ := (stand_split _ _ _).1 h
  obtain ⟨c, cs, hk, _⟩ := (stand_cons hx _ _).1 h2
  simp at hk

/-! ### The quick search: what is left of pattern and key, what stood behind the last cross, what the cross may yet take -/
/-- T: what is asked; p, k: what is left; pb, left: behind the last cross. -/
structure Srch (T : Bool) (p k pb left : List (List UInt8)) : Prop where
  now : T = true ↔ stand p k = true ∨ (left ≠ [] ∧ stand ([35] :: pb) left.tail = true)
  went : left = [] ∨ ∃ n, k = left.drop n ∧ ∀ s : List (List UInt8), stand pb s = true → stand p (s.drop n) = true

theorem Srch.start (p k : List (List UInt8)) : Srch (stand p k) p k [] [] := ⟨by simp, .inl rfl⟩
theorem Srch.hash {T : Bool} {p k pb left : List (List UInt8)} (h : Srch T ([35] :: p) k pb left) : Srch T p k p k := by
  refine ⟨?_, .inr ⟨0, rfl, fun s hs => hs⟩⟩
  have key : stand ([35] :: p) k = true ↔ stand p k = true ∨ (k ≠ [] ∧ stand ([35] :: p) k.tail = true) := by
    constructor
    · intro hh
      obtain ⟨i, hi⟩ := (stand_hash _ _).1 hh
      cases i with
      | zero => exact .inl hi
      | succ i =>
        cases k with
        | nil => exact .inl (by simpa using hi)
        | cons c cs => exact .inr ⟨by simp, (stand_hash _ _).2 ⟨i, by simpa using hi⟩⟩
    · rintro (hh | ⟨_, hh⟩)
      · exact stand_hash_here hh
      · exact stand_hash_drop 1 (by simpa using hh)
  rw [h.now, ← key]
  constructor
  · rintro (hh | ⟨hl, hh⟩)
    · exact hh
    · rcases h.went with rfl | ⟨n, hk, hw⟩
      · exact absurd rfl hl
      · obtain ⟨i, hi⟩ := (stand_hash _ _).1 hh
        have := hw _ hi
        rw [← List.drop_one, List.drop_drop, List.drop_drop, show 1 + (i + n) = n + (1 + i) by omega, ← List.drop_drop, ← hk] at this
        exact stand_hash_drop _ this
  · exact .inl
theorem Srch.word {T : Bool} {x c : List UInt8} {p k pb left : List (List UInt8)} (h : Srch T (x :: p) (c :: k) pb left) (hx : x ≠ [35]) (hc : x = [42] ∨ x = c) : Srch T p k pb left := by
  have e : stand (x :: p) (c :: k) = stand p k := by
    rw [Bool.eq_iff_iff, stand_cons hx]
    constructor
    · rintro ⟨d, ds, hd, _, hs⟩
      cases hd
      exact hs
    · exact fun hs => ⟨c, k, rfl, hc, hs⟩
  refine ⟨by rw [h.now, e], ?_⟩
  rcases h.went with rfl | ⟨n, hk, hw⟩
  · exact .inl rfl
  · refine .inr ⟨n + 1, ?_, fun s hs => ?_⟩
    · rw [← List.drop_drop, ← hk]; rfl
    · obtain ⟨d, ds, hd, _, hs⟩ := (stand_cons hx _ _).1 (hw s hs)
      rw [← List.drop_drop, hd]
      exact hs
theorem Srch.won {T : Bool} {pb left : List (List UInt8)} (h : Srch T [] [] pb left) : T = true := h.now.2 (.inl rfl)
/-- where they part: the cross takes a word more. -/
theorem Srch.back {T : Bool} {p k pb : List (List UInt8)} {d : List UInt8} {left : List (List UInt8)} (h : Srch T p k pb (d :: left)) (hn : stand p k = false) : Srch T pb left pb left := by
  refine ⟨?_, .inr ⟨0, rfl, fun s hs => hs⟩⟩
  rw [h.now, hn]
  constructor
  · rintro (hh | ⟨_, hh⟩)
    · cases hh
    · obtain ⟨i, hi⟩ := (stand_hash _ _).1 hh
      cases i with
      | zero => exact .inl hi
      | succ i =>
        cases left with
        | nil => exact .inl (by simpa using hi)
        | cons e es => exact .inr ⟨by simp, (stand_hash _ _).2 ⟨i, by simpa using hi⟩⟩
  · rintro (hh | ⟨hl, hh⟩)
    · exact .inr ⟨by simp, stand_hash_here hh⟩
    · exact .inr ⟨by simp, stand_hash_drop 1 (by simpa using hh)⟩
theorem Srch.lost {T : Bool} {p k pb : List (List UInt8)} (h : Srch T p k pb []) (hn : stand p k = false) : T = false := by
  rw [Bool.eq_false_iff, ne_eq, h.now, hn]
  simp

/-! ### What may be -/
def mayW (x : List UInt8) : Bool := x == [42] || x == [35] || !(x.contains 42 || x.contains 35)
def fitsB (l : List UInt8) : Bool := decide (l.length ≤ 255) && decide (l.count 46 < 20)
def mayB (l : List UInt8) : Bool := fitsB l && (wds l).all mayW
def matchB (p k : List UInt8) : Bool := mayB p && fitsB k && stand (wds p) (wds k)

/-- the document's words for it. -/
theorem mayW_eq (x : List UInt8) : mayW x = !((x.contains 42 || x.contains 35) && decide (1 < x.length)) := by
  unfold mayW
  match x with
  | [] => rfl
  | [a] =>
    by_cases h1 : a = 42
    · subst h1; decide
    · by_cases h2 : a = 35
      · subst h2; decide
      · have e1 : (42 : UInt8) ≠ a := fun h => h1 h.symm
        have e2 : (35 : UInt8) ≠ a := fun h => h2 h.symm
        simp [e1, e2]
  | a :: b :: r =>
    have e1 : (a :: b :: r == [42]) = false := by simp
    have e2 : (a :: b :: r == [35]) = false := by simp
    rw [e1, e2]
    simp
theorem fitsB_eq (l : List UInt8) : fitsB l = !(decide (20 < (wds l).length) || decide (255 < l.length)) := by
  unfold fitsB wds
  by_cases h : l = []
  · subst h; rfl
  · rw [if_neg h, spl_len]
    by_cases h1 : l.length ≤ 255 <;> by_cases h2 : l.count 46 < 20
    all_goals
      rw [Bool.eq_iff_iff]
      simp only [Bool.and_eq_true, Bool.not_eq_true', Bool.or_eq_false_iff, decide_eq_true_eq, decide_eq_false_iff_not]
      omega
end Go.Proofs.Ytifgkmaaglaffaa.Top
