/-
  Words and patterns as lists of bytes: what a text is cut into, what a pattern stands for. No function of the program is named here.
  Rows of words in memory.
-/
import Derived.Test.YtiobcgolcoocnaaGreatDoorRow
import Derived.Lib.Hide
import Derived.Lib.AppendStr
import Derived.Deep.AppendLies
import Derived.Deep.OwnRows
import Derived.Deep.Draws
import Derived.Laws.OwnMore
import Derived.Laws.MakeOwn
import Derived.OwnWalk
import Derived.IntWalk

namespace Go.Proofs.YtiobcgolcoocnaaGreatDoor.Top
set_option linter.unusedVariables false

/-- a text, cut at each point. -/
def spl : List UInt8 → List (List UInt8)
  | [] => [[]]
  | c :: r => if c = 46 then [] :: spl r else match spl r with
    | [] => [[c]]
    | x :: xs => (c :: x) :: xs
def wds (l : List UInt8) : List (List UInt8) := if l = [] then [] else spl l

theorem spl_ne (l : List UInt8) : spl l ≠ [] := by
  cases l with
  | nil => simp [spl]
  | cons c r =>
    unfold spl
    split
    · simp
    · split <;> simp
theorem spl_none : ∀ l : List UInt8, 46 ∉ l → spl l = [l]
  | [], _ => rfl
  | c :: r, h => by
    have hc : c ≠ 46 := fun e => h (by simp [e])
    have ih := spl_none r (fun e => h (by simp [e]))
    unfold spl
    rw [if_neg hc, ih]
theorem spl_at : ∀ (a b : List UInt8), 46 ∉ a → spl (a ++ 46 :: b) = a :: spl b
  | [], b, _ => by simp [spl]
  | c :: r, b, h => by
    have hc : c ≠ 46 := fun e => h (by simp [e])
    have ih := spl_at r b (fun e => h (by simp [e]))
    rw [List.cons_append, spl, if_neg hc, ih]
theorem spl_len : ∀ l : List UInt8, (spl l).length = l.count 46 + 1
  | [] => rfl
  | c :: r => by
    have ih := spl_len r
    unfold spl
    by_cases hc : c = 46
    · subst hc; simp [ih]
    · rw [if_neg hc]
      have hn := spl_ne r
      rw [List.count_cons_of_ne (by simpa using hc)]
      revert ih hn
      cases spl r with
      | nil => intro ih hn; exact absurd rfl hn
      | cons x xs => intro ih _; simpa using ih
theorem wds_nil : wds [] = [] := rfl
theorem wds_of {l : List UInt8} (h : l ≠ []) : wds l = spl l := if_neg h
/-- what the words of a text are, taken together again. -/
def joinW : List (List UInt8) → List UInt8
  | [] => []
  | [a] => a
  | a :: b :: r => a ++ 46 :: joinW (b :: r)
theorem joinW_snoc : ∀ (l : List (List UInt8)) (x : List UInt8), l ≠ [] → joinW (l ++ [x]) = joinW l ++ 46 :: x
  | [], _, h => absurd rfl h
  | [a], x, _ => by simp [joinW]
  | a :: b :: r, x, _ => by
    have ih := joinW_snoc (b :: r) x (by simp)
    show a ++ 46 :: joinW (b :: (r ++ [x])) = (a ++ 46 :: joinW (b :: r)) ++ 46 :: x
    rw [show b :: (r ++ [x]) = (b :: r) ++ [x] from rfl, ih]
    simp
theorem joinW_spl : ∀ l : List UInt8, joinW (spl l) = l
  | [] => rfl
  | c :: r => by
    have ih := joinW_spl r
    have hn := spl_ne r
    unfold spl
    by_cases hc : c = 46
    · subst hc
      rw [if_pos rfl]
      revert ih hn
      cases hs : spl r with
      | nil => intro _ hn; exact absurd rfl hn
      | cons x xs => intro ih _; show [] ++ 46 :: joinW (x :: xs) = _; rw [ih]; rfl
    · rw [if_neg hc]
      revert ih hn
      cases hs : spl r with
      | nil => intro _ hn; exact absurd rfl hn
      | cons x xs =>
        intro ih _
        show joinW ((c :: x) :: xs) = c :: r
        rw [← ih]
        cases xs <;> rfl
theorem joinW_wds (l : List UInt8) : joinW (wds l) = l := by
  unfold wds
  split
  · rename_i h; rw [h]; rfl
  · exact joinW_spl l
theorem spl_joinW : ∀ l : List (List UInt8), l ≠ [] → (∀ x ∈ l, 46 ∉ x) → spl (joinW l) = l
  | [], h, _ => absurd rfl h
  | [a], _, h => spl_none a (h a (by simp))
  | a :: b :: r, _, h => by
    show spl (a ++ 46 :: joinW (b :: r)) = _
    rw [spl_at _ _ (h a (by simp)), spl_joinW (b :: r) (by simp) (fun x hx => h x (by simp [hx]))]
theorem joinW_ne : ∀ l : List (List UInt8), l ≠ [] → (∀ x ∈ l, x ≠ []) → joinW l ≠ []
  | [], h, _ => absurd rfl h
  | [a], _, h => h a (by simp)
  | a :: b :: r, _, h => by simp [joinW]
theorem wds_joinW {l : List (List UInt8)} (h : ∀ x ∈ l, 46 ∉ x) (h1 : ∀ x ∈ l, x ≠ []) : wds (joinW l) = l := by
  cases l with
  | nil => rfl
  | cons a r => rw [wds_of (joinW_ne _ (by simp) h1), spl_joinW _ (by simp) h]

/-! ### Patterns -/
/-- what a row of a pattern's words stands for. -/
def stand : List (List UInt8) → List (List UInt8) → Bool
  | [], k => k.isEmpty
  | p :: ps, k => if p = [35] then (List.range (k.length + 1)).any (fun i => stand ps (k.drop i)) else match k with
    | [] => false
    | c :: cs => (p == [42] || p == c) && stand ps cs

theorem stand_eq (p : List UInt8) (ps k : List (List UInt8)) : stand (p :: ps) k = (if p = [35] then (List.range (k.length + 1)).any (fun i => stand ps (k.drop i)) else match k with
    | [] => false
    | c :: cs => (p == [42] || p == c) && stand ps cs) := by cases k <;> rfl
theorem stand_nil (k : List (List UInt8)) : stand [] k = true ↔ k = [] := by simp [stand]
theorem stand_hash (ps k : List (List UInt8)) : stand ([35] :: ps) k = true ↔ ∃ i, stand ps (k.drop i) = true := by
  rw [stand_eq, if_pos rfl, List.any_eq_true]
  constructor
  · rintro ⟨i, _, h⟩; exact ⟨i, h⟩
  · rintro ⟨i, h⟩
    by_cases hi : i ≤ k.length
    · exact ⟨i, by simp; omega, h⟩
    · refine ⟨k.length, by simp, ?_⟩
      rw [List.drop_eq_nil_of_le (Nat.le_refl _)]
      rwa [List.drop_eq_nil_of_le (by omega)] at h
theorem stand_cons {p : List UInt8} (hp : p ≠ [35]) (ps k : List (List UInt8)) : stand (p :: ps) k = true ↔ ∃ c cs, k = c :: cs ∧ (p = [42] ∨ p = c) ∧ stand ps cs = true := by
  rw [stand_eq, if_neg hp]
  cases k with
  | nil => simp
  | cons c cs =>
    constructor
    · intro h
      simp only [Bool.and_eq_true, Bool.or_eq_true, beq_iff_eq] at h
      exact ⟨c, cs, rfl, h⟩
    · rintro ⟨d, ds, h, h'⟩
      cases h
      simpa using h'
theorem stand_hash_nil (k : List (List UInt8)) : stand [[35]] k = true := (stand_hash _ _).2 ⟨k.length, by simp [stand]⟩
theorem stand_hash_here {ps k : List (List UInt8)} (h : stand ps k = true) : stand ([35] :: ps) k = true := (stand_hash _ _).2 ⟨0, h⟩
theorem stand_hash_drop {ps k : List (List UInt8)} (n : Nat) (h : stand ([35] :: ps) (k.drop n) = true) : stand ([35] :: ps) k = true := by
  obtain ⟨i, h⟩ := (stand_hash _ _).1 h
  exact (stand_hash _ _).2 ⟨n + i, by rwa [List.drop_drop] at h⟩
theorem stand_split : ∀ (p q k : List (List UInt8)), stand (p ++ q) k = true ↔ ∃ j, j ≤ k.length ∧ stand p (k.take j) = true ∧ stand q (k.drop j) = true
  | [], q, k => by
    constructor
    · intro h; exact ⟨0, Nat.zero_le _, by simp [stand], by simpa using h⟩
    · rintro ⟨j, hj, h1, h2⟩
      have := (stand_nil _).1 h1
      have h0 : j = 0 ∨ k = [] := by simpa using this
      rcases h0 with rfl | rfl
      · simpa using h2
      · simpa using h2
  | p :: ps, q, k => by
    by_cases hp : p = [35]
    · subst hp
      rw [List.cons_append, stand_hash]
      constructor
      · rintro ⟨i, h⟩
        by_cases hi : i ≤ k.length
        · obtain ⟨j, hj, h1, h2⟩ := (stand_split ps q _).1 h
          rw [List.length_drop] at hj
          refine ⟨i + j, by omega, (stand_hash _ _).2 ⟨i, ?_⟩, by rwa [List.drop_drop] at h2⟩
          rw [List.drop_take, Nat.add_sub_cancel_left]; exact h1
        · rw [List.drop_eq_nil_of_le (by omega)] at h
          obtain ⟨j, hj, h1, h2⟩ := (stand_split ps q _).1 h
          refine ⟨k.length, Nat.le_refl _, (stand_hash _ _).2 ⟨k.length, ?_⟩, ?_⟩
          · rw [List.take_length, List.drop_eq_nil_of_le (Nat.le_refl _)]; simpa using h1
          · rw [List.drop_eq_nil_of_le (Nat.le_refl _)]; simpa using h2
      · rintro ⟨j, hj, h1, h2⟩
        obtain ⟨i, h1⟩ := (stand_hash _ _).1 h1
        by_cases hi : i ≤ j
        · refine ⟨i, (stand_split ps q _).2 ⟨j - i, by rw [List.length_drop]; omega, ?_, ?_⟩⟩
          · rw [List.drop_take] at h1; exact h1
          · rw [List.drop_drop, show i + (j - i) = j by omega]; exact h2
        · refine ⟨j, (stand_split ps q _).2 ⟨0, Nat.zero_le _, ?_, by simpa using h2⟩⟩
          rw [List.drop_eq_nil_of_le (by rw [List.length_take]; omega)] at h1
          simpa using h1
    · rw [List.cons_append, stand_cons hp]
      constructor
      · rintro ⟨c, cs, rfl, hc, h⟩
        obtain ⟨j, hj, h1, h2⟩ := (stand_split ps q _).1 h
        exact ⟨j + 1, by simpa using hj, (stand_cons hp _ _).2 ⟨c, cs.take j, rfl, hc, h1⟩, h2⟩
      · rintro ⟨j, hj, h1, h2⟩
        obtain ⟨c, cs, hk, hc, h1⟩ := (stand_cons hp _ _).1 h1
        cases k with
        | nil => simp at hk
        | cons d ds =>
          cases j with
          | zero => simp at hk
          | succ j =>
            simp only [List.take_succ_cons, List.cons.injEq] at hk
            obtain ⟨rfl, rfl⟩ := hk
            exact ⟨d, ds, rfl, hc, (stand_split ps q _).2 ⟨j, by simpa using hj, h1, h2⟩⟩

/-- one word more of the pattern, by the beginnings of the key: a cross. -/
theorem stand_snoc_hash (p k : List (List UInt8)) (j : Nat) (hj : j ≤ k.length) :
    stand (p ++ [[35]]) (k.take j) = true ↔ stand p (k.take j) = true ∨ (0 < j ∧ stand (p ++ [[35]]) (k.take (j - 1)) = true) := by
  have key : ∀ n, n ≤ k.length → (stand (p ++ [[35]]) (k.take n) = true ↔ ∃ i, i ≤ n ∧ stand p (k.take i) = true) := by
    intro n hn
    rw [stand_split]
    constructor
    · rintro ⟨i, hi, h1, _⟩
      rw [List.length_take] at hi
      refine ⟨i, by omega, ?_⟩
      rwa [List.take_take, Nat.min_eq_left (by omega)] at h1
    · rintro ⟨i, hi, h⟩
      refine ⟨i, by rw [List.length_take]; omega, ?_, stand_hash_nil _⟩
      rwa [List.take_take, Nat.min_eq_left (by omega)]
  rw [key j hj]
  constructor
  · rintro ⟨i, hi, h⟩
    by_cases e : i = j
    · subst e; exact .inl h
    · exact .inr ⟨by omega, (key _ (by omega)).2 ⟨i, by omega, h⟩⟩
  · rintro (h | ⟨h0, h⟩)
    · exact ⟨j, Nat.le_refl _, h⟩
    · obtain ⟨i, hi, h⟩ := (key _ (by omega)).1 h
      exact ⟨i, by omega, h⟩
/-- any other word. -/
theorem stand_snoc {x : List UInt8} (hx : x ≠ [35]) (p k : List (List UInt8)) (j : Nat) (hj : j < k.length) :
    stand (p ++ [x]) (k.take (j + 1)) = true ↔ stand p (k.take j) = true ∧ (x = [42] ∨ x = k[j]) := by
  rw [stand_split]
  constructor
  · rintro ⟨i, hi, h1, h2⟩
    obtain ⟨c, cs, hk, hc, h2⟩ := (stand_cons hx _ _).1 h2
    have hcs := (stand_nil _).1 h2
    subst hcs
    rw [List.length_take, Nat.min_eq_left (by omega)] at hi
    have hlen := congrArg List.length hk
    simp only [List.length_drop, List.length_take, List.length_cons, List.length_nil] at hlen
    have hij : i = j := by omega
    subst hij
    rw [List.take_take, Nat.min_eq_left (by omega)] at h1
    refine ⟨h1, ?_⟩
    have : k[i] = c := by
      have := congrArg (fun l => l[0]?) hk
      simp only [List.getElem?_drop, Nat.add_zero, List.getElem?_take, List.getElem?_cons_zero] at this
      rw [if_pos (by omega), List.getElem?_eq_getElem hj] at this
      exact Option.some.inj this
    rw [this]; exact hc
  · rintro ⟨h1, hc⟩
    refine ⟨j, by rw [List.length_take]; omega, ?_, (stand_cons hx _ _).2 ⟨k[j], [], ?_, hc, rfl⟩⟩
    · rwa [List.take_take, Nat.min_eq_left (by omega)]
    · rw [List.drop_take, show j + 1 - j = 1 by omega, List.drop_eq_getElem_cons hj]
      rfl
theorem stand_snoc_none {x : List UInt8} (hx : x ≠ [35]) (p : List (List UInt8)) : stand (p ++ [x]) [] = false := by
  rw [Bool.eq_false_iff]
  intro h
  obtain ⟨j, hj, _, h2⟩ := (stand_split _ _ _).1 h
  obtain ⟨c, cs, hk, _⟩ := (stand_cons hx _ _).1 h2
  simp at hk

/-! ### The quick search: what is left of pattern and key, what stood behind the last cross, what the cross may yet take -/
/-- T: what is asked; p, k: what is left; pb, left: behind the last cross. -/
structure Srch (T : Bool) (p k pb left : List (List UInt8)) : Prop where
  now : T = true ↔ stand p k = true ∨ (left ≠ [] ∧ stand ([35] :: pb) left.tail = true)
  went : left = [] ∨ ∃ n, k = left.drop n ∧ ∀ s : List (List UInt8), stand pb s = true → stand p (s.drop n) = true

theorem Srch.start (p k : List (List UInt8)) : Srch (stand p k) p k [] [] := ⟨by simp, .inl rfl⟩
theorem Srch.hash {T : Bool} {p k pb left : List (List UInt8)} (h : Srch T ([35] :: p) k pb left) : Srch T p k p k := by
  refine ⟨?_, .inr ⟨0, rfl, fun s hs => hs⟩⟩
  have key : stand ([35] :: p) k = true ↔ stand p k = true ∨ (k ≠ [] ∧ stand ([35] :: p) k.tail = true) := by
    constructor
    · intro hh
      obtain ⟨i, hi⟩ := (stand_hash _ _).1 hh
      cases i with
      | zero => exact .inl hi
      | succ i =>
        cases k with
        | nil => exact .inl (by simpa using hi)
        | cons c cs => exact .inr ⟨by simp, (stand_hash _ _).2 ⟨i, by simpa using hi⟩⟩
    · rintro (hh | ⟨_, hh⟩)
      · exact stand_hash_here hh
      · exact stand_hash_drop 1 (by simpa using hh)
  rw [h.now, ← key]
  constructor
  · rintro (hh | ⟨hl, hh⟩)
    · exact hh
    · rcases h.went with rfl | ⟨n, hk, hw⟩
      · exact absurd rfl hl
      · obtain ⟨i, hi⟩ := (stand_hash _ _).1 hh
        have := hw _ hi
        rw [← List.drop_one, List.drop_drop, List.drop_drop, show 1 + (i + n) = n + (1 + i) by omega, ← List.drop_drop, ← hk] at this
        exact stand_hash_drop _ this
  · exact .inl
theorem Srch.word {T : Bool} {x c : List UInt8} {p k pb left : List (List UInt8)} (h : Srch T (x :: p) (c :: k) pb left) (hx : x ≠ [35]) (hc : x = [42] ∨ x = c) : Srch T p k pb left := by
  have e : stand (x :: p) (c :: k) = stand p k := by
    rw [Bool.eq_iff_iff, stand_cons hx]
    constructor
    · rintro ⟨d, ds, hd, _, hs⟩
      cases hd
      exact hs
    · exact fun hs => ⟨c, k, rfl, hc, hs⟩
  refine ⟨by rw [h.now, e], ?_⟩
  rcases h.went with rfl | ⟨n, hk, hw⟩
  · exact .inl rfl
  · refine .inr ⟨n + 1, ?_, fun s hs => ?_⟩
    · rw [← List.drop_drop, ← hk]; rfl
    · obtain ⟨d, ds, hd, _, hs⟩ := (stand_cons hx _ _).1 (hw s hs)
      rw [← List.drop_drop, hd]
      exact hs
theorem Srch.won {T : Bool} {pb left : List (List UInt8)} (h : Srch T [] [] pb left) : T = true := h.now.2 (.inl rfl)
/-- where they part: the cross takes a word more. -/
theorem Srch.back {T : Bool} {p k pb : List (List UInt8)} {d : List UInt8} {left : List (List UInt8)} (h : Srch T p k pb (d :: left)) (hn : stand p k = false) : Srch T pb left pb left := by
  refine ⟨?_, .inr ⟨0, rfl, fun s hs => hs⟩⟩
  rw [h.now, hn]
  constructor
  · rintro (hh | ⟨_, hh⟩)
    · cases hh
    · obtain ⟨i, hi⟩ := (stand_hash _ _).1 hh
      cases i with
      | zero => exact .inl hi
      | succ i =>
        cases left with
        | nil => exact .inl (by simpa using hi)
        | cons e es => exact .inr ⟨by simp, (stand_hash _ _).2 ⟨i, by simpa using hi⟩⟩
  · rintro (hh | ⟨hl, hh⟩)
    · exact .inr ⟨by simp, stand_hash_here hh⟩
    · exact .inr ⟨by simp, stand_hash_drop 1 (by simpa using hh)⟩
theorem Srch.lost {T : Bool} {p k pb : List (List UInt8)} (h : Srch T p k pb []) (hn : stand p k = false) : T = false := by
  rw [Bool.eq_false_iff, ne_eq, h.now, hn]
  simp

/-! ### What may be -/
def mayW (x : List UInt8) : Bool := x == [42] || x == [35] || !(x.contains 42 || x.contains 35)
def fitsB (l : List UInt8) : Bool := decide (l.length ≤ 255) && decide (l.count 46 < 20)
def mayB (l : List UInt8) : Bool := fitsB l && (wds l).all mayW
def matchB (p k : List UInt8) : Bool := mayB p && fitsB k && stand (wds p) (wds k)

/-- the document's words for it. -/
theorem mayW_eq (x : List UInt8) : mayW x = !((x.contains 42 || x.contains 35) && decide (1 < x.length)) := by
  unfold mayW
  match x with
  | [] => rfl
  | [a] =>
    by_cases h1 : a = 42
    · subst h1; decide
    · by_cases h2 : a = 35
      · subst h2; decide
      · have e1 : (42 : UInt8) ≠ a := fun h => h1 h.symm
        have e2 : (35 : UInt8) ≠ a := fun h => h2 h.symm
        simp [e1, e2]
  | a :: b :: r =>
    have e1 : (a :: b :: r == [42]) = false := by simp
    have e2 : (a :: b :: r == [35]) = false := by simp
    rw [e1, e2]
    simp
theorem fitsB_eq (l : List UInt8) : fitsB l = !(decide (20 < (wds l).length) || decide (255 < l.length)) := by
  unfold fitsB wds
  by_cases h : l = []
  · subst h; rfl
  · rw [if_neg h, spl_len]
    by_cases h1 : l.length ≤ 255 <;> by_cases h2 : l.count 46 < 20
    all_goals
      rw [Bool.eq_iff_iff]
      simp only [Bool.and_eq_true, Bool.not_eq_true', Bool.or_eq_false_iff, decide_eq_true_eq, decide_eq_false_iff_not]
      omega
end Go.Proofs.YtiobcgolcoocnaaGreatDoor.Top

namespace Go.Proofs.YtiobcgolcoocnaaGreatDoor.Top
open Go.RowKit
set_option linter.unusedVariables false

theorem lt_of_cell {w : World} {b o : Nat} {v : Value} (h : w.cell? ⟨b, o, none⟩ = some v) : b < w.heap.size := World.block_lt_of_cell? w (⟨b, o, none⟩ : Addr) h

theorem alloc_before {w w1 : World} {row : Option Nat} {o : Obj} (h : (w.alloc o).grownBy w1 row) : w.grownBy w1 row :=
  ⟨h.os, h.tape, h.output, Nat.le_trans (by simp) h.size, fun k hk hne => (h.block k (by simp; omega) hne).trans (Below.heap_alloc w o k hk)⟩

theorem World.ownsRow.below1 {w w' : World} {base : Nat} {t : TypeId} {n k : Nat} {v : Value} {xs : List Value} (h : w.ownsRow base t n v k xs) (hb : Below w.heap.size w w') : w'.ownsRow base t n v k xs := by
  refine ⟨h.1, ?_⟩
  rcases h.2 with h1 | ⟨g, cap, cur, hv, hbg, hg, r⟩
  · exact .inl h1
  · exact .inr ⟨g, cap, cur, hv, hbg, (hb.block g (Array.getElem?_eq_some_iff.1 hg).1).trans hg, r⟩

/-- a word as the program holds it. -/
def str (l : List UInt8) : Value := .string ⟨l.toArray⟩
theorem str_inj {l m : List UInt8} (h : str l = str m) : l = m := by
  unfold str at h
  injection h with h
  injection h with h
  simpa using h
theorem list_ext (l : List UInt8) (i j : Nat) : (⟨l.toArray⟩ : ByteArray).extract i j = ⟨((l.drop i).take (j - i)).toArray⟩ := by
  have e : ((⟨l.toArray⟩ : ByteArray).extract i j).data.toList = (l.drop i).take (j - i) := by
    rw [ByteArray.data_extract, Array.toList_extract]
  generalize (⟨l.toArray⟩ : ByteArray).extract i j = x at e
  obtain ⟨⟨y⟩⟩ := x
  rw [show y = _ from e]
theorem cat_list (l l' : List UInt8) : (⟨l.toArray⟩ : ByteArray) ++ ⟨l'.toArray⟩ = ⟨(l ++ l').toArray⟩ := by
  rw [ByteArray.mk_append_mk]
theorem list_same (l m : List UInt8) : ((⟨l.toArray⟩ : ByteArray).toList == (⟨m.toArray⟩ : ByteArray).toList) = (l == m) := by
  rw [ByteArray.toList_eq, ByteArray.toList_eq]
theorem list_tl (l : List UInt8) : (⟨l.toArray⟩ : ByteArray).toList = l := by
  rw [ByteArray.toList_eq]

/-- a slice of these words. -/
structure StrsAt (w : World) (a : Option Addr) (cap : Nat) (l : List (List UInt8)) : Prop where
  len : l.length ≤ cap
  at' : 0 < l.length → ∃ b o, a = some ⟨b, o, none⟩ ∧ ∀ (j : Nat) (h : j < l.length), w.cell? ⟨b, o + j, none⟩ = some (str l[j])
theorem StrsAt.nil (w : World) (a : Option Addr) (cap : Nat) : StrsAt w a cap [] := ⟨Nat.zero_le _, fun h => by simp at h⟩
theorem StrsAt.below {w w' : World} {a : Option Addr} {cap : Nat} {l : List (List UInt8)} (h : StrsAt w a cap l) (hb : Below w.heap.size w w') : StrsAt w' a cap l := by
  refine ⟨h.len, fun h0 => ?_⟩
  obtain ⟨b, o, ha, hc⟩ := h.at' h0
  exact ⟨b, o, ha, fun j hj => (hb.cell (p := ⟨b, o + j, none⟩) (lt_of_cell (hc j hj))).trans (hc j hj)⟩
/-- the first word, and the others. -/
theorem StrsAt.head {w : World} {a : Option Addr} {cap : Nat} {x : List UInt8} {l : List (List UInt8)} (h : StrsAt w a cap (x :: l)) (hcap : cap ≤ maxLen) :
    ∃ b o a', a = some ⟨b, o, none⟩ ∧ w.cell? ⟨b, o, none⟩ = some (.string ⟨x.toArray⟩) ∧ StrsAt w a' (cap - 1) l ∧ 1 ≤ cap ∧
      (∀ wx, (Instr.slice 36 (.slice (some ⟨b, o, none⟩) (l.length + 1) cap) (some (.int .i64 1)) none none).run Tryz.prog wx = .ok (.slice a' l.length (cap - 1)) wx) := by
  obtain ⟨b, o, ha, hc⟩ := h.at' (by simp)
  have hlen := h.len
  simp only [List.length_cons] at hlen
  refine ⟨b, o, some (if cap = 1 then ⟨b, o, none⟩ else ⟨b, o + 1, none⟩), ha, hc 0 (by simp), ⟨by omega, fun h0 => ⟨b, o + 1, by rw [if_neg (by omega)], fun j hj => ?_⟩⟩, by omega, fun wx => ?_⟩
  · have := hc (j + 1) (by simpa using hj)
    rw [show o + 1 + j = o + (j + 1) by omega]
    simpa using this
  · have hz : ∀ w, (Go.sizeOf 9).run Tryz.prog w = .ok 1 w := fun w => by kernel_rfl
    simp [Instr.slice, Instr.sliceBounds, Instr.sliceBound, asIntOf, run_underlying Tryz.underlying36, hz]
    rw [if_pos (by omega), add_at]
    by_cases h1 : cap = 1
    · rw [if_pos h1, if_pos h1]
    · rw [if_neg h1, if_neg h1]

/-- a row of the call's own. -/
def Own (w : World) (base : Nat) (v : Value) (l : List (List UInt8)) : Prop := w.ownsRow base 9 1 v l.length (l.map str)
theorem Own.nil (w : World) (base : Nat) : Own w base (.slice none 0 0) [] := World.ownsRow_nil w base _ _
theorem Own.form {w : World} {base : Nat} {v : Value} {l : List (List UInt8)} (h : Own w base v l) : ∃ a c, v = .slice a l.length c := by
  rcases h.2 with ⟨rfl, hn⟩ | ⟨g, cap, cur, rfl, _⟩
  · exact ⟨none, 0, by rw [hn]⟩
  · exact ⟨_, _, rfl⟩
theorem Own.strs {w : World} {base : Nat} {v : Value} {l : List (List UInt8)} (h : Own w base v l) : ∃ a cap, v = .slice a l.length cap ∧ cap ≤ maxLen ∧ StrsAt w a cap l := by
  rcases h.2 with ⟨rfl, hn⟩ | ⟨g, cap, cur, rfl, hbg, hg, hnc, hcm, hcs, htake⟩
  · obtain rfl : l = [] := List.eq_nil_of_length_eq_zero hn
    exact ⟨none, 0, rfl, by simp [maxLen], StrsAt.nil _ _ _⟩
  · refine ⟨_, cap, rfl, hcm, hnc, fun _ => ⟨g, 0, rfl, fun i hi => ?_⟩⟩
    rw [Nat.zero_add, cell_of_row w _ _ _ _ _ hg]
    have : cur.toList[i]? = (l.map str)[i]? := by rw [← htake, List.getElem?_take, if_pos (by omega)]
    rw [← Array.getElem?_toList, this]
    simp [List.getElem?_eq_getElem hi]
theorem str_info : (Tryz.prog.info? 9).map (fun i => (i.zero, i.size, i.bytes)) = some (some (.string ⟨#[]⟩), 1, 16) := by kernel_rfl

/-- a word more: it lies in the block made last. -/
theorem put_str {ops : Array Oper} {rest : List Oper} {o : Oper} {a : Act} {Q : Exit → Act → World → Prop} {w : World} {base : Nat} {v : Value} {l : List (List UInt8)} (x : List UInt8) (hgd : o.guard = none) (s y : Operand)
    (ho : o.op = .call { callee := .builtin .append, args := #[s, y], argTypes := #[36, 36] }) (hb : Own w base v l) (hbase : base ≤ w.heap.size) (hl : l.length ≤ 1000000000)
    (hs : a.eval s = v) (H : Nat) (hH : w.heap.size = H) (hx : a.eval y = .slice (some ⟨H, 0, none⟩) 1 1)
    (h : ∀ g cap w', Own w' base (.slice (some ⟨g, 0, none⟩) (l.length + 1) cap) (l ++ [x]) → w.grownBy w' v.ownBlock → (v.ownBlock = some g ∨ w.heap.size ≤ g) →
      wpList Tryz.prog ops Q rest (a.put o.dst (.slice (some ⟨g, 0, none⟩) (l.length + 1) cap)) w') :
    wpList Tryz.prog ops Q (o :: rest) a (w.alloc (.cells #[.string ⟨x.toArray⟩] 9)) := by
  subst hH
  obtain ⟨i0, hi, hz0, hz1, hz2⟩ := info_parts str_info
  have hb' := World.ownsRow.alloc hb (.cells #[.string ⟨x.toArray⟩] 9)
  have hone : ∀ u ∈ [str x], u.oneCell' = true := by
    intro u hu
    simp only [List.mem_cons, List.not_mem_nil, or_false] at hu
    subst hu
    rfl
  refine wpList_append_lies _ hgd s y 36 ho base 9 i0 _ 1 16 Tryz.underlying36 hi hz0 hz1 hz2 rfl (by decide) v l.length (l.map str) hs hb' ⟨w.heap.size, 0, none⟩ 1 1 [str x] hx (by simp) (World.news_of_block (heap_alloc_new w _)) hone (by decide) (by unfold maxLen; omega) (by omega) (by simp; omega) _ rfl ?_
  intro g cap w' hown hg hat hlt
  refine h g cap w' ?_ (alloc_before hg) ?_
  · unfold Own
    rw [List.length_append, List.map_append]
    simpa using hown
  · rcases hat with h1 | h1
    · exact .inl h1
    · exact .inr (by simp at h1; omega)
theorem Own.grown {w w' w0 : World} {base : Nat} {v : Value} {l : List (List UInt8)} (h : Below base w0 w) (hb : Own w base v l) (hg : w.grownBy w' v.ownBlock) (hbase : base ≤ w.heap.size) : Below base w0 w' :=
  h.grown hg hbase (fun k e => (World.ownsRow.lt hb k e).1)
/-- make: room for so many. -/
theorem make_own (w : World) (n : Nat) (hn : n ≤ 1000000000) :
    (Instr.makeSlice 36 (.int .i64 0) (.int .i64 n)).run Tryz.prog w = .ok (.slice (some ⟨w.heap.size, 0, none⟩) 0 n) (w.alloc (.cells (madeCells #[.string ⟨#[]⟩] n) 9)) ∧
      Own (w.alloc (.cells (madeCells #[.string ⟨#[]⟩] n) 9)) w.heap.size (.slice (some ⟨w.heap.size, 0, none⟩) 0 n) [] := by
  obtain ⟨i0, hi, hz0, hz1, hz2⟩ := info_parts str_info
  have hr := run_make (P := Tryz.prog) (w := w) 36 9 i0 _ Tryz.underlying36 hi hz0 .i64 .i64 0 n (by omega) (by omega) (by rw [hz2]; omega) (by omega)
  rw [hz1] at hr
  have e : ((n : Int).toNat * 1) = n := by simp
  refine ⟨by rw [hr, e]; rfl, rfl, .inr ⟨w.heap.size, n, _, rfl, Nat.le_refl _, heap_alloc_new w _, Nat.zero_le _, by unfold maxLen; omega, ?_, by simp⟩⟩
  simp [madeCells]
theorem Own.lt {w : World} {base : Nat} {v : Value} {l : List (List UInt8)} (h : Own w base v l) (g : Nat) (e : v.ownBlock = some g) : g < w.heap.size := (World.ownsRow.lt h g e).2
/-- another row than this one was put on. -/
theorem Own.other {w w' : World} {base : Nat} {v : Value} {l : List (List UInt8)} {row : Option Nat} (h : Own w base v l) (hg : w.grownBy w' row) (hne : ∀ g, v.ownBlock = some g → row ≠ some g) : Own w' base v l := by
  refine ⟨h.1, ?_⟩
  rcases h.2 with h1 | ⟨g, cap, cur, hv, hbg, hgg, r⟩
  · exact .inl h1
  · refine .inr ⟨g, cap, cur, hv, hbg, (hg.block g (Array.getElem?_eq_some_iff.1 hgg).1 ?_).trans hgg, r⟩
    have := hne g (by rw [hv]; rfl)
    exact fun e => this e.symm

/-- two rows of the call's own, in unlike blocks. -/
structure Pair (W w : World) (v : Value) (l : List (List UInt8)) (v' : Value) (l' : List (List UInt8)) : Prop where
  one : Own w W.heap.size v l
  two : Own w W.heap.size v' l'
  ne : ∀ g, v.ownBlock = some g → v'.ownBlock ≠ some g
  below : Below W.heap.size W w
theorem Pair.put1 {W w w' : World} {v : Value} {l : List (List UInt8)} {v' : Value} {l' : List (List UInt8)} (h : Pair W w v l v' l') {g n cap : Nat} {m : List (List UInt8)} (ho : Own w' W.heap.size (.slice (some ⟨g, 0, none⟩) n cap) m) (hg : w.grownBy w' v.ownBlock) (hat : v.ownBlock = some g ∨ w.heap.size ≤ g) :
    Pair W w' (.slice (some ⟨g, 0, none⟩) n cap) m v' l' := by
  refine ⟨ho, h.two.other hg fun k e e' => h.ne k e' e, fun k e e' => ?_, Own.grown h.below h.one hg h.below.size⟩
  have ek : g = k := by simpa [Value.ownBlock] using e
  subst ek
  rcases hat with h1 | h1
  · exact h.ne _ h1 e'
  · have := h.two.lt _ e'; omega
theorem Pair.swap {W w : World} {v : Value} {l : List (List UInt8)} {v' : Value} {l' : List (List UInt8)} (h : Pair W w v l v' l') : Pair W w v' l' v l :=
  ⟨h.two, h.one, fun g e e' => h.ne g e' e, h.below⟩
theorem Pair.put2 {W w w' : World} {v : Value} {l : List (List UInt8)} {v' : Value} {l' : List (List UInt8)} (h : Pair W w v l v' l') {g n cap : Nat} {m : List (List UInt8)} (ho : Own w' W.heap.size (.slice (some ⟨g, 0, none⟩) n cap) m) (hg : w.grownBy w' v'.ownBlock) (hat : v'.ownBlock = some g ∨ w.heap.size ≤ g) :
    Pair W w' v l (.slice (some ⟨g, 0, none⟩) n cap) m := (h.swap.put1 ho hg hat).swap
theorem Pair.nil (W : World) : Pair W W (.slice none 0 0) [] (.slice none 0 0) [] := ⟨Own.nil _ _, Own.nil _ _, fun g h => (by cases h), Below.refl _ _⟩

/-- two words more: they lie in the block made last. -/
theorem put_str2 {ops : Array Oper} {rest : List Oper} {o : Oper} {a : Act} {Q : Exit → Act → World → Prop} {w : World} {base : Nat} {v : Value} {l : List (List UInt8)} (x y : List UInt8) (hgd : o.guard = none) (s z : Operand)
    (ho : o.op = .call { callee := .builtin .append, args := #[s, z], argTypes := #[36, 36] }) (hb : Own w base v l) (hbase : base ≤ w.heap.size) (hl : l.length ≤ 1000000000)
    (hs : a.eval s = v) (H : Nat) (hH : w.heap.size = H) (hx : a.eval z = .slice (some ⟨H, 0, none⟩) 2 2)
    (h : ∀ g cap w', Own w' base (.slice (some ⟨g, 0, none⟩) (l.length + 2) cap) (l ++ [x, y]) → w.grownBy w' v.ownBlock → (v.ownBlock = some g ∨ w.heap.size ≤ g) →
      wpList Tryz.prog ops Q rest (a.put o.dst (.slice (some ⟨g, 0, none⟩) (l.length + 2) cap)) w') :
    wpList Tryz.prog ops Q (o :: rest) a (w.alloc (.cells #[.string ⟨x.toArray⟩, .string ⟨y.toArray⟩] 9)) := by
  subst hH
  obtain ⟨i0, hi, hz0, hz1, hz2⟩ := info_parts str_info
  have hb' := World.ownsRow.alloc hb (.cells #[.string ⟨x.toArray⟩, .string ⟨y.toArray⟩] 9)
  have hone : ∀ u ∈ [str x, str y], u.oneCell' = true := by
    intro u hu
    simp only [List.mem_cons, List.not_mem_nil, or_false] at hu
    rcases hu with rfl | rfl <;> rfl
  refine wpList_append_lies _ hgd s z 36 ho base 9 i0 _ 1 16 Tryz.underlying36 hi hz0 hz1 hz2 rfl (by decide) v l.length (l.map str) hs hb' ⟨w.heap.size, 0, none⟩ 2 2 [str x, str y] hx (by simp) (World.news_of_block (heap_alloc_new w _)) hone (by decide) (by unfold maxLen; omega) (by omega) (by simp; omega) _ rfl ?_
  intro g cap w' hown hg hat hlt
  refine h g cap w' ?_ (alloc_before hg) ?_
  · unfold Own
    rw [List.length_append, List.map_append]
    simpa using hown
  · rcases hat with h1 | h1
    · exact .inl h1
    · exact .inr (by simp at h1; omega)

theorem Pair.to {W w w' : World} {v : Value} {l : List (List UInt8)} {v' : Value} {l' : List (List UInt8)} (h : Pair W w v l v' l') (hb : Below w.heap.size w w') : Pair W w' v l v' l' :=
  ⟨World.ownsRow.below1 h.one hb, World.ownsRow.below1 h.two hb, h.ne, h.below.trans (hb.mono h.below.size)⟩

end Go.Proofs.YtiobcgolcoocnaaGreatDoor.Top
