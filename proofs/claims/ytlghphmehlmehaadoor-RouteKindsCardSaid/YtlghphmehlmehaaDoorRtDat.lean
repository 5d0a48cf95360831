/-
  Exchanges and bindings as plain data, and what package route does with them.
-/
import Derived.Test.YtlghphmehlmehaaDoorTDat
namespace Go.Proofs.YtlghphmehlmehaaDoor.Rt
open Top
set_option linter.unusedVariables false

/-- an exchange. -/
structure Ex where
  name : List UInt8
  kind : Int
instance : DecidableEq Ex := fun a b =>
  decidable_of_iff (a.name = b.name ∧ a.kind = b.kind) ⟨fun h => by cases a; cases b; simpa using h, fun h => by subst h; exact ⟨rfl, rfl⟩⟩
/-- a binding. -/
structure Bd where
  ex : List UInt8
  q : List UInt8
  key : List UInt8
  wt : Int
instance : DecidableEq Bd := fun a b =>
  decidable_of_iff (a.ex = b.ex ∧ a.q = b.q ∧ a.key = b.key ∧ a.wt = b.wt) ⟨fun h => by cases a; cases b; simpa using h, fun h => by subst h; exact ⟨rfl, rfl, rfl, rfl⟩⟩

/-- the place of the first that is so, or -1. -/
def pl (o : Option Nat) : Int := match o with | none => -1 | some i => (i : Int)
def fnd (n : List UInt8) (x : List Ex) : Option Nat := x.findIdx? fun e => decide (e.name = n)
/-- alike but for the weight. -/
def lk (b c : Bd) : Bool := decide (c.ex = b.ex ∧ c.q = b.q ∧ c.key = b.key)
def alk (b : Bd) (l : List Bd) : Option Nat := l.findIdx? (lk b)

theorem pl_some (o : Option Nat) (i : Nat) : pl o = (i : Int) ↔ o = some i := by
  cases o <;> simp [pl] <;> omega
theorem pl_neg (o : Option Nat) : pl o < 0 ↔ o = none := by
  cases o <;> simp [pl]

def MayNm (s : List UInt8) : Prop := s ≠ [] ∧ s.length ≤ 40
instance (s : List UInt8) : Decidable (MayNm s) := inferInstanceAs (Decidable (_ ∧ _))
def MayE (x : List Ex) (i : Nat) (e : Ex) : Prop := MayNm e.name ∧ 1 ≤ e.kind ∧ e.kind ≤ 4 ∧ fnd e.name x = some i
instance (x : List Ex) (i : Nat) (e : Ex) : Decidable (MayE x i e) := inferInstanceAs (Decidable (_ ∧ _ ∧ _ ∧ _))
def MayX (x : List Ex) : Prop := x.length ≤ 16 ∧ ∀ (i : Nat) (h : i < x.length), MayE x i x[i]
instance (x : List Ex) : Decidable (MayX x) := inferInstanceAs (Decidable (_ ∧ _))
def kindAt (x : List Ex) (i : Nat) : Int := (x[i]?.map (·.kind)).getD 0
def WtOk (k w : Int) (key : List UInt8) : Prop := (k = 4 ∧ 1 ≤ w ∧ w ≤ 4) ∨ (k = 3 ∧ w = 0 ∧ mayB key = true) ∨ (¬ k = 4 ∧ ¬ k = 3 ∧ w = 0)
instance (k w : Int) (key : List UInt8) : Decidable (WtOk k w key) := inferInstanceAs (Decidable (_ ∨ _ ∨ _))
def MayBd (x : List Ex) (b : Bd) : Prop := ∃ i, fnd b.ex x = some i ∧ MayNm b.q ∧ b.key.length ≤ 255 ∧ WtOk (kindAt x i) b.wt b.key
instance (x : List Ex) (b : Bd) : Decidable (MayBd x b) :=
  match h : fnd b.ex x with
  | none => isFalse (by rintro ⟨i, hi, _⟩; rw [h] at hi; cases hi)
  | some i => decidable_of_iff (MayNm b.q ∧ b.key.length ≤ 255 ∧ WtOk (kindAt x i) b.wt b.key) ⟨fun g => ⟨i, h, g⟩, fun ⟨j, hj, g⟩ => by rw [h] at hj; cases hj; exact g⟩
def MayL (x : List Ex) (l : List Bd) : Prop := l.length ≤ 64 ∧ ∀ (i : Nat) (h : i < l.length), MayBd x l[i] ∧ alk l[i] l = some i
instance (x : List Ex) (l : List Bd) : Decidable (MayL x l) := inferInstanceAs (Decidable (_ ∧ _))
def MayR (x : List Ex) (l : List Bd) : Prop := MayX x ∧ MayL x l
instance (x : List Ex) (l : List Bd) : Decidable (MayR x l) := inferInstanceAs (Decidable (_ ∧ _))

/-- Declare: what comes of it. -/
def DeclR (x : List Ex) (e : Ex) (y : List Ex) (c : Int) : Prop :=
  (∃ i, ∃ h : i < x.length, fnd e.name x = some i ∧ y = x ∧ c = if x[i] = e then 0 else 406) ∨
  (fnd e.name x = none ∧ MayR (x ++ [e]) [] ∧ y = x ++ [e] ∧ c = 0) ∨
  (fnd e.name x = none ∧ ¬ MayR (x ++ [e]) [] ∧ y = x ∧ c = 1)
/-- Bind: what comes of it. -/
def BindR (x : List Ex) (l : List Bd) (b : Bd) (y : List Bd) (c : Int) : Prop :=
  (fnd b.ex x = none ∧ y = l ∧ c = 404) ∨
  (fnd b.ex x ≠ none ∧ ∃ i, ∃ h : i < l.length, alk b l = some i ∧ y = l ∧ c = if l[i] = b then 0 else 406) ∨
  (fnd b.ex x ≠ none ∧ alk b l = none ∧ MayR x (l ++ [b]) ∧ y = l ++ [b] ∧ c = 0) ∨
  (fnd b.ex x ≠ none ∧ alk b l = none ∧ ¬ MayR x (l ++ [b]) ∧ y = l ∧ c = 1)

/-- does a binding under bound want what comes under key? -/
def wantB (k : Int) (bound key : List UInt8) : Bool := if k = 1 then bound == key else if k = 3 then matchB bound key else true
/-- a queue more, if it is new. -/
def addQ (acc : List (List UInt8)) (q : List UInt8) : List (List UInt8) := if q ∈ acc then acc else acc ++ [q]
def takes (e : Ex) (key : List UInt8) (b : Bd) : Bool := decide (b.ex = e.name) && wantB e.kind b.key key
def wantS (e : Ex) (key : List UInt8) (acc : List (List UInt8)) (l : List Bd) : List (List UInt8) :=
  l.foldl (fun a b => if takes e key b then addQ a b.q else a) acc
def wantL (e : Ex) (key : List UInt8) (l : List Bd) : List (List UInt8) := wantS e key [] l

theorem fnd_lt {n : List UInt8} {x : List Ex} {i : Nat} (h : fnd n x = some i) : i < x.length := by
  unfold fnd at h
  obtain ⟨h1, _⟩ := List.findIdx?_eq_some_iff_getElem.1 h
  exact h1
theorem alk_lt {b : Bd} {l : List Bd} {i : Nat} (h : alk b l = some i) : i < l.length := by
  unfold alk at h
  obtain ⟨h1, _⟩ := List.findIdx?_eq_some_iff_getElem.1 h
  exact h1
theorem find_first {α : Type} {p : α → Bool} {l : List α} {i : Nat} (hi : i < l.length) (hp : p l[i] = true) (hn : ∀ (j : Nat) (h : j < i), p l[j] = false) : l.findIdx? p = some i := by
  rw [List.findIdx?_eq_some_iff_getElem]
  exact ⟨hi, hp, fun j hj => by simp [hn j hj]⟩
theorem find_not {α : Type} {p : α → Bool} {l : List α} (hn : ∀ (j : Nat) (h : j < l.length), p l[j] = false) : l.findIdx? p = none := by
  rw [List.findIdx?_eq_none_iff]
  intro x hx
  obtain ⟨j, hj, rfl⟩ := List.getElem_of_mem hx
  exact hn j hj

theorem addQ_nodup {acc : List (List UInt8)} {q : List UInt8} (h : acc.Nodup) : (addQ acc q).Nodup := by
  unfold addQ
  by_cases hq : q ∈ acc
  · rwa [if_pos hq]
  · rw [if_neg hq]
    rw [List.nodup_append]
    exact ⟨h, by simp, by intro a ha b hb; simp at hb; subst hb; intro e; subst e; exact hq ha⟩
theorem addQ_mem {acc : List (List UInt8)} {q r : List UInt8} : r ∈ addQ acc q ↔ r ∈ acc ∨ r = q := by
  unfold addQ
  by_cases hq : q ∈ acc
  · rw [if_pos hq]
    exact ⟨fun h => .inl h, fun h => by rcases h with h | rfl; exact h; exact hq⟩
  · rw [if_neg hq]; simp
theorem wantS_nodup (e : Ex) (key : List UInt8) (l : List Bd) : ∀ acc : List (List UInt8), acc.Nodup → (wantS e key acc l).Nodup := by
  induction l with
  | nil => intro acc h; exact h
  | cons b l ih =>
    intro acc h
    refine ih _ ?_
    show (if takes e key b then addQ acc b.q else acc).Nodup
    by_cases ht : takes e key b = true
    · rw [if_pos ht]; exact addQ_nodup h
    · rw [if_neg ht]; exact h
theorem wantS_mem (e : Ex) (key : List UInt8) (l : List Bd) (r : List UInt8) : ∀ acc : List (List UInt8), r ∈ wantS e key acc l ↔ r ∈ acc ∨ ∃ b ∈ l, takes e key b = true ∧ b.q = r := by
  induction l with
  | nil => intro acc; simp [wantS]
  | cons b l ih =>
    intro acc
    have := ih (if takes e key b then addQ acc b.q else acc)
    rw [show wantS e key acc (b :: l) = wantS e key (if takes e key b then addQ acc b.q else acc) l from rfl, this]
    by_cases ht : takes e key b = true
    · rw [if_pos ht, addQ_mem]
      constructor
      · rintro ((h | rfl) | ⟨c, hc, h1, h2⟩)
        · exact .inl h
        · exact .inr ⟨b, by simp, ht, rfl⟩
        · exact .inr ⟨c, by simp [hc], h1, h2⟩
      · rintro (h | ⟨c, hc, h1, h2⟩)
        · exact .inl (.inl h)
        · rcases List.mem_cons.1 hc with rfl | hc
          · exact .inl (.inr h2.symm)
          · exact .inr ⟨c, hc, h1, h2⟩
    · rw [if_neg ht]
      constructor
      · rintro (h | ⟨c, hc, h1, h2⟩)
        · exact .inl h
        · exact .inr ⟨c, by simp [hc], h1, h2⟩
      · rintro (h | ⟨c, hc, h1, h2⟩)
        · exact .inl h
        · rcases List.mem_cons.1 hc with rfl | hc
          · exact absurd h1 ht
          · exact .inr ⟨c, hc, h1, h2⟩

end Go.Proofs.YtlghphmehlmehaaDoor.Rt
