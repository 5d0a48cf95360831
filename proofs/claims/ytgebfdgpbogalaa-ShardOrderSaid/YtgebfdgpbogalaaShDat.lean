/-
  A shard as plain data: messages, held ones, marks; which may be, and what each call makes of one.
-/
import Derived.Test.YtgebfdgpbogalaaRows
namespace Go.Proofs.Ytgebfdgpbogalaa.Sh
set_option linter.unusedVariables false

/-- a message. -/
structure Mg where
  pub : Int
  seq : Int
  key : List UInt8
  body : List UInt8
  again : Bool
  deriving DecidableEq
/-- a held one. -/
structure Hd where
  tag : Int
  m : Mg
  deriving DecidableEq
/-- a mark. -/
structure Mk where
  pub : Int
  key : List UInt8
  seq : Int
  deriving DecidableEq
/-- a shard. -/
structure Sd where
  fr : Bool
  nx : Int
  rd : List Mg
  hd : List Hd
  ms : List Mk
  deriving DecidableEq
def mg0 : Mg := ⟨0, 0, [], [], false⟩
def hd0 : Hd := ⟨0, mg0⟩
def sd1 : Sd := ⟨false, 1, [], [], []⟩

def MayStand (p q : Int) (k : List UInt8) : Prop := 0 ≤ p ∧ p < 4 ∧ 1 ≤ q ∧ q ≤ 1073741824 ∧ 1 ≤ k.length ∧ k.length ≤ 20
instance (p q : Int) (k : List UInt8) : Decidable (MayStand p q k) := inferInstanceAs (Decidable (_ ∧ _ ∧ _ ∧ _ ∧ _ ∧ _))
def MayMg (m : Mg) : Prop := MayStand m.pub m.seq m.key ∧ m.body.length ≤ 200
instance (m : Mg) : Decidable (MayMg m) := inferInstanceAs (Decidable (_ ∧ _))

/-- is it the mark of that publisher and key? -/
def lk (p : Int) (k : List UInt8) (m : Mk) : Bool := decide (m.pub = p ∧ m.key = k)
def fnd (l : List Mk) (p : Int) (k : List UInt8) : Option Nat := l.findIdx? (lk p k)
def lastF (l : List Mk) (p : Int) (k : List UInt8) : Int :=
  match l with
  | [] => 0
  | m :: l => if lk p k m = true then m.seq else lastF l p k
def allF (s : Sd) : List Mg := s.hd.map (·.m) ++ s.rd

def MaySd (s : Sd) : Prop :=
  1 ≤ s.nx ∧ s.nx ≤ 1073741824 ∧ s.rd.length + s.hd.length ≤ 48 ∧ s.ms.length ≤ 64 ∧
  (∀ m ∈ s.ms, MayStand m.pub m.seq m.key) ∧ s.ms.Pairwise (fun a b => ¬ (a.pub = b.pub ∧ a.key = b.key)) ∧
  (∀ h ∈ s.hd, 1 ≤ h.tag ∧ h.tag < s.nx) ∧ s.hd.Pairwise (fun a b => a.tag < b.tag) ∧ s.hd.Pairwise (fun a b => ¬ a.m.key = b.m.key) ∧
  (∀ m ∈ allF s, MayMg m ∧ m.seq ≤ lastF s.ms m.pub m.key) ∧ (allF s).Pairwise (fun a b => a.pub = b.pub ∧ a.key = b.key → a.seq < b.seq)
instance (s : Sd) : Decidable (MaySd s) := inferInstanceAs (Decidable (_ ∧ _ ∧ _ ∧ _ ∧ _ ∧ _ ∧ _ ∧ _ ∧ _ ∧ _ ∧ _))

def OkB (x f : Mg) (i : Nat) : Prop := MayMg x ∧ x.again = false ∧ x.pub = f.pub ∧ x.key = f.key ∧ x.seq = f.seq + i
instance (x f : Mg) (i : Nat) : Decidable (OkB x f i) := inferInstanceAs (Decidable (_ ∧ _ ∧ _ ∧ _ ∧ _))
def MayB (l : List Mg) : Prop := 1 ≤ l.length ∧ l.length ≤ 8 ∧ ∀ (i : Nat) (h : i < l.length), OkB l[i] (l.headD mg0) i
instance (l : List Mg) : Decidable (MayB l) := inferInstanceAs (Decidable (_ ∧ _ ∧ _))

/-- the first one's publisher and key; the last one's number. -/
def firstB (l : List Mg) : Mg := l.headD mg0
def endB (l : List Mg) : Mg := l.getLastD mg0
/-- the marks behind a batch. -/
def markF (l : List Mk) (p : Int) (k : List UInt8) (q : Int) : List Mk :=
  match fnd l p k with
  | none => l ++ [⟨p, k, q⟩]
  | some i => l.set i ⟨p, k, q⟩
def putC (s : Sd) (l : List Mg) : Int :=
  if ¬ (MaySd s ∧ MayB l) then 1
  else if (endB l).seq ≤ lastF s.ms (firstB l).pub (firstB l).key then 8
  else if (firstB l).seq ≤ lastF s.ms (firstB l).pub (firstB l).key then 1
  else if s.fr = true then 6
  else if 48 < s.rd.length + s.hd.length + l.length ∨ (s.ms.length = 64 ∧ fnd s.ms (firstB l).pub (firstB l).key = none) then 4
  else 0
def putS (s : Sd) (l : List Mg) : Sd :=
  if putC s l = 0 then { s with rd := s.rd ++ l, ms := markF s.ms (firstB l).pub (firstB l).key (endB l).seq } else s

def lockd (s : Sd) (k : List UInt8) : Bool := s.hd.any fun h => decide (h.m.key = k)
/-- the place of what may be handed out. -/
def freeI (s : Sd) : Option Nat := s.rd.findIdx? fun m => !lockd s m.key
def getC (s : Sd) : Int :=
  if ¬ MaySd s then 1
  else if s.fr = true then 6
  else if freeI s = none then 3
  else if s.nx = 1073741824 then 4
  else 0
def getI (s : Sd) : Nat := (freeI s).getD 0
def getH (s : Sd) : Hd := if getC s = 0 then ⟨s.nx, (s.rd[getI s]?).getD mg0⟩ else hd0
def getS (s : Sd) : Sd :=
  if getC s = 0 then { s with nx := s.nx + 1, rd := s.rd.eraseIdx (getI s), hd := s.hd ++ [getH s] } else s

def tagI (s : Sd) (t : Int) : Option Nat := s.hd.findIdx? fun h => decide (h.tag = t)
def outC (s : Sd) (t : Int) : Int := if ¬ MaySd s then 1 else if tagI s t = none then 3 else 0
def outI (s : Sd) (t : Int) : Nat := (tagI s t).getD 0
def outM (s : Sd) (t : Int) : Mg := ((s.hd[outI s t]?).getD hd0).m
def ackS (s : Sd) (t : Int) : Sd := if outC s t = 0 then { s with hd := s.hd.eraseIdx (outI s t) } else s
def nackS (s : Sd) (t : Int) : Sd := if outC s t = 0 then { s with hd := s.hd.eraseIdx (outI s t), rd := { outM s t with again := true } :: s.rd } else s

def setC (s : Sd) (b : Bool) : Int := if ¬ MaySd s then 1 else if s.fr = b then 7 else 0
def setS (s : Sd) (b : Bool) : Sd := if setC s b = 0 then { s with fr := b } else s

/-! ### what is found -/
theorem find_first {α : Type} {l : List α} {p : α → Bool} {i : Nat} (hi : i < l.length) (hp : p l[i] = true) (hno : ∀ j (h : j < i), p (l[j]'(by omega)) = false) : l.findIdx? p = some i := by
  rw [List.findIdx?_eq_some_iff_getElem]
  exact ⟨hi, hp, fun j hj => by rw [hno j hj]; simp⟩
theorem find_not {α : Type} {l : List α} {p : α → Bool} (hno : ∀ j (h : j < l.length), p l[j] = false) : l.findIdx? p = none := by
  rw [List.findIdx?_eq_none_iff]
  intro x hx
  obtain ⟨j, hj, rfl⟩ := List.getElem_of_mem hx
  exact hno j hj
theorem last_some {l : List Mk} {p : Int} {k : List UInt8} {i : Nat} (h : fnd l p k = some i) (hi : i < l.length) : lastF l p k = l[i].seq := by
  induction l generalizing i with
  | nil => simp at hi
  | cons m l ih =>
    unfold fnd at h
    rw [List.findIdx?_cons] at h
    unfold lastF
    by_cases hm : lk p k m = true
    · rw [if_pos hm] at h
      cases h
      rw [if_pos hm]; rfl
    · rw [if_neg hm] at h
      rw [if_neg hm]
      cases hj : l.findIdx? (lk p k) with
      | none => rw [hj] at h; simp at h
      | some j =>
        rw [hj] at h
        simp at h
        subst h
        exact ih hj (by simpa using hi)
theorem last_none {l : List Mk} {p : Int} {k : List UInt8} (h : fnd l p k = none) : lastF l p k = 0 := by
  induction l with
  | nil => rfl
  | cons m l ih =>
    unfold fnd at h
    rw [List.findIdx?_cons] at h
    unfold lastF
    by_cases hm : lk p k m = true
    · rw [if_pos hm] at h; cases h
    · rw [if_neg hm] at h
      rw [if_neg hm]
      exact ih (Option.map_eq_none_iff.1 h)
theorem fnd_lt {l : List Mk} {p : Int} {k : List UInt8} {i : Nat} (h : fnd l p k = some i) : ∃ hi : i < l.length, l[i].pub = p ∧ l[i].key = k := by
  unfold fnd at h
  rw [List.findIdx?_eq_some_iff_getElem] at h
  obtain ⟨hi, hp, _⟩ := h
  exact ⟨hi, by simpa [lk] using hp⟩

/-- a message with another mark. -/
theorem last_may {s : Sd} (h : ∀ m ∈ s.ms, MayStand m.pub m.seq m.key) (p : Int) (k : List UInt8) : lastF s.ms p k = 0 ∧ fnd s.ms p k = none ∨ 1 ≤ lastF s.ms p k ∧ lastF s.ms p k ≤ 1073741824 ∧ ∃ i, fnd s.ms p k = some i := by
  cases hf : fnd s.ms p k with
  | none => exact .inl ⟨last_none hf, rfl⟩
  | some i =>
    obtain ⟨hi, _⟩ := fnd_lt hf
    have := h _ (List.getElem_mem hi)
    rw [last_some hf hi]
    exact .inr ⟨this.2.2.1, this.2.2.2.1, i, rfl⟩

end Go.Proofs.Ytgebfdgpbogalaa.Sh
