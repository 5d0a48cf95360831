/-
  A shard as plain data: messages, held ones, marks; which may be, and what each call makes of one.
  MaySd place by place, as the document asks.
-/
import Derived.Test.YthohjcfpobeplaaRows

namespace Go.Proofs.Ythohjcfpobeplaa.Sh
set_option linter.unusedVariables false

/-- a message. -/
structure Mg where
  pub : Int
  seq : Int
  key : List UInt8
  body : List UInt8
  again : Bool
  deriving DecidableEq
/-- a held one. -/
structure Hd where
  tag : Int
  m : Mg
  deriving DecidableEq
/-- a mark. -/
structure Mk where
  pub : Int
  key : List UInt8
  seq : Int
  deriving DecidableEq
/-- a shard. -/
structure Sd where
  fr : Bool
  nx : Int
  rd : List Mg
  hd : List Hd
  ms : List Mk
  deriving DecidableEq
def mg0 : Mg := ⟨0, 0, [], [], false⟩
def hd0 : Hd := ⟨0, mg0⟩
def sd1 : Sd := ⟨false, 1, [], [], []⟩

def MayStand (p q : Int) (k : List UInt8) : Prop := 0 ≤ p ∧ p < 4 ∧ 1 ≤ q ∧ q ≤ 1073741824 ∧ 1 ≤ k.length ∧ k.length ≤ 20
instance (p q : Int) (k : List UInt8) : Decidable (MayStand p q k) := inferInstanceAs (Decidable (_ ∧ _ ∧ _ ∧ _ ∧ _ ∧ _))
def MayMg (m : Mg) : Prop := MayStand m.pub m.seq m.key ∧ m.body.length ≤ 200
instance (m : Mg) : Decidable (MayMg m) := inferInstanceAs (Decidable (_ ∧ _))

/-- is it the mark of that publisher and key? -/
def lk (p : Int) (k : List UInt8) (m : Mk) : Bool := decide (m.pub = p ∧ m.key = k)
def fnd (l : List Mk) (p : Int) (k : List UInt8) : Option Nat := l.findIdx? (lk p k)
def lastF (l : List Mk) (p : Int) (k : List UInt8) : Int :=
  match l with
  | [] => 0
  | m :: l => if lk p k m = true then m.seq else lastF l p k
def allF (s : Sd) : List Mg := s.hd.map (·.m) ++ s.rd

def MaySd (s : Sd) : Prop :=
  1 ≤ s.nx ∧ s.nx ≤ 1073741824 ∧ s.rd.length + s.hd.length ≤ 48 ∧ s.ms.length ≤ 64 ∧
  (∀ m ∈ s.ms, MayStand m.pub m.seq m.key) ∧ s.ms.Pairwise (fun a b => ¬ (a.pub = b.pub ∧ a.key = b.key)) ∧
  (∀ h ∈ s.hd, 1 ≤ h.tag ∧ h.tag < s.nx) ∧ s.hd.Pairwise (fun a b => a.tag < b.tag) ∧ s.hd.Pairwise (fun a b => ¬ a.m.key = b.m.key) ∧
  (∀ m ∈ allF s, MayMg m ∧ m.seq ≤ lastF s.ms m.pub m.key) ∧ (allF s).Pairwise (fun a b => a.pub = b.pub ∧ a.key = b.key → a.seq < b.seq)
instance (s : Sd) : Decidable (MaySd s) := inferInstanceAs (Decidable (_ ∧ _ ∧ _ ∧ _ ∧ _ ∧ _ ∧ _ ∧ _ ∧ _ ∧ _ ∧ _))

def OkB (x f : Mg) (i : Nat) : Prop := MayMg x ∧ x.again = false ∧ x.pub = f.pub ∧ x.key = f.key ∧ x.seq = f.seq + i
instance (x f : Mg) (i : Nat) : Decidable (OkB x f i) := inferInstanceAs (Decidable (_ ∧ _ ∧ _ ∧ _ ∧ _))
def MayB (l : List Mg) : Prop := 1 ≤ l.length ∧ l.length ≤ 8 ∧ ∀ (i : Nat) (h : i < l.length), OkB l[i] (l.headD mg0) i
instance (l : List Mg) : Decidable (MayB l) := inferInstanceAs (Decidable (_ ∧ _ ∧ _))

/-- the first one's publisher and key; the last one's number. -/
def firstB (l : List Mg) : Mg := l.headD mg0
def endB (l : List Mg) : Mg := l.getLastD mg0
/-- the marks behind a batch. -/
def markF (l : List Mk) (p : Int) (k : List UInt8) (q : Int) : List Mk :=
  match fnd l p k with
  | none => l ++ [⟨p, k, q⟩]
  | some i => l.set i ⟨p, k, q⟩
def putC (s : Sd) (l : List Mg) : Int :=
  if ¬ (MaySd s ∧ MayB l) then 1
  else if (endB l).seq ≤ lastF s.ms (firstB l).pub (firstB l).key then 8
  else if (firstB l).seq ≤ lastF s.ms (firstB l).pub (firstB l).key then 1
  else if s.fr = true then 6
  else if 48 < s.rd.length + s.hd.length + l.length ∨ (s.ms.length = 64 ∧ fnd s.ms (firstB l).pub (firstB l).key = none) then 4
  else 0
def putS (s : Sd) (l : List Mg) : Sd :=
  if putC s l = 0 then { s with rd := s.rd ++ l, ms := markF s.ms (firstB l).pub (firstB l).key (endB l).seq } else s

def lockd (s : Sd) (k : List UInt8) : Bool := s.hd.any fun h => decide (h.m.key = k)
/-- the place of what may be handed out. -/
def freeI (s : Sd) : Option Nat := s.rd.findIdx? fun m => !lockd s m.key
def getC (s : Sd) : Int :=
  if ¬ MaySd s then 1
  else if s.fr = true then 6
  else if freeI s = none then 3
  else if s.nx = 1073741824 then 4
  else 0
def getI (s : Sd) : Nat := (freeI s).getD 0
def getH (s : Sd) : Hd := if getC s = 0 then ⟨s.nx, (s.rd[getI s]?).getD mg0⟩ else hd0
def getS (s : Sd) : Sd :=
  if getC s = 0 then { s with nx := s.nx + 1, rd := s.rd.eraseIdx (getI s), hd := s.hd ++ [getH s] } else s

def tagI (s : Sd) (t : Int) : Option Nat := s.hd.findIdx? fun h => decide (h.tag = t)
def outC (s : Sd) (t : Int) : Int := if ¬ MaySd s then 1 else if tagI s t = none then 3 else 0
def outI (s : Sd) (t : Int) : Nat := (tagI s t).getD 0
def outM (s : Sd) (t : Int) : Mg := ((s.hd[outI s t]?).getD hd0).m
def ackS (s : Sd) (t : Int) : Sd := if outC s t = 0 then { s with hd := s.hd.eraseIdx (outI s t) } else s
def nackS (s : Sd) (t : Int) : Sd := if outC s t = 0 then { s with hd := s.hd.eraseIdx (outI s t), rd := { outM s t with again := true } :: s.rd } else s

def setC (s : Sd) (b : Bool) : Int := if ¬ MaySd s then 1 else if s.fr = b then 7 else 0
def setS (s : Sd) (b : Bool) : Sd := if setC s b = 0 then { s with fr := b } else s

/-! ### what is found -/
theorem find_first {α : Type} {l : List α} {p : α → Bool} {i : Nat} (hi : i < l.length) (hp : p l[i] = true) (hno : ∀ j (h : j < i), p (l[j]'(by omega)) = false) : l.findIdx? p = some i := by
  rw [List.findIdx?_eq_some_iff_getElem]
  exact ⟨hi, hp, fun j hj => by rw [hno j hj]; simp⟩
theorem find_not {α : Type} {l : List α} {p : α → Bool} (hno : ∀ j (h : j < l.length), p l[j] = false) : l.findIdx? p = none := by
  rw [List.findIdx?_eq_none_iff]
  intro x hx
  obtain ⟨j, hj, rfl⟩ := List.getElem_of_mem hx
  exact hno j hj
theorem last_some {l : List Mk} {p : Int} {k : List UInt8} {i : Nat} (h : fnd l p k = some i) (hi : i < l.length) : lastF l p k = l[i].seq := by
  induction l generalizing i with
  | nil => simp at hi
  | cons m l ih =>
    unfold fnd at h
    rw [List.findIdx?_cons] at h
    unfold lastF
    by_cases hm : lk p k m = true
    · rw [if_pos hm] at h
      cases h
      rw [if_pos hm]; rfl
    · rw [if_neg hm] at h
      rw [if_neg hm]
      cases hj : l.findIdx? (lk p k) with
      | none => rw [hj] at h; simp at h
      | some j =>
        rw [hj] at h
        simp at h
        subst h
        exact ih hj (by simpa using hi)
theorem last_none {l : List Mk} {p : Int} {k : List UInt8} (h : fnd l p k = none) : lastF l p k = 0 := by
  induction l with
  | nil => rfl
  | cons m l ih =>
    unfold fnd at h
    rw [List.findIdx?_cons] at h
    unfold lastF
    by_cases hm : lk p k m = true
    · rw [if_pos hm] at h; cases h
    · rw [if_neg hm] at h
      rw [if_neg hm]
      exact ih (Option.map_eq_none_iff.1 h)
theorem fnd_lt {l : List Mk} {p : Int} {k : List UInt8} {i : Nat} (h : fnd l p k = some i) : ∃ hi : i < l.length, l[i].pub = p ∧ l[i].key = k := by
  unfold fnd at h
  rw [List.findIdx?_eq_some_iff_getElem] at h
  obtain ⟨hi, hp, _⟩ := h
  exact ⟨hi, by simpa [lk] using hp⟩

/-- a message with another mark. -/
theorem last_may {s : Sd} (h : ∀ m ∈ s.ms, MayStand m.pub m.seq m.key) (p : Int) (k : List UInt8) : lastF s.ms p k = 0 ∧ fnd s.ms p k = none ∨ 1 ≤ lastF s.ms p k ∧ lastF s.ms p k ≤ 1073741824 ∧ ∃ i, fnd s.ms p k = some i := by
  cases hf : fnd s.ms p k with
  | none => exact .inl ⟨last_none hf, rfl⟩
  | some i =>
    obtain ⟨hi, _⟩ := fnd_lt hf
    have := h _ (List.getElem_mem hi)
    rw [last_some hf hi]
    exact .inr ⟨this.2.2.1, this.2.2.2.1, i, rfl⟩

end Go.Proofs.Ythohjcfpobeplaa.Sh

namespace Go.Proofs.Ythohjcfpobeplaa.Sh

def R1 (s : Sd) (i : Nat) (h : i < s.ms.length) : Prop := MayStand s.ms[i].pub s.ms[i].seq s.ms[i].key ∧ ∀ k (hk : k < i), ¬ (s.ms[k].pub = s.ms[i].pub ∧ s.ms[k].key = s.ms[i].key)
def R2 (s : Sd) (i : Nat) (h : i < s.hd.length) : Prop := MayMg s.hd[i].m ∧ 1 ≤ s.hd[i].tag ∧ s.hd[i].tag < s.nx ∧ (0 < i → s.hd[i - 1].tag < s.hd[i].tag) ∧ s.hd[i].m.seq ≤ lastF s.ms s.hd[i].m.pub s.hd[i].m.key ∧ ∀ k (hk : k < i), ¬ s.hd[k].m.key = s.hd[i].m.key
def R3 (s : Sd) (i : Nat) (h : i < s.rd.length) : Prop := MayMg s.rd[i] ∧ s.rd[i].seq ≤ lastF s.ms s.rd[i].pub s.rd[i].key ∧ (∀ k (hk : k < i), ¬ (s.rd[k].pub = s.rd[i].pub ∧ s.rd[k].key = s.rd[i].key ∧ s.rd[i].seq ≤ s.rd[k].seq)) ∧ (∀ k (hk : k < s.hd.length), ¬ (s.hd[k].m.pub = s.rd[i].pub ∧ s.hd[k].m.key = s.rd[i].key ∧ s.rd[i].seq ≤ s.hd[k].m.seq))
theorem tags_up {l : List Hd} (h : ∀ i (hi : i < l.length), 0 < i → l[i - 1].tag < l[i].tag) : ∀ (d i : Nat) (hj : i + d + 1 < l.length), l[i].tag < l[i + d + 1].tag := by
  intro d
  induction d with
  | zero => intro i hj; exact h (i + 1) hj (by omega)
  | succ d ih =>
    intro i hj
    have h1 := ih i (by omega)
    have h2 := h (i + (d + 1) + 1) hj (by omega)
    exact Int.lt_trans h1 h2
theorem rmay_is (s : Sd) : MaySd s ↔ 1 ≤ s.nx ∧ s.nx ≤ 1073741824 ∧ s.rd.length + s.hd.length ≤ 48 ∧ s.ms.length ≤ 64 ∧ (∀ i h, R1 s i h) ∧ (∀ i h, R2 s i h) ∧ (∀ i h, R3 s i h) := by
  constructor
  · rintro ⟨a, b, c, d, e, f, g, h, i, j, k⟩
    rw [List.pairwise_iff_getElem] at f h i k
    refine ⟨a, b, c, d, fun n hn => ⟨e _ (List.getElem_mem hn), fun m hm => f m n (by omega) hn hm⟩, fun n hn => ?_, fun n hn => ?_⟩
    · have hj := j s.hd[n].m (List.mem_append_left _ (List.mem_map.2 ⟨_, List.getElem_mem hn, rfl⟩))
      have hg := g _ (List.getElem_mem hn)
      exact ⟨hj.1, hg.1, hg.2, fun h0 => h (n - 1) n (by omega) hn (by omega), hj.2, fun m hm => i m n (by omega) hn hm⟩
    · have hj := j s.rd[n] (List.mem_append_right _ (List.getElem_mem hn))
      have lenA : (allF s).length = s.hd.length + s.rd.length := by simp [allF]
      have at1 : ∀ m (hm : m < s.rd.length), ∃ h', (allF s)[s.hd.length + m]'h' = s.rd[m] := fun m hm => ⟨by omega, by simp [allF]⟩
      have at2 : ∀ m (hm : m < s.hd.length), ∃ h', (allF s)[m]'h' = s.hd[m].m := fun m hm => ⟨by omega, by simp [allF, hm]⟩
      refine ⟨hj.1, hj.2, fun m hm => ?_, fun m hm => ?_⟩
      · obtain ⟨h1, e1⟩ := at1 m (by omega)
        obtain ⟨h2, e2⟩ := at1 n hn
        have := k _ _ h1 h2 (by omega)
        rw [e1, e2] at this
        rintro ⟨p1, p2, p3⟩
        have := this ⟨p1, p2⟩
        omega
      · obtain ⟨h1, e1⟩ := at2 m hm
        obtain ⟨h2, e2⟩ := at1 n hn
        have := k _ _ h1 h2 (by omega)
        rw [e1, e2] at this
        rintro ⟨p1, p2, p3⟩
        have := this ⟨p1, p2⟩
        omega
  · rintro ⟨a, b, c, d, r1, r2, r3⟩
    refine ⟨a, b, c, d, fun m hm => ?_, ?_, fun x hx => ?_, ?_, ?_, fun m hm => ?_, ?_⟩
    · obtain ⟨n, hn, rfl⟩ := List.getElem_of_mem hm
      exact (r1 n hn).1
    · rw [List.pairwise_iff_getElem]
      exact fun i j hi hj hij => (r1 j hj).2 i hij
    · obtain ⟨n, hn, rfl⟩ := List.getElem_of_mem hx
      exact ⟨(r2 n hn).2.1, (r2 n hn).2.2.1⟩
    · rw [List.pairwise_iff_getElem]
      intro i j hi hj hij
      have := tags_up (l := s.hd) (fun i hi h0 => (r2 i hi).2.2.2.1 h0) (j - i - 1) i (by omega)
      have e : i + (j - i - 1) + 1 = j := by omega
      simpa only [e] using this
    · rw [List.pairwise_iff_getElem]
      exact fun i j hi hj hij => (r2 j hj).2.2.2.2.2 i hij
    · rcases List.mem_append.1 hm with hm | hm
      · obtain ⟨x, hx, rfl⟩ := List.mem_map.1 hm
        obtain ⟨n, hn, rfl⟩ := List.getElem_of_mem hx
        exact ⟨(r2 n hn).1, (r2 n hn).2.2.2.2.1⟩
      · obtain ⟨n, hn, rfl⟩ := List.getElem_of_mem hm
        exact ⟨(r3 n hn).1, (r3 n hn).2.1⟩
    · unfold allF
      rw [List.pairwise_append]
      refine ⟨?_, ?_, fun x hx y hy => ?_⟩
      · rw [List.pairwise_map, List.pairwise_iff_getElem]
        exact fun i j hi hj hij h => absurd h.2 ((r2 j hj).2.2.2.2.2 i hij)
      · rw [List.pairwise_iff_getElem]
        intro i j hi hj hij h
        have := (r3 j hj).2.2.1 i hij
        exact Classical.byContradiction fun g => this ⟨h.1, h.2, by omega⟩
      · obtain ⟨x', hx', rfl⟩ := List.mem_map.1 hx
        obtain ⟨i, hi, rfl⟩ := List.getElem_of_mem hx'
        obtain ⟨j, hj, rfl⟩ := List.getElem_of_mem hy
        intro h
        have := (r3 j hj).2.2.2 i hi
        exact Classical.byContradiction fun g => this ⟨h.1, h.2, by omega⟩

end Go.Proofs.Ythohjcfpobeplaa.Sh
