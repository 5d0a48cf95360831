/-
  Exchanges and bindings as plain data, and what package route does with them.
  Rows of exchanges and of bindings in memory; an element put on: the old row stays as it was.
  route.Find and what it calls; mayName, standing.
-/
import Derived.Test.YtiobcgolcoocnaaGreatDoorTMem
import Derived.Test.YtiobcgolcoocnaaGreatDoorScope
import Derived.Deep.LoopGhost
import Derived.Lib.SliceRun
import Derived.WalkSpells

namespace Go.Proofs.YtiobcgolcoocnaaGreatDoor.Rt
open Top
set_option linter.unusedVariables false

/-- an exchange. -/
structure Ex where
  name : List UInt8
  kind : Int
instance : DecidableEq Ex := fun a b =>
  decidable_of_iff (a.name = b.name ∧ a.kind = b.kind) ⟨fun h => by cases a; cases b; simpa using h, fun h => by subst h; exact ⟨rfl, rfl⟩⟩
/-- a binding. -/
structure Bd where
  ex : List UInt8
  q : List UInt8
  key : List UInt8
  wt : Int
instance : DecidableEq Bd := fun a b =>
  decidable_of_iff (a.ex = b.ex ∧ a.q = b.q ∧ a.key = b.key ∧ a.wt = b.wt) ⟨fun h => by cases a; cases b; simpa using h, fun h => by subst h; exact ⟨rfl, rfl, rfl, rfl⟩⟩

/-- the place of the first that is so, or -1. -/
def pl (o : Option Nat) : Int := match o with | none => -1 | some i => (i : Int)
def fnd (n : List UInt8) (x : List Ex) : Option Nat := x.findIdx? fun e => decide (e.name = n)
/-- alike but for the weight. -/
def lk (b c : Bd) : Bool := decide (c.ex = b.ex ∧ c.q = b.q ∧ c.key = b.key)
def alk (b : Bd) (l : List Bd) : Option Nat := l.findIdx? (lk b)

theorem pl_some (o : Option Nat) (i : Nat) : pl o = (i : Int) ↔ o = some i := by
  cases o <;> simp [pl] <;> omega
theorem pl_neg (o : Option Nat) : pl o < 0 ↔ o = none := by
  cases o <;> simp [pl]

def MayNm (s : List UInt8) : Prop := s ≠ [] ∧ s.length ≤ 40
instance (s : List UInt8) : Decidable (MayNm s) := inferInstanceAs (Decidable (_ ∧ _))
def MayE (x : List Ex) (i : Nat) (e : Ex) : Prop := MayNm e.name ∧ 1 ≤ e.kind ∧ e.kind ≤ 4 ∧ fnd e.name x = some i
instance (x : List Ex) (i : Nat) (e : Ex) : Decidable (MayE x i e) := inferInstanceAs (Decidable (_ ∧ _ ∧ _ ∧ _))
def MayX (x : List Ex) : Prop := x.length ≤ 16 ∧ ∀ (i : Nat) (h : i < x.length), MayE x i x[i]
instance (x : List Ex) : Decidable (MayX x) := inferInstanceAs (Decidable (_ ∧ _))
def kindAt (x : List Ex) (i : Nat) : Int := (x[i]?.map (·.kind)).getD 0
def WtOk (k w : Int) (key : List UInt8) : Prop := (k = 4 ∧ 1 ≤ w ∧ w ≤ 4) ∨ (k = 3 ∧ w = 0 ∧ mayB key = true) ∨ (¬ k = 4 ∧ ¬ k = 3 ∧ w = 0)
instance (k w : Int) (key : List UInt8) : Decidable (WtOk k w key) := inferInstanceAs (Decidable (_ ∨ _ ∨ _))
def MayBd (x : List Ex) (b : Bd) : Prop := ∃ i, fnd b.ex x = some i ∧ MayNm b.q ∧ b.key.length ≤ 255 ∧ WtOk (kindAt x i) b.wt b.key
instance (x : List Ex) (b : Bd) : Decidable (MayBd x b) :=
  match h : fnd b.ex x with
  | none => isFalse (by rintro ⟨i, hi, _⟩; rw [h] at hi; cases hi)
  | some i => decidable_of_iff (MayNm b.q ∧ b.key.length ≤ 255 ∧ WtOk (kindAt x i) b.wt b.key) ⟨fun g => ⟨i, h, g⟩, fun ⟨j, hj, g⟩ => by rw [h] at hj; cases hj; exact g⟩
def MayL (x : List Ex) (l : List Bd) : Prop := l.length ≤ 64 ∧ ∀ (i : Nat) (h : i < l.length), MayBd x l[i] ∧ alk l[i] l = some i
instance (x : List Ex) (l : List Bd) : Decidable (MayL x l) := inferInstanceAs (Decidable (_ ∧ _))
def MayR (x : List Ex) (l : List Bd) : Prop := MayX x ∧ MayL x l
instance (x : List Ex) (l : List Bd) : Decidable (MayR x l) := inferInstanceAs (Decidable (_ ∧ _))

/-- Declare: what comes of it. -/
def DeclR (x : List Ex) (e : Ex) (y : List Ex) (c : Int) : Prop :=
  (∃ i, ∃ h : i < x.length, fnd e.name x = some i ∧ y = x ∧ c = if x[i] = e then 0 else 406) ∨
  (fnd e.name x = none ∧ MayR (x ++ [e]) [] ∧ y = x ++ [e] ∧ c = 0) ∨
  (fnd e.name x = none ∧ ¬ MayR (x ++ [e]) [] ∧ y = x ∧ c = 1)
/-- Bind: what comes of it. -/
def BindR (x : List Ex) (l : List Bd) (b : Bd) (y : List Bd) (c : Int) : Prop :=
  (fnd b.ex x = none ∧ y = l ∧ c = 404) ∨
  (fnd b.ex x ≠ none ∧ ∃ i, ∃ h : i < l.length, alk b l = some i ∧ y = l ∧ c = if l[i] = b then 0 else 406) ∨
  (fnd b.ex x ≠ none ∧ alk b l = none ∧ MayR x (l ++ [b]) ∧ y = l ++ [b] ∧ c = 0) ∨
  (fnd b.ex x ≠ none ∧ alk b l = none ∧ ¬ MayR x (l ++ [b]) ∧ y = l ∧ c = 1)

/-- does a binding under bound want what comes under key? -/
def wantB (k : Int) (bound key : List UInt8) : Bool := if k = 1 then bound == key else if k = 3 then matchB bound key else true
/-- a queue more, if it is new. -/
def addQ (acc : List (List UInt8)) (q : List UInt8) : List (List UInt8) := if q ∈ acc then acc else acc ++ [q]
def takes (e : Ex) (key : List UInt8) (b : Bd) : Bool := decide (b.ex = e.name) && wantB e.kind b.key key
def wantS (e : Ex) (key : List UInt8) (acc : List (List UInt8)) (l : List Bd) : List (List UInt8) :=
  l.foldl (fun a b => if takes e key b then addQ a b.q else a) acc
def wantL (e : Ex) (key : List UInt8) (l : List Bd) : List (List UInt8) := wantS e key [] l

theorem fnd_lt {n : List UInt8} {x : List Ex} {i : Nat} (h : fnd n x = some i) : i < x.length := by
  unfold fnd at h
  obtain ⟨h1, _⟩ := List.findIdx?_eq_some_iff_getElem.1 h
  exact h1
theorem alk_lt {b : Bd} {l : List Bd} {i : Nat} (h : alk b l = some i) : i < l.length := by
  unfold alk at h
  obtain ⟨h1, _⟩ := List.findIdx?_eq_some_iff_getElem.1 h
  exact h1
theorem find_first {α : Type} {p : α → Bool} {l : List α} {i : Nat} (hi : i < l.length) (hp : p l[i] = true) (hn : ∀ (j : Nat) (h : j < i), p l[j] = false) : l.findIdx? p = some i := by
  rw [List.findIdx?_eq_some_iff_getElem]
  exact ⟨hi, hp, fun j hj => by simp [hn j hj]⟩
theorem find_not {α : Type} {p : α → Bool} {l : List α} (hn : ∀ (j : Nat) (h : j < l.length), p l[j] = false) : l.findIdx? p = none := by
  rw [List.findIdx?_eq_none_iff]
  intro x hx
  obtain ⟨j, hj, rfl⟩ := List.getElem_of_mem hx
  exact hn j hj

theorem addQ_nodup {acc : List (List UInt8)} {q : List UInt8} (h : acc.Nodup) : (addQ acc q).Nodup := by
  unfold addQ
  by_cases hq : q ∈ acc
  · rwa [if_pos hq]
  · rw [if_neg hq]
    rw [List.nodup_append]
    exact ⟨h, by simp, by intro a ha b hb; simp at hb; subst hb; intro e; subst e; exact hq ha⟩
theorem addQ_mem {acc : List (List UInt8)} {q r : List UInt8} : r ∈ addQ acc q ↔ r ∈ acc ∨ r = q := by
  unfold addQ
  by_cases hq : q ∈ acc
  · rw [if_pos hq]
    exact ⟨fun h => .inl h, fun h => by rcases h with h | rfl; exact h; exact hq⟩
  · rw [if_neg hq]; simp
theorem wantS_nodup (e : Ex) (key : List UInt8) (l : List Bd) : ∀ acc : List (List UInt8), acc.Nodup → (wantS e key acc l).Nodup := by
  induction l with
  | nil => intro acc h; exact h
  | cons b l ih =>
    intro acc h
    refine ih _ ?_
    show (if takes e key b then addQ acc b.q else acc).Nodup
    by_cases ht : takes e key b = true
    · rw [if_pos ht]; exact addQ_nodup h
    · rw [if_neg ht]; exact h
theorem wantS_mem (e : Ex) (key : List UInt8) (l : List Bd) (r : List UInt8) : ∀ acc : List (List UInt8), r ∈ wantS e key acc l ↔ r ∈ acc ∨ ∃ b ∈ l, takes e key b = true ∧ b.q = r := by
  induction l with
  | nil => intro acc; simp [wantS]
  | cons b l ih =>
    intro acc
    have := ih (if takes e key b then addQ acc b.q else acc)
    rw [show wantS e key acc (b :: l) = wantS e key (if takes e key b then addQ acc b.q else acc) l from rfl, this]
    by_cases ht : takes e key b = true
    · rw [if_pos ht, addQ_mem]
      constructor
      · rintro ((h | rfl) | ⟨c, hc, h1, h2⟩)
        · exact .inl h
        · exact .inr ⟨b, by simp, ht, rfl⟩
        · exact .inr ⟨c, by simp [hc], h1, h2⟩
      · rintro (h | ⟨c, hc, h1, h2⟩)
        · exact .inl (.inl h)
        · rcases List.mem_cons.1 hc with rfl | hc
          · exact .inl (.inr h2.symm)
          · exact .inr ⟨c, hc, h1, h2⟩
    · rw [if_neg ht]
      constructor
      · rintro (h | ⟨c, hc, h1, h2⟩)
        · exact .inl h
        · exact .inr ⟨c, by simp [hc], h1, h2⟩
      · rintro (h | ⟨c, hc, h1, h2⟩)
        · exact .inl h
        · rcases List.mem_cons.1 hc with rfl | hc
          · exact absurd h1 ht
          · exact .inr ⟨c, hc, h1, h2⟩

end Go.Proofs.YtiobcgolcoocnaaGreatDoor.Rt

namespace Go.Proofs.YtiobcgolcoocnaaGreatDoor.Rt
open Go.RowKit Top
set_option linter.unusedVariables false

section
variable {α : Type}
/-- a slice of these structs of k cells. -/
structure RowsAt (k : Nat) (f : α → List Value) (w : World) (a : Option Addr) (cap : Nat) (l : List α) : Prop where
  len : l.length ≤ cap
  max : cap ≤ maxLen
  at' : 0 < l.length → ∃ b o, a = some ⟨b, o, none⟩ ∧ ∀ (i : Nat) (h : i < l.length) (r : Nat) (v : Value), (f l[i])[r]? = some v → w.cell? ⟨b, o + i * k + r, none⟩ = some v
theorem RowsAt.nil (k : Nat) (f : α → List Value) (w : World) (a : Option Addr) (cap : Nat) (h : cap ≤ maxLen) : RowsAt k f w a cap [] := ⟨Nat.zero_le _, h, fun h => by simp at h⟩
theorem RowsAt.below {k : Nat} {f : α → List Value} {w w' : World} {a : Option Addr} {cap : Nat} {l : List α} (h : RowsAt k f w a cap l) (hb : Below w.heap.size w w') : RowsAt k f w' a cap l := by
  refine ⟨h.len, h.max, fun h0 => ?_⟩
  obtain ⟨b, o, ha, hc⟩ := h.at' h0
  exact ⟨b, o, ha, fun i hi r v hv => (hb.cell (p := ⟨b, o + i * k + r, none⟩) (lt_of_cell (hc i hi r v hv))).trans (hc i hi r v hv)⟩
theorem RowsAt.pos {k : Nat} {f : α → List Value} {w : World} {a : Option Addr} {cap : Nat} {l : List α} (h : RowsAt k f w a cap l) : 0 < l.length → ∃ x, a = some x := fun h0 => by
  obtain ⟨b, o, ha, _⟩ := h.at' h0
  exact ⟨_, ha⟩
theorem flats_length {k : Nat} {f : α → List Value} (hk : ∀ x, (f x).length = k) (l : List α) : (l.flatMap f).length = l.length * k := by
  induction l with
  | nil => simp
  | cons x l ih => rw [List.flatMap_cons, List.length_append, ih, hk, List.length_cons, Nat.add_mul]; omega
theorem flats_get {k : Nat} {f : α → List Value} (hk : ∀ x, (f x).length = k) (l : List α) : ∀ (i r : Nat) (h : i < l.length), r < k → (l.flatMap f)[i * k + r]? = (f l[i])[r]? := by
  induction l with
  | nil => intro i r h; simp at h
  | cons x l ih =>
    intro i r h hr
    cases i with
    | zero =>
      rw [List.flatMap_cons, Nat.zero_mul, Nat.zero_add, List.getElem?_append_left (by rw [hk]; exact hr)]
      rfl
    | succ i =>
      rw [List.flatMap_cons, List.getElem?_append_right (by rw [hk, Nat.add_mul]; omega), hk, show (i + 1) * k + r - k = i * k + r by rw [Nat.add_mul]; omega]
      exact ih i r (by simpa using h) hr
theorem rows_of_own {k : Nat} {f : α → List Value} (hk : ∀ x, (f x).length = k) {w : World} {base : Nat} {T : TypeId} {v : Value} {l : List α} (h : w.ownsRow base T k v l.length (l.flatMap f)) :
    ∃ a cap, v = .slice a l.length cap ∧ RowsAt k f w a cap l := by
  rcases h.2 with ⟨rfl, hn⟩ | ⟨g, cap, cur, rfl, hbg, hg, hnc, hcm, hcs, htake⟩
  · obtain rfl : l = [] := List.eq_nil_of_length_eq_zero hn
    exact ⟨none, 0, rfl, RowsAt.nil _ _ _ _ _ (by simp [maxLen])⟩
  · refine ⟨_, cap, rfl, hnc, hcm, fun _ => ⟨g, 0, rfl, fun i hi r v hv => ?_⟩⟩
    have hr : r < k := by
      have := (List.getElem?_eq_some_iff.1 hv).1
      rwa [hk] at this
    have h1 : i * k + r < l.length * k := by
      calc i * k + r < i * k + k := by omega
        _ = (i + 1) * k := by rw [Nat.add_mul]; omega
        _ ≤ l.length * k := Nat.mul_le_mul_right _ hi
    rw [show 0 + i * k + r = i * k + r by omega, cell_of_row w _ _ _ _ _ hg, ← hv, ← flats_get hk l i r hi hr, ← htake, List.getElem?_take, if_pos h1, Array.getElem?_toList]
/-- the cells of a row, one by one: what append reads. -/
theorem rows_news {k : Nat} {f : α → List Value} (hk : ∀ x, (f x).length = k) (h0 : 0 < k) {w : World} {b o cap : Nat} {l : List α} (hl : 0 < l.length) (h : RowsAt k f w (some ⟨b, o, none⟩) cap l) :
    ∀ j u, (l.flatMap f)[j]? = some u → w.cell? ((⟨b, o, none⟩ : Addr).add j) = some u := by
  intro j u hu
  obtain ⟨b', o', he, hc⟩ := h.at' hl
  injection he with he
  injection he with e1 e2
  subst e1 e2
  have hj : j < l.length * k := by
    have := (List.getElem?_eq_some_iff.1 hu).1
    rwa [flats_length hk] at this
  have hdiv : j / k < l.length := Nat.div_lt_of_lt_mul (by rw [Nat.mul_comm]; exact hj)
  have hj2 : j / k * k + j % k = j := Nat.div_add_mod' j k
  have hg := flats_get hk l (j / k) (j % k) hdiv (Nat.mod_lt _ h0)
  rw [hj2, hu] at hg
  have := hc (j / k) hdiv (j % k) u hg.symm
  rw [add_at]
  rwa [show o + j / k * k + j % k = o + j by omega] at this
end

/-- append onto a row of the call's own: behind it the old row reads as it read. -/
theorem append_both {P : Program} (w : World) (t ty : TypeId) (base : Nat) (e : TypeId) (i : TypeInfo) (z : Value) (size bytes : Nat) (ht : P.underlying t = some (.slice e)) (hi : P.info? e = some i) (hz : i.zero = some z)
    (hsize : i.size = size) (hby : i.bytes = bytes) (hzs : z.cells.size = size) (hsz : 0 < size)
    (v : Value) (n : Nat) (xs : List Value) (hown : w.ownsRow base e size v n xs)
    (ad : Addr) (m c : Nat) (news : List Value) (hl : news.length = m * size) (hnews : ∀ j u, news[j]? = some u → w.cell? (ad.add j) = some u) (h1 : ∀ u ∈ news, u.oneCell' = true)
    (hm : 0 < m) (h63 : n + m ≤ maxLen) (hbytes : (n + m) * bytes ≤ 140737488355328) (hbase : base ≤ w.heap.size) :
    ∃ g cap w', (Builtin.append_ #[t, t] ty #[v, .slice (some ad) m c]).run P w = .ok (.slice (some ⟨g, 0, none⟩) (n + m) cap) w' ∧
      w'.ownsRow base e size (.slice (some ⟨g, 0, none⟩) (n + m) cap) (n + m) (xs ++ news) ∧ w'.ownsRow base e size v n xs ∧ w.grownBy w' v.ownBlock := by
  obtain ⟨g1, cap1, w1, hr1, h2, h3, h4, h5⟩ := run_append_lies (P := P) w t ty base e i z size bytes ht hi hz hsize hby hzs hsz v n xs hown ad m c news hl hnews h1 hm h63 hbytes hbase _ rfl
  refine ⟨g1, cap1, w1, hr1, h2, ?_, h3⟩
  have hx := hown.1
  rcases hown.2 with ⟨rfl, rfl⟩ | ⟨g, cap, cur, rfl, hbg, hg, hnc, hcm, hcs, htake⟩
  · have : xs = [] := List.eq_nil_of_length_eq_zero (by simpa using hx)
    subst this
    exact World.ownsRow_nil _ _ _ _
  · subst hsize
    by_cases hroom : n + m ≤ cap
    · have hfit : n * i.size + news.length ≤ cur.size := by rw [hl, hcs, ← Nat.add_mul]; exact Nat.mul_le_mul_right _ hroom
      have hr := run_append_room (P := P) w t ty e i ht hi g n cap cur hg ad m c news hl hnews h1 hroom hfit
      rw [hr1] at hr
      injection hr with _ hw
      subst hw
      refine ⟨hx, .inr ⟨g, cap, _, rfl, hbg, setRow_heap w g cur _ e _ hg, hnc, hcm, ?_, ?_⟩⟩
      · simp only [List.size_toArray, List.length_append, List.length_take, List.length_drop, Array.length_toList]
        omega
      · rw [htake]
        simp only [List.append_assoc]
        rw [← hx]
        exact List.take_left
    · have hr := run_append_grow (P := P) w t ty e i z ht hi hz ⟨g, 0, none⟩ n cap xs hx (hown.cells (g := g) rfl) ad m c news hl hnews (by omega) (by unfold maxLen at h63; omega) (growslice_fits (by omega) (by rw [hby]; exact hbytes))
      rw [hr1] at hr
      injection hr with _ hw
      subst hw
      refine ⟨hx, .inr ⟨g, cap, cur, rfl, hbg, ?_, hnc, hcm, hcs, htake⟩⟩
      exact (heap_alloc_old _ _ (by exact (Array.getElem?_eq_some_iff.1 hg).1)).trans hg

/-- at the list of a region's operations: the block's number a letter. -/
theorem put_both {P : Program} {ops : Array Oper} {rest : List Oper} {o : Oper} {a : Act} {Q : Exit → Act → World → Prop} (w : World) (hgd : o.guard = none) (s x : Operand) (t : TypeId)
    (ho : o.op = .call { callee := .builtin .append, args := #[s, x], argTypes := #[t, t] })
    (base : Nat) (e : TypeId) (i : TypeInfo) (z : Value) (size bytes : Nat) (ht : P.underlying t = some (.slice e)) (hi : P.info? e = some i) (hz : i.zero = some z)
    (hsize : i.size = size) (hby : i.bytes = bytes) (hzs : z.cells.size = size) (hsz : 0 < size)
    (v : Value) (n : Nat) (xs : List Value) (hs : a.eval s = v) (hown : w.ownsRow base e size v n xs)
    (ad : Addr) (m c : Nat) (news : List Value) (hx : a.eval x = .slice (some ad) m c) (hl : news.length = m * size) (hnews : ∀ j u, news[j]? = some u → w.cell? (ad.add j) = some u) (h1 : ∀ u ∈ news, u.oneCell' = true)
    (hm : 0 < m) (h63 : n + m ≤ maxLen) (hbytes : (n + m) * bytes ≤ 140737488355328) (hbase : base ≤ w.heap.size)
    (h : ∀ g cap w', w'.ownsRow base e size (.slice (some ⟨g, 0, none⟩) (n + m) cap) (n + m) (xs ++ news) → w'.ownsRow base e size v n xs → w.grownBy w' v.ownBlock → wpList P ops Q rest (a.put o.dst (.slice (some ⟨g, 0, none⟩) (n + m) cap)) w') : wpList P ops Q (o :: rest) a w := by
  refine wpList_plain hgd fun K hK => ?_
  obtain ⟨g, cap, w', hr, h2, h3, h4⟩ := append_both (P := P) w t o.type base e i z size bytes ht hi hz hsize hby hzs hsz v n xs hown ad m c news hl hnews h1 hm h63 hbytes hbase
  unfold Oper.wp execOp
  simp only [ho, resolve, invoke, builtin, Sem.run_bind, Sem.run_pure, Result.andThen_ok, List.map_toArray, List.map_cons, List.map_nil, hs, hx, hr]
  exact hK _ _ (h g cap w' h2 h3 h4)

/-! ### exchanges, bindings -/
def exC (e : Ex) : List Value := [str e.name, .int .i64 e.kind]
def bdC (b : Bd) : List Value := [str b.ex, str b.q, str b.key, .int .i64 b.wt]
theorem exC_len (e : Ex) : (exC e).length = 2 := rfl
theorem bdC_len (b : Bd) : (bdC b).length = 4 := rfl
theorem exC_one (l : List Ex) : ∀ u ∈ l.flatMap exC, u.oneCell' = true := by
  intro u hu
  obtain ⟨e, _, he⟩ := List.mem_flatMap.1 hu
  simp only [exC, List.mem_cons, List.not_mem_nil, or_false] at he
  rcases he with rfl | rfl <;> rfl
theorem bdC_one (l : List Bd) : ∀ u ∈ l.flatMap bdC, u.oneCell' = true := by
  intro u hu
  obtain ⟨e, _, he⟩ := List.mem_flatMap.1 hu
  simp only [bdC, List.mem_cons, List.not_mem_nil, or_false] at he
  rcases he with rfl | rfl | rfl | rfl <;> rfl
abbrev XsAt := RowsAt 2 exC
abbrev BsAt := RowsAt 4 bdC
def OwnX (w : World) (base : Nat) (v : Value) (l : List Ex) : Prop := w.ownsRow base 78 2 v l.length (l.flatMap exC)
def OwnB (w : World) (base : Nat) (v : Value) (l : List Bd) : Prop := w.ownsRow base 92 4 v l.length (l.flatMap bdC)
theorem OwnX.nil (w : World) (base : Nat) : OwnX w base (.slice none 0 0) [] := World.ownsRow_nil w base _ _
theorem OwnB.nil (w : World) (base : Nat) : OwnB w base (.slice none 0 0) [] := World.ownsRow_nil w base _ _
theorem OwnX.at {w : World} {base : Nat} {v : Value} {l : List Ex} (h : OwnX w base v l) : ∃ a cap, v = .slice a l.length cap ∧ XsAt w a cap l := rows_of_own exC_len h
theorem OwnB.at {w : World} {base : Nat} {v : Value} {l : List Bd} (h : OwnB w base v l) : ∃ a cap, v = .slice a l.length cap ∧ BsAt w a cap l := rows_of_own bdC_len h
theorem OwnX.below1 {w w' : World} {base : Nat} {v : Value} {l : List Ex} (h : OwnX w base v l) (hb : Below w.heap.size w w') : OwnX w' base v l := World.ownsRow.below1 h hb
theorem OwnB.below1 {w w' : World} {base : Nat} {v : Value} {l : List Bd} (h : OwnB w base v l) (hb : Below w.heap.size w w') : OwnB w' base v l := World.ownsRow.below1 h hb
theorem own_mono {w : World} {base base' : Nat} {T : TypeId} {k n : Nat} {v : Value} {xs : List Value} (h : w.ownsRow base T k v n xs) (hb : base' ≤ base) : w.ownsRow base' T k v n xs := by
  refine ⟨h.1, ?_⟩
  rcases h.2 with h1 | ⟨g, cap, cur, hv, hbg, r⟩
  · exact .inl h1
  · exact .inr ⟨g, cap, cur, hv, Nat.le_trans hb hbg, r⟩

theorem XsAt.get {w : World} {a : Option Addr} {cap : Nat} {l : List Ex} (h : XsAt w a cap l) (i : Nat) (hi : i < l.length) :
    ∃ b o, a = some ⟨b, o, none⟩ ∧ w.cell? ⟨b, o + i * 2, none⟩ = some (.string ⟨l[i].name.toArray⟩) ∧ w.cell? ⟨b, o + i * 2 + 1, none⟩ = some (.int .i64 l[i].kind) := by
  obtain ⟨b, o, ha, hc⟩ := h.at' (by omega)
  exact ⟨b, o, ha, hc i hi 0 _ rfl, hc i hi 1 _ rfl⟩
theorem BsAt.get {w : World} {a : Option Addr} {cap : Nat} {l : List Bd} (h : BsAt w a cap l) (i : Nat) (hi : i < l.length) :
    ∃ b o, a = some ⟨b, o, none⟩ ∧ w.cell? ⟨b, o + i * 4, none⟩ = some (.string ⟨l[i].ex.toArray⟩) ∧ w.cell? ⟨b, o + i * 4 + 1, none⟩ = some (.string ⟨l[i].q.toArray⟩) ∧
      w.cell? ⟨b, o + i * 4 + 2, none⟩ = some (.string ⟨l[i].key.toArray⟩) ∧ w.cell? ⟨b, o + i * 4 + 3, none⟩ = some (.int .i64 l[i].wt) := by
  obtain ⟨b, o, ha, hc⟩ := h.at' (by omega)
  exact ⟨b, o, ha, hc i hi 0 _ rfl, hc i hi 1 _ rfl, hc i hi 2 _ rfl, hc i hi 3 _ rfl⟩

/-- the first binding, and the others. -/
theorem BsAt.head {w : World} {a : Option Addr} {cap : Nat} {x : Bd} {l : List Bd} (h : BsAt w a cap (x :: l)) :
    ∃ b o a', a = some ⟨b, o, none⟩ ∧ w.cell? ⟨b, o, none⟩ = some (.string ⟨x.ex.toArray⟩) ∧ w.cell? ⟨b, o + 1, none⟩ = some (.string ⟨x.q.toArray⟩) ∧ w.cell? ⟨b, o + 2, none⟩ = some (.string ⟨x.key.toArray⟩) ∧ w.cell? ⟨b, o + 3, none⟩ = some (.int .i64 x.wt) ∧
      BsAt w a' (cap - 1) l ∧ 1 ≤ cap ∧
      (∀ wx, (Instr.slice 50 (.slice (some ⟨b, o, none⟩) (l.length + 1) cap) (some (.int .i64 1)) none none).run Tryz.prog wx = .ok (.slice a' l.length (cap - 1)) wx) := by
  obtain ⟨b, o, ha, hc⟩ := h.at' (by simp)
  have hlen := h.len
  have hmax := h.max
  simp only [List.length_cons] at hlen
  have h0 : ∀ r v, (bdC x)[r]? = some v → w.cell? ⟨b, o + r, none⟩ = some v := fun r v hv => by
    have := hc 0 (by simp) r v hv
    rwa [show o + 0 * 4 + r = o + r by omega] at this
  refine ⟨b, o, some (if cap = 1 then ⟨b, o, none⟩ else ⟨b, o + 4, none⟩), ha, h0 0 _ rfl, h0 1 _ rfl, h0 2 _ rfl, h0 3 _ rfl, ⟨by omega, by omega, fun hl => ⟨b, o + 4, by rw [if_neg (by omega)], fun j hj r v hv => ?_⟩⟩, by omega, fun wx => ?_⟩
  · have := hc (j + 1) (by simpa using hj) r v (by simpa using hv)
    rwa [show o + (j + 1) * 4 + r = o + 4 + j * 4 + r by omega] at this
  · have hz : ∀ w, (Go.sizeOf 92).run Tryz.prog w = .ok 4 w := fun w => by kernel_rfl
    simp [Instr.slice, Instr.sliceBounds, Instr.sliceBound, asIntOf, run_underlying Tryz.underlying50, hz]
    rw [if_pos (by omega), add_at]
    by_cases h1 : cap = 1
    · rw [if_pos h1, if_pos h1]
    · rw [if_neg h1, if_neg h1]

theorem ex_info : (Tryz.prog.info? 78).map (fun i => (i.zero, i.size, i.bytes)) = some (some (.agg #[.string ⟨#[]⟩, .int .i64 0]), 2, 24) := by kernel_rfl
theorem bd_info : (Tryz.prog.info? 92).map (fun i => (i.zero, i.size, i.bytes)) = some (some (.agg #[.string ⟨#[]⟩, .string ⟨#[]⟩, .string ⟨#[]⟩, .int .i64 0]), 4, 56) := by kernel_rfl

/-- an exchange more: it lies in the block made last. -/
theorem put_ex {ops : Array Oper} {rest : List Oper} {o : Oper} {a : Act} {Q : Exit → Act → World → Prop} {w : World} {base : Nat} {v : Value} {l : List Ex} (x : Ex) (hgd : o.guard = none) (s y : Operand)
    (ho : o.op = .call { callee := .builtin .append, args := #[s, y], argTypes := #[49, 49] }) (hb : OwnX w base v l) (hbase : base ≤ w.heap.size) (hl : l.length ≤ 1000000)
    (hs : a.eval s = v) (H : Nat) (hH : w.heap.size = H) (hx : a.eval y = .slice (some ⟨H, 0, none⟩) 1 1)
    (h : ∀ g cap w', OwnX w' base (.slice (some ⟨g, 0, none⟩) (l.length + 1) cap) (l ++ [x]) → OwnX w' base v l → w.grownBy w' v.ownBlock →
      wpList Tryz.prog ops Q rest (a.put o.dst (.slice (some ⟨g, 0, none⟩) (l.length + 1) cap)) w') :
    wpList Tryz.prog ops Q (o :: rest) a (w.alloc (.cells #[.string ⟨x.name.toArray⟩, .int .i64 x.kind] 78)) := by
  subst hH
  obtain ⟨i0, hi, hz0, hz1, hz2⟩ := info_parts ex_info
  refine put_both (w.alloc _) hgd s y 49 ho base 78 i0 _ 2 24 Tryz.underlying49 hi hz0 hz1 hz2 rfl (by decide) v l.length (l.flatMap exC) hs (World.ownsRow.alloc hb _) ⟨w.heap.size, 0, none⟩ 1 1 (exC x) hx (by simp [exC]) (World.news_of_block (heap_alloc_new w _)) (by simpa using exC_one [x]) (by decide) (by unfold maxLen; omega) (by omega) (by simp; omega) ?_
  intro g cap w' hown hold hg
  refine h g cap w' ?_ hold (alloc_before hg)
  unfold OwnX
  rw [List.length_append, List.flatMap_append]
  simpa using hown
/-- a binding more. -/
theorem put_bd {ops : Array Oper} {rest : List Oper} {o : Oper} {a : Act} {Q : Exit → Act → World → Prop} {w : World} {base : Nat} {v : Value} {l : List Bd} (x : Bd) (hgd : o.guard = none) (s y : Operand)
    (ho : o.op = .call { callee := .builtin .append, args := #[s, y], argTypes := #[50, 50] }) (hb : OwnB w base v l) (hbase : base ≤ w.heap.size) (hl : l.length ≤ 1000000)
    (hs : a.eval s = v) (H : Nat) (hH : w.heap.size = H) (hx : a.eval y = .slice (some ⟨H, 0, none⟩) 1 1)
    (h : ∀ g cap w', OwnB w' base (.slice (some ⟨g, 0, none⟩) (l.length + 1) cap) (l ++ [x]) → OwnB w' base v l → w.grownBy w' v.ownBlock →
      wpList Tryz.prog ops Q rest (a.put o.dst (.slice (some ⟨g, 0, none⟩) (l.length + 1) cap)) w') :
    wpList Tryz.prog ops Q (o :: rest) a (w.alloc (.cells #[.string ⟨x.ex.toArray⟩, .string ⟨x.q.toArray⟩, .string ⟨x.key.toArray⟩, .int .i64 x.wt] 92)) := by
  subst hH
  obtain ⟨i0, hi, hz0, hz1, hz2⟩ := info_parts bd_info
  refine put_both (w.alloc _) hgd s y 50 ho base 92 i0 _ 4 56 Tryz.underlying50 hi hz0 hz1 hz2 rfl (by decide) v l.length (l.flatMap bdC) hs (World.ownsRow.alloc hb _) ⟨w.heap.size, 0, none⟩ 1 1 (bdC x) hx (by simp [bdC]) (World.news_of_block (heap_alloc_new w _)) (by simpa using bdC_one [x]) (by decide) (by unfold maxLen; omega) (by omega) (by simp; omega) ?_
  intro g cap w' hown hold hg
  refine h g cap w' ?_ hold (alloc_before hg)
  unfold OwnB
  rw [List.length_append, List.flatMap_append]
  simpa using hown
theorem OwnX.grown {w w' w0 : World} {base : Nat} {v : Value} {l : List Ex} (h : Below base w0 w) (hb : OwnX w base v l) (hg : w.grownBy w' v.ownBlock) (hbase : base ≤ w.heap.size) : Below base w0 w' :=
  h.grown hg hbase (fun k e => (World.ownsRow.lt hb k e).1)
theorem OwnB.grown {w w' w0 : World} {base : Nat} {v : Value} {l : List Bd} (h : Below base w0 w) (hb : OwnB w base v l) (hg : w.grownBy w' v.ownBlock) (hbase : base ≤ w.heap.size) : Below base w0 w' :=
  h.grown hg hbase (fun k e => (World.ownsRow.lt hb k e).1)

end Go.Proofs.YtiobcgolcoocnaaGreatDoor.Rt

namespace Go.Proofs.YtiobcgolcoocnaaGreatDoor.Rt
open Go.RowKit Top
set_option linter.unusedVariables false

theorem ne_bytes {a b : List UInt8} (h : ¬ a = b) : (a == b) = false := by simpa using h
set_option maxHeartbeats 400000 in
theorem is_any (e : Ex) (n : List UInt8) (b o : Nat) (w : World) (hp : w.cell? ⟨b, o, none⟩ = some (.string ⟨n.toArray⟩)) :
    Calls Tryz.prog 57 #[.agg #[.string ⟨e.name.toArray⟩, .int .i64 e.kind], .pointer (some ⟨b, o, none⟩)] w fun r w' => r = .returned (.bool (decide (e.name = n))) ∧ Below w.heap.size w w' := by
  have hb0 : Below w.heap.size w (w.alloc (.cells #[.string ⟨e.name.toArray⟩, .int .i64 e.kind] 78)) := (Below.refl _ _).alloc (Nat.le_refl _) _
  have hp1 := (hb0.cell (p := ⟨b, o, none⟩) (lt_of_cell hp)).trans hp
  go_enter Tryz.func57, Tryz.ntmps57
  go_wp2_with fail
  go_ret
  refine ⟨?_, hb0⟩
  by_cases h : e.name = n
  · simp [h]
  · simp [h]

def idxRel (w : World) (l : List Ex) (n : List UInt8) (m : Nat) (v : Value) (wr : World) : Prop :=
  ∃ i : Nat, i ≤ l.length ∧ (∀ (j : Nat) (h : j < i) (h' : j < l.length), l[j].name ≠ n) ∧ v = .int .i64 i ∧ m = l.length - i ∧ Below w.heap.size w wr

set_option maxRecDepth 100000 in
set_option maxHeartbeats 2000000 in
theorem idx_any (a : Option Addr) (cap : Nat) (l : List Ex) (n : List UInt8) (pb po : Nat) (w : World) (hf : XsAt w a cap l) (hp : w.cell? ⟨pb, po, none⟩ = some (.string ⟨n.toArray⟩)) :
    Calls Tryz.prog 56 #[.slice a l.length cap, .func (.func 57) #[] #[.pointer (some ⟨pb, po, none⟩)]] w fun e w' => e = .returned (.int .i64 (pl (fnd n l))) ∧ Below w.heap.size w w' := by
  have HF := Lib.hid hf
  have HP := Lib.hid hp
  have hcap := hf.max
  have hlen := hf.len
  unfold maxLen at hcap
  clear hf hp
  go_enter Tryz.func56, Tryz.ntmps56
  go_wp2_with fail
  go_loopg [8] l.length (idxRel w l n)
  case atStart => exact ⟨0, Nat.zero_le _, fun j h => by omega, rfl, rfl, Below.refl _ _⟩
  case round =>
    obtain ⟨i, hi, hno, rfl, rfl, hb⟩ := hrel
    have HB := Lib.hid hb
    have HNO := Lib.hid hno
    clear hb hno
    by_cases hlt : i < l.length
    · have hlti : (i : Int) < (l.length : Int) := by omega
      have h0i : (0 : Int) ≤ (i : Int) := by omega
      obtain ⟨b, o, rfl, c0, c1⟩ := XsAt.get (HF.out.below HB.out) i hlt
      have hcall := is_any l[i] n pb po wr ((HB.out.cell (lt_of_cell HP.out)).trans HP.out)
      have HCALL := Lib.hid hcall
      clear hcall
      by_cases hy : l[i].name = n
      · have HY := Lib.hid hy
        rw [decide_eq_true hy] at HCALL
        clear hy
        go_wp2_with fail
        refine HCALL.out.mono ?_
        rintro e w2 ⟨rfl, hb2⟩
        have HB2 := Lib.hid (HB.out.trans (hb2.mono HB.out.size))
        clear hb2
        go_wp2_with fail
        go_ret
        refine ⟨?_, HB2.out⟩
        rw [show fnd n l = some i from find_first hlt (by simpa using HY.out) (fun j hj => by simpa using HNO.out j hj (by omega))]
        rfl
      · have HY := Lib.hid hy
        rw [decide_eq_false hy] at HCALL
        clear hy
        go_wp2_with fail
        refine HCALL.out.mono ?_
        rintro e w2 ⟨rfl, hb2⟩
        have HB2 := Lib.hid (HB.out.trans (hb2.mono HB.out.size))
        clear hb2
        go_wp2_with fail
        go_roundg (l.length - (i + 1))
        case measure => omega
        case rel =>
          refine ⟨i + 1, by omega, fun j h h' => ?_, by simp, rfl, HB2.out⟩
          by_cases hji : j = i
          · subst hji; exact HY.out
          · exact HNO.out j (by omega) h'
    · obtain rfl : i = l.length := by omega
      go_wp2_with fail
      go_ret
      refine ⟨?_, HB.out⟩
      rw [show fnd n l = none from find_not (fun j hj => by simpa using HNO.out j hj hj)]
      rfl

set_option maxHeartbeats 1000000 in
theorem find_any (a : Option Addr) (cap : Nat) (l : List Ex) (n : List UInt8) (w : World) (hf : XsAt w a cap l) :
    Calls Tryz.prog 43 #[.slice a l.length cap, .string ⟨n.toArray⟩] w fun e w' => e = .returned (.int .i64 (pl (fnd n l))) ∧ Below w.heap.size w w' := by
  have hb0 : Below w.heap.size w (w.alloc (.cells #[.string ⟨n.toArray⟩] 9)) := (Below.refl _ _).alloc (Nat.le_refl _) _
  have HC := Lib.hid (idx_any a cap l n w.heap.size 0 _ (hf.below hb0) (by rw [cell_of_row _ _ _ _ _ _ (heap_alloc_new w _)]; rfl))
  have HB0 := Lib.hid hb0
  clear hf hb0
  go_enter Tryz.func43, Tryz.ntmps43
  go_wp2_with fail
  refine HC.out.mono ?_
  rintro e w' ⟨rfl, hb⟩
  have HB := Lib.hid (HB0.out.trans (hb.mono HB0.out.size))
  clear hb
  go_wp2_with fail
  go_ret
  exact ⟨rfl, HB.out⟩

set_option maxHeartbeats 400000 in
theorem name_any (s : List UInt8) (w : World) : Calls Tryz.prog 91 #[.string ⟨s.toArray⟩] w fun e w' => e = .returned (.bool (decide (MayNm s))) ∧ w = w' := by
  have hsz : (⟨s.toArray⟩ : ByteArray).size = s.length := rfl
  by_cases h : s = []
  · subst h
    go_enter Tryz.func91, Tryz.ntmps91
    go_wp2_with fail
    go_ret
    exact ⟨rfl, rfl⟩
  · have hn : s.isEmpty = false := by simpa using h
    go_enter Tryz.func91, Tryz.ntmps91
    go_wp2_with fail
    go_ret
    refine ⟨?_, rfl⟩
    show Ending.returned (.bool (decide ((s.length : Int) ≤ 40))) = _
    congr 2
    rw [decide_eq_decide]
    exact ⟨fun g => ⟨h, by omega⟩, fun g => by have := g.2; omega⟩

def stnd (b : Bool) : Int := if b = true then 0 else 406
set_option maxHeartbeats 400000 in
theorem standing_any (b : Bool) (w : World) : Calls Tryz.prog 66 #[.bool b] w fun e w' => e = .returned (.int .i64 (stnd b)) ∧ w = w' := by
  cases b
  all_goals
    go_enter Tryz.func66, Tryz.ntmps66
    go_wp2_with fail
    go_ret
    exact ⟨rfl, rfl⟩

end Go.Proofs.YtiobcgolcoocnaaGreatDoor.Rt
