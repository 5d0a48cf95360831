/-
  Rows in memory (no type of the program named).
  Worlds that differ in draws alone.
  Rows of elements of any type, of the call's own or read: put on, cut out, deleted; a box and its rows (names in Sh, Bt: cut out of stages 12 to 14's texts in round 15).
-/
import Derived.Test.YtiobcgolcoocnaaGreatDoorRow
import Derived.Test.YtiobcgolcoocnaaGreatDoorKeptW
import Derived.Test.YtiobcgolcoocnaaGreatDoorScope
import Derived.Deep.QuietTactic
import Derived.BigQuiet
import Derived.BigRegion
import Derived.Laws.AppendOwnNone
import Derived.Deep.RegionLaw
import Derived.Lib.SliceRun
import Derived.Lib.Overlaps
import Derived.Laws.Externs
import Derived.Lib.AppendZerosOnto
import Derived.Lib.JoinLaws
import Derived.Lib.Walk
import Derived.Lib.Hide
import Derived.Lib.AppendStr
import Derived.Deep.AppendLies
import Derived.Deep.OwnRows
import Derived.Deep.Draws
import Derived.Laws.OwnMore
import Derived.Laws.MakeOwn
import Derived.OwnWalk
import Derived.IntWalk

namespace Go.Proofs.YtiobcgolcoocnaaGreatDoor.Rg
open Go.RowKit
set_option linter.unusedVariables false

theorem Below.drewN {B : Nat} {a w : World} (h : Below B a w) (n : Nat) : Below B a (w.drewN n) := ⟨h.os, h.tape, h.output, h.size, h.block⟩
theorem lt_of_cell {w : World} {b o : Nat} {v : Value} (h : w.cell? ⟨b, o, none⟩ = some v) : b < w.heap.size := World.block_lt_of_cell? w (⟨b, o, none⟩ : Addr) h

theorem cell_of_below {B : Nat} {w w' : World} (h : Below B w w') {b o : Nat} (hb : b < B) : w'.cell? ⟨b, o, none⟩ = w.cell? ⟨b, o, none⟩ := h.cell (p := ⟨b, o, none⟩) hb
theorem alloc_before {w w1 : World} {row : Option Nat} {o : Obj} (h : (w.alloc o).grownBy w1 row) : w.grownBy w1 row :=
  ⟨h.os, h.tape, h.output, Nat.le_trans (by simp) h.size, fun k hk hne => (h.block k (by simp; omega) hne).trans (Below.heap_alloc w o k hk)⟩

theorem owns_below1 {w w' : World} {base : Nat} {t : TypeId} {n k : Nat} {v : Value} {xs : List Value} (h : w.ownsRow base t n v k xs) (hb : Below w.heap.size w w') : w'.ownsRow base t n v k xs := by
  refine ⟨h.1, ?_⟩
  rcases h.2 with h1 | ⟨g, cap, cur, hv, hbg, hg, r⟩
  · exact .inl h1
  · exact .inr ⟨g, cap, cur, hv, hbg, (hb.block g (Array.getElem?_eq_some_iff.1 hg).1).trans hg, r⟩

section
variable {α : Type}
/-- a slice of these structs of k cells. -/
structure RowsAt (k : Nat) (f : α → List Value) (w : World) (a : Option Addr) (cap : Nat) (l : List α) : Prop where
  len : l.length ≤ cap
  max : cap ≤ maxLen
  at' : 0 < l.length → ∃ b o, a = some ⟨b, o, none⟩ ∧ ∀ (i : Nat) (h : i < l.length) (r : Nat) (v : Value), (f l[i])[r]? = some v → w.cell? ⟨b, o + i * k + r, none⟩ = some v
theorem RowsAt.nil (k : Nat) (f : α → List Value) (w : World) (a : Option Addr) (cap : Nat) (h : cap ≤ maxLen) : RowsAt k f w a cap [] := ⟨Nat.zero_le _, h, fun h => by simp at h⟩
theorem RowsAt.below {k : Nat} {f : α → List Value} {w w' : World} {a : Option Addr} {cap : Nat} {l : List α} (h : RowsAt k f w a cap l) (hb : Below w.heap.size w w') : RowsAt k f w' a cap l := by
  refine ⟨h.len, h.max, fun h0 => ?_⟩
  obtain ⟨b, o, ha, hc⟩ := h.at' h0
  exact ⟨b, o, ha, fun i hi r v hv => (hb.cell (p := ⟨b, o + i * k + r, none⟩) (lt_of_cell (hc i hi r v hv))).trans (hc i hi r v hv)⟩
theorem RowsAt.pos {k : Nat} {f : α → List Value} {w : World} {a : Option Addr} {cap : Nat} {l : List α} (h : RowsAt k f w a cap l) : 0 < l.length → ∃ x, a = some x := fun h0 => by
  obtain ⟨b, o, ha, _⟩ := h.at' h0
  exact ⟨_, ha⟩
theorem flats_length {k : Nat} {f : α → List Value} (hk : ∀ x, (f x).length = k) (l : List α) : (l.flatMap f).length = l.length * k := by
  induction l with
  | nil => simp
  | cons x l ih => rw [List.flatMap_cons, List.length_append, ih, hk, List.length_cons, Nat.add_mul]; omega
theorem flats_get {k : Nat} {f : α → List Value} (hk : ∀ x, (f x).length = k) (l : List α) : ∀ (i r : Nat) (h : i < l.length), r < k → (l.flatMap f)[i * k + r]? = (f l[i])[r]? := by
  induction l with
  | nil => intro i r h; simp at h
  | cons x l ih =>
    intro i r h hr
    cases i with
    | zero =>
      rw [List.flatMap_cons, Nat.zero_mul, Nat.zero_add, List.getElem?_append_left (by rw [hk]; exact hr)]
      rfl
    | succ i =>
      rw [List.flatMap_cons, List.getElem?_append_right (by rw [hk, Nat.add_mul]; omega), hk, show (i + 1) * k + r - k = i * k + r by rw [Nat.add_mul]; omega]
      exact ih i r (by simpa using h) hr
theorem rows_of_own {k : Nat} {f : α → List Value} (hk : ∀ x, (f x).length = k) {w : World} {base : Nat} {T : TypeId} {v : Value} {l : List α} (h : w.ownsRow base T k v l.length (l.flatMap f)) :
    ∃ a cap, v = .slice a l.length cap ∧ RowsAt k f w a cap l := by
  rcases h.2 with ⟨rfl, hn⟩ | ⟨g, cap, cur, rfl, hbg, hg, hnc, hcm, hcs, htake⟩
  · obtain rfl : l = [] := List.eq_nil_of_length_eq_zero hn
    exact ⟨none, 0, rfl, RowsAt.nil _ _ _ _ _ (by simp [maxLen])⟩
  · refine ⟨_, cap, rfl, hnc, hcm, fun _ => ⟨g, 0, rfl, fun i hi r v hv => ?_⟩⟩
    have hr : r < k := by
      have := (List.getElem?_eq_some_iff.1 hv).1
      rwa [hk] at this
    have h1 : i * k + r < l.length * k := by
      calc i * k + r < i * k + k := by omega
        _ = (i + 1) * k := by rw [Nat.add_mul]; omega
        _ ≤ l.length * k := Nat.mul_le_mul_right _ hi
    rw [show 0 + i * k + r = i * k + r by omega, cell_of_row w _ _ _ _ _ hg, ← hv, ← flats_get hk l i r hi hr, ← htake, List.getElem?_take, if_pos h1, Array.getElem?_toList]
/-- the cells of a row, one by one: what append reads. -/
theorem rows_news {k : Nat} {f : α → List Value} (hk : ∀ x, (f x).length = k) (h0 : 0 < k) {w : World} {b o cap : Nat} {l : List α} (hl : 0 < l.length) (h : RowsAt k f w (some ⟨b, o, none⟩) cap l) :
    ∀ j u, (l.flatMap f)[j]? = some u → w.cell? ((⟨b, o, none⟩ : Addr).add j) = some u := by
  intro j u hu
  obtain ⟨b', o', he, hc⟩ := h.at' hl
  injection he with he
  injection he with e1 e2
  subst e1 e2
  have hj : j < l.length * k := by
    have := (List.getElem?_eq_some_iff.1 hu).1
    rwa [flats_length hk] at this
  have hdiv : j / k < l.length := Nat.div_lt_of_lt_mul (by rw [Nat.mul_comm]; exact hj)
  have hj2 : j / k * k + j % k = j := Nat.div_add_mod' j k
  have hg := flats_get hk l (j / k) (j % k) hdiv (Nat.mod_lt _ h0)
  rw [hj2, hu] at hg
  have := hc (j / k) hdiv (j % k) u hg.symm
  rw [add_at]
  rwa [show o + j / k * k + j % k = o + j by omega] at this
end

/-- append onto a row of the call's own: behind it the old row reads as it read. -/
theorem append_both {P : Program} (w : World) (t ty : TypeId) (base : Nat) (e : TypeId) (i : TypeInfo) (z : Value) (size bytes : Nat) (ht : P.underlying t = some (.slice e)) (hi : P.info? e = some i) (hz : i.zero = some z)
    (hsize : i.size = size) (hby : i.bytes = bytes) (hzs : z.cells.size = size) (hsz : 0 < size)
    (v : Value) (n : Nat) (xs : List Value) (hown : w.ownsRow base e size v n xs)
    (ad : Addr) (m c : Nat) (news : List Value) (hl : news.length = m * size) (hnews : ∀ j u, news[j]? = some u → w.cell? (ad.add j) = some u) (h1 : ∀ u ∈ news, u.oneCell' = true)
    (hm : 0 < m) (h63 : n + m ≤ maxLen) (hbytes : (n + m) * bytes ≤ 140737488355328) (hbase : base ≤ w.heap.size) :
    ∃ g cap w', (Builtin.append_ #[t, t] ty #[v, .slice (some ad) m c]).run P w = .ok (.slice (some ⟨g, 0, none⟩) (n + m) cap) w' ∧
      w'.ownsRow base e size (.slice (some ⟨g, 0, none⟩) (n + m) cap) (n + m) (xs ++ news) ∧ w'.ownsRow base e size v n xs ∧ w.grownBy w' v.ownBlock := by
  obtain ⟨g1, cap1, w1, hr1, h2, h3, h4, h5⟩ := run_append_lies (P := P) w t ty base e i z size bytes ht hi hz hsize hby hzs hsz v n xs hown ad m c news hl hnews h1 hm h63 hbytes hbase _ rfl
  refine ⟨g1, cap1, w1, hr1, h2, ?_, h3⟩
  have hx := hown.1
  rcases hown.2 with ⟨rfl, rfl⟩ | ⟨g, cap, cur, rfl, hbg, hg, hnc, hcm, hcs, htake⟩
  · have : xs = [] := List.eq_nil_of_length_eq_zero (by simpa using hx)
    subst this
    exact World.ownsRow_nil _ _ _ _
  · subst hsize
    by_cases hroom : n + m ≤ cap
    · have hfit : n * i.size + news.length ≤ cur.size := by rw [hl, hcs, ← Nat.add_mul]; exact Nat.mul_le_mul_right _ hroom
      have hr := run_append_room (P := P) w t ty e i ht hi g n cap cur hg ad m c news hl hnews h1 hroom hfit
      rw [hr1] at hr
      injection hr with _ hw
      subst hw
      refine ⟨hx, .inr ⟨g, cap, _, rfl, hbg, setRow_heap w g cur _ e _ hg, hnc, hcm, ?_, ?_⟩⟩
      · simp only [List.size_toArray, List.length_append, List.length_take, List.length_drop, Array.length_toList]
        omega
      · rw [htake]
        simp only [List.append_assoc]
        rw [← hx]
        exact List.take_left
    · have hr := run_append_grow (P := P) w t ty e i z ht hi hz ⟨g, 0, none⟩ n cap xs hx (hown.cells (g := g) rfl) ad m c news hl hnews (by omega) (by unfold maxLen at h63; omega) (growslice_fits (by omega) (by rw [hby]; exact hbytes))
      rw [hr1] at hr
      injection hr with _ hw
      subst hw
      refine ⟨hx, .inr ⟨g, cap, cur, rfl, hbg, ?_, hnc, hcm, hcs, htake⟩⟩
      exact (heap_alloc_old _ _ (by exact (Array.getElem?_eq_some_iff.1 hg).1)).trans hg

/-- at the list of a region's operations: the block's number a letter. -/
theorem put_both {P : Program} {ops : Array Oper} {rest : List Oper} {o : Oper} {a : Act} {Q : Exit → Act → World → Prop} (w : World) (hgd : o.guard = none) (s x : Operand) (t : TypeId)
    (ho : o.op = .call { callee := .builtin .append, args := #[s, x], argTypes := #[t, t] })
    (base : Nat) (e : TypeId) (i : TypeInfo) (z : Value) (size bytes : Nat) (ht : P.underlying t = some (.slice e)) (hi : P.info? e = some i) (hz : i.zero = some z)
    (hsize : i.size = size) (hby : i.bytes = bytes) (hzs : z.cells.size = size) (hsz : 0 < size)
    (v : Value) (n : Nat) (xs : List Value) (hs : a.eval s = v) (hown : w.ownsRow base e size v n xs)
    (ad : Addr) (m c : Nat) (news : List Value) (hx : a.eval x = .slice (some ad) m c) (hl : news.length = m * size) (hnews : ∀ j u, news[j]? = some u → w.cell? (ad.add j) = some u) (h1 : ∀ u ∈ news, u.oneCell' = true)
    (hm : 0 < m) (h63 : n + m ≤ maxLen) (hbytes : (n + m) * bytes ≤ 140737488355328) (hbase : base ≤ w.heap.size)
    (h : ∀ g cap w', w'.ownsRow base e size (.slice (some ⟨g, 0, none⟩) (n + m) cap) (n + m) (xs ++ news) → w'.ownsRow base e size v n xs → w.grownBy w' v.ownBlock → wpList P ops Q rest (a.put o.dst (.slice (some ⟨g, 0, none⟩) (n + m) cap)) w') : wpList P ops Q (o :: rest) a w := by
  refine wpList_plain hgd fun K hK => ?_
  obtain ⟨g, cap, w', hr, h2, h3, h4⟩ := append_both (P := P) w t o.type base e i z size bytes ht hi hz hsize hby hzs hsz v n xs hown ad m c news hl hnews h1 hm h63 hbytes hbase
  unfold Oper.wp execOp
  simp only [ho, resolve, invoke, builtin, Sem.run_bind, Sem.run_pure, Result.andThen_ok, List.map_toArray, List.map_cons, List.map_nil, hs, hx, hr]
  exact hK _ _ (h g cap w' h2 h3 h4)

theorem own_mono {w : World} {base base' : Nat} {T : TypeId} {k n : Nat} {v : Value} {xs : List Value} (h : w.ownsRow base T k v n xs) (hb : base' ≤ base) : w.ownsRow base' T k v n xs := by
  refine ⟨h.1, ?_⟩
  rcases h.2 with h1 | ⟨g, cap, cur, hv, hbg, r⟩
  · exact .inl h1
  · exact .inr ⟨g, cap, cur, hv, Nat.le_trans hb hbg, r⟩
theorem info_parts {i : Option TypeInfo} {z : Option Value} {n m : Nat} (h : i.map (fun i => (i.zero, i.size, i.bytes)) = some (z, n, m)) : ∃ i0, i = some i0 ∧ i0.zero = z ∧ i0.size = n ∧ i0.bytes = m := by
  cases i with
  | none => simp at h
  | some i0 => simp only [Option.map_some, Option.some.injEq, Prod.mk.injEq] at h; exact ⟨i0, rfl, h.1, h.2.1, h.2.2⟩
theorem add_nil (x : Addr) : x.add 0 = x := by unfold Addr.add; simp
end Go.Proofs.YtiobcgolcoocnaaGreatDoor.Rg

namespace Go.Proofs.YtiobcgolcoocnaaGreatDoor.Rg
open Go.RowKit
set_option linter.unusedVariables false

/-- another world, of draws alone. -/
def Drew (w w' : World) : Prop := ∃ n, w.drewN n = w'
theorem Drew.refl (w : World) : Drew w w := ⟨0, rfl⟩
theorem Drew.more {w w' : World} (h : Drew w w') (m : Nat) : Drew w (w'.drewN m) := by
  obtain ⟨n, rfl⟩ := h
  exact ⟨n + m, by simp [World.drewN_drewN]⟩
theorem Drew.below {w w' : World} (h : Drew w w') : Below w.heap.size w w' := by
  obtain ⟨n, rfl⟩ := h
  exact Below.drewN (Below.refl _ _) _
end Go.Proofs.YtiobcgolcoocnaaGreatDoor.Rg

namespace Go.Proofs.YtiobcgolcoocnaaGreatDoor.Sh
open Go.RowKit Rg
set_option linter.unusedVariables false
set_option linter.unusedSimpArgs false

theorem ret_bool {a b : Bool} (h : a = b) : Ending.returned (.bool a) = .returned (.bool b) := by rw [h]
def u64m (x : Int) (k : Nat) : Nat := (IntKind.u64.wrap x % k).toNat
theorem u64_mod (p : Int) (k : Nat) (hk : 0 < k) : (IntKind.u64.wrap p).tmod k = (u64m p k : Int) ∧ u64m p k < k := by
  have h : 0 ≤ IntKind.u64.wrap p := by rw [IntKind.wrap_u64]; omega
  rw [Int.tmod_eq_emod_of_nonneg h]
  have h1 := Int.emod_nonneg (IntKind.u64.wrap p) (show (k : Int) ≠ 0 by omega)
  have h2 := Int.emod_lt_of_pos (IntKind.u64.wrap p) (show (0 : Int) < (k : Int) by omega)
  unfold u64m
  omega
theorem u64_rem (p : Int) (k : Nat) (hk : 0 < k) : ∃ q : Nat, (IntKind.u64.wrap p).tmod k = (q : Int) ∧ q < k := by
  have h : 0 ≤ IntKind.u64.wrap p := by rw [IntKind.wrap_u64]; omega
  rw [Int.tmod_eq_emod_of_nonneg h]
  have h1 := Int.emod_nonneg (IntKind.u64.wrap p) (show (k : Int) ≠ 0 by omega)
  have h2 := Int.emod_lt_of_pos (IntKind.u64.wrap p) (show (0 : Int) < (k : Int) by omega)
  exact ⟨((IntKind.u64.wrap p) % k).toNat, by omega, by omega⟩
theorem set_heap {w : World} {g : Nat} {cs : Array Value} {t : TypeId} {fr : Nat × Nat} (h : w.heap[g]? = some (.cells cs t fr)) (i : Nat) (u : Value) : (w.setCell ⟨g, i, none⟩ u).heap[g]? = some (.cells (cs.setIfInBounds i u) t fr) := by
  simp [World.setCell, Array.getElem?_modify, h]
theorem box_bl {w w' : World} {g : Nat} {o : Obj} (h : w.heap[g]? = some o) (hb : Below w.heap.size w w') : w'.heap[g]? = some o := (hb.block _ (Array.getElem?_eq_some_iff.1 h).1).trans h
theorem box_al {w : World} {g : Nat} {o : Obj} (h : w.heap[g]? = some o) (o1 : Obj) : (w.alloc o1).heap[g]? = some o := (Below.heap_alloc w o1 g (Array.getElem?_eq_some_iff.1 h).1).trans h
theorem box_lt {w : World} {g : Nat} {o : Obj} (h : w.heap[g]? = some o) : g < w.heap.size ∧ ¬ g = w.heap.size ∧ ¬ g = w.heap.size + 1 := by
  have := (Array.getElem?_eq_some_iff.1 h).1
  omega
theorem low_al {B : Nat} {w w' : World} (h : Below B w w') (hB : B ≤ w.heap.size) (o : Obj) : Below B w (w'.alloc o) := h.alloc (Nat.le_trans hB h.size) o
theorem one_box {w : World} (o1 : Obj) : (w.alloc o1).heap[w.heap.size]? = some o1 ∧ Below w.heap.size w (w.alloc o1) ∧ (w.alloc o1).heap.size = w.heap.size + 1 :=
  ⟨heap_alloc_new _ _, (Below.refl _ _).alloc (Nat.le_refl _) _, by simp⟩
/-- two boxes made. -/
theorem two_box {w : World} (o1 o2 : Obj) : ((w.alloc o1).alloc o2).heap[w.heap.size]? = some o1 ∧ ((w.alloc o1).alloc o2).heap[w.heap.size + 1]? = some o2 ∧ Below w.heap.size w ((w.alloc o1).alloc o2) ∧ ((w.alloc o1).alloc o2).heap.size = w.heap.size + 2 := by
  refine ⟨by rw [Below.heap_alloc _ _ _ (by simp), heap_alloc_new], ?_, ((Below.refl _ _).alloc (Nat.le_refl _) _).alloc (by simp) _, by simp⟩
  have := heap_alloc_new (w.alloc o1) o2
  rwa [show (w.alloc o1).heap.size = w.heap.size + 1 by simp] at this

theorem far_set {B : Nat} {w w' : World} {g i : Nat} {v : Value} (h : ∀ b, B ≤ b → w'.heap[b]? = w.heap[b]?) (hg : g < B) : ∀ b, B ≤ b → (w'.setCell ⟨g, i, none⟩ v).heap[b]? = w.heap[b]? :=
  fun b hb => (Below.heap_setCell w' ⟨g, i, none⟩ v b (by show b ≠ g; omega)).trans (h b hb)
theorem low_set {B : Nat} {w w' : World} {g i : Nat} {v : Value} (h : Below B w w') (hg : B ≤ g) : Below B w (w'.setCell ⟨g, i, none⟩ v) := h.setCell (p := ⟨g, i, none⟩) hg v

/-- a world in which all that W has is as it was. -/
structure Und (W : World) where
  wx : World
  hb : Below W.heap.size W wx
instance (W : World) : Nonempty (Und W) := ⟨⟨W, Below.refl _ _⟩⟩
theorem wp_region_quiet_below {P : Program} {id : Nat} {Q : Exit → Act → World → Prop} {a : Act} {W : World} {l : List Oper} (hm : P.follows .mixedOrders = true) (hB : Region.lexB .any l.toArray = true)
    (h : wpQuiet P l.toArray (fun w' => ∃ p : Und W, w' = p.wx) (fun a' => ∀ w', (∃ p : Und W, w' = p.wx) → Q .normal a' w') l a) : (Code.region id l.toArray true).wp P Q a W :=
  wp_region_quiet (C := fun w' => ∃ p : Und W, w' = p.wx) hm hB ⟨⟨_, (Below.refl _ _).drew⟩, rfl⟩ (by simpa using h)
theorem Calls.below_of {P : Program} {f : FuncId} {args : Array Value} {W : World} {p : Und W} {v : Value} (h : Calls P f args p.wx fun e w' => e = .returned v ∧ Below p.wx.heap.size p.wx w') : Calls P f args p.wx fun e w'' => e = .returned v ∧ ∃ q : Und W, w'' = q.wx :=
  h.mono fun _ _ ⟨he, hb⟩ => ⟨he, ⟨_, p.hb.trans (hb.mono p.hb.size)⟩, rfl⟩
theorem cell_und {W : World} {a : Addr} {v : Value} (h : W.cell? a = some v) (p : Und W) : p.wx.cell? a = some v := (p.hb.cell (World.block_lt_of_cell? W a h)).trans h


/-- a row's elements: their cells, the types' facts. -/
structure El {α : Type} (k : Nat) (f : α → List Value) (E T : TypeId) : Prop where
  pos : 0 < k
  len : ∀ x, (f x).length = k
  one : ∀ (l : List α), ∀ u ∈ l.flatMap f, u.oneCell' = true
  und : Tryz.prog.underlying T = some (.slice E)
  siz : ∀ w, (Go.sizeOf E).run Tryz.prog w = .ok k w
  info : ∃ i z bytes, Tryz.prog.info? E = some i ∧ i.zero = some z ∧ i.size = k ∧ i.bytes = bytes ∧ bytes ≤ 1000 ∧ z.cells.size = k

section
variable {α : Type} {k : Nat} {f : α → List Value} {E T : TypeId}
theorem El.src (h : El k f E T) {w : World} {x : Addr} {cap : Nat} {l : List α} (hr : RowsAt k f w (some x) cap l) : ∀ j u, (l.flatMap f)[j]? = some u → w.cell? (x.add j) = some u := by
  by_cases hl : 0 < l.length
  · obtain ⟨b, o, he, _⟩ := hr.at' hl
    injection he with he
    subst he
    exact rows_news h.len h.pos hl hr
  · obtain rfl : l = [] := List.eq_nil_of_length_eq_zero (by omega)
    intro j u hu
    simp at hu
theorem rows_nil {w : World} {cap : Nat} {l : List α} (h : RowsAt k f w none cap l) : l = [] := by
  by_cases hl : 0 < l.length
  · obtain ⟨b, o, he, _⟩ := h.at' hl
    cases he
  · exact List.eq_nil_of_length_eq_zero (by omega)
/-- the first n. -/
theorem El.front (h : El k f E T) {w : World} {a : Option Addr} {cap : Nat} {l : List α} (hr : RowsAt k f w a cap l) (hn : a = none → cap = 0) (n : Nat) (hk : n ≤ l.length) :
    RowsAt k f w a cap (l.take n) ∧ ∀ wx, (Instr.slice T (.slice a l.length cap) none (some (.int .i64 n)) none).run Tryz.prog wx = .ok (.slice a n cap) wx := by
  have hlen := hr.len
  have hmax := hr.max
  refine ⟨⟨by simp; omega, hr.max, fun h0 => ?_⟩, fun wx => ?_⟩
  · simp only [List.length_take] at h0
    obtain ⟨b, o, ha, hc⟩ := hr.at' (by omega)
    refine ⟨b, o, ha, fun i hi r v hv => ?_⟩
    simp only [List.length_take] at hi
    rw [List.getElem_take] at hv
    exact hc i (by omega) r v hv
  · cases a with
    | none =>
      obtain rfl := hn rfl
      obtain rfl : n = 0 := by omega
      simp [Instr.slice, Instr.sliceBounds, Instr.sliceBound, asIntOf, run_underlying h.und, h.siz]
    | some x =>
      simp [Instr.slice, Instr.sliceBounds, Instr.sliceBound, asIntOf, run_underlying h.und, h.siz]
      rw [if_pos (by omega), add_nil]
      simp
/-- those behind the first n. -/
theorem El.back (h : El k f E T) {w : World} {a : Option Addr} {cap : Nat} {l : List α} (hr : RowsAt k f w a cap l) (hn : a = none → cap = 0) (n : Nat) (hk : n ≤ l.length) :
    ∃ a', RowsAt k f w a' (cap - n) (l.drop n) ∧ (a' = none → cap - n = 0) ∧ ∀ wx, (Instr.slice T (.slice a l.length cap) (some (.int .i64 n)) none none).run Tryz.prog wx = .ok (.slice a' (l.drop n).length (cap - n)) wx := by
  have hlen := hr.len
  have hmax := hr.max
  cases a with
  | none =>
    obtain rfl := hn rfl
    obtain rfl : n = 0 := by omega
    refine ⟨none, by simpa using hr, fun _ => rfl, fun wx => ?_⟩
    have hl : l.length = 0 := by omega
    simp [Instr.slice, Instr.sliceBounds, Instr.sliceBound, asIntOf, run_underlying h.und, h.siz, hl]
  | some x =>
    refine ⟨some (if cap - n = 0 then x else x.add (n * k)), ⟨by simp; omega, by omega, fun h0 => ?_⟩, (fun h => by cases h), fun wx => ?_⟩
    · simp only [List.length_drop] at h0
      obtain ⟨b, o, ha, hc⟩ := hr.at' (by omega)
      injection ha with ha
      subst ha
      refine ⟨b, o + n * k, by rw [if_neg (by omega), add_at], fun i hi r v hv => ?_⟩
      simp only [List.length_drop] at hi
      rw [List.getElem_drop] at hv
      have := hc (n + i) (by omega) r v hv
      rwa [show o + (n + i) * k + r = o + n * k + i * k + r by rw [Nat.add_mul]; omega] at this
    · simp [Instr.slice, Instr.sliceBounds, Instr.sliceBound, asIntOf, run_underlying h.und, h.siz]
      rw [if_pos hk]
      by_cases hc : cap = n
      · rw [if_pos hc, if_pos (by omega)]
      · rw [if_neg hc, if_neg (by omega)]
/-- the first one, and the others. -/
theorem El.head (h : El k f E T) {w : World} {a : Option Addr} {cap : Nat} {x : α} {l : List α} (hr : RowsAt k f w a cap (x :: l)) :
    ∃ b o a', a = some ⟨b, o, none⟩ ∧ (∀ (r : Nat) (v : Value), (f x)[r]? = some v → w.cell? ⟨b, o + r, none⟩ = some v) ∧
      RowsAt k f w a' (cap - 1) l ∧ 1 ≤ cap ∧ (a' = none → cap - 1 = 0) ∧
      (∀ wx, (Instr.slice T (.slice (some ⟨b, o, none⟩) (l.length + 1) cap) (some (.int .i64 1)) none none).run Tryz.prog wx = .ok (.slice a' l.length (cap - 1)) wx) := by
  obtain ⟨b, o, ha, hc⟩ := hr.at' (by simp)
  have hlen := hr.len
  simp only [List.length_cons] at hlen
  subst ha
  obtain ⟨a', h1, h2, h3⟩ := h.back hr (fun e => by cases e) 1 (by simp)
  refine ⟨b, o, a', rfl, fun r v hv => ?_, by simpa using h1, by omega, h2, fun wx => by simpa using h3 wx⟩
  have := hc 0 (by simp) r v (by simpa using hv)
  rwa [show o + 0 * k + r = o + r by omega] at this

/-! ### rows of the call's own -/
def OwnE (k : Nat) (f : α → List Value) (E : TypeId) (w : World) (base : Nat) (v : Value) (l : List α) : Prop := w.ownsRow base E k v l.length (l.flatMap f)
theorem OwnE.nil (k : Nat) (f : α → List Value) (E : TypeId) (w : World) (base : Nat) : OwnE k f E w base (.slice none 0 0) [] := World.ownsRow_nil w base _ _
theorem OwnE.at (h0 : El k f E T) {w : World} {base : Nat} {v : Value} {l : List α} (h : OwnE k f E w base v l) : ∃ a cap, v = .slice a l.length cap ∧ RowsAt k f w a cap l ∧ (a = none → cap = 0) := by
  rcases h.2 with ⟨rfl, hn⟩ | ⟨g, cap, cur, rfl, hbg, hg, hnc, hcm, hcs, htake⟩
  · obtain rfl : l = [] := List.eq_nil_of_length_eq_zero hn
    exact ⟨none, 0, rfl, RowsAt.nil _ _ _ _ _ (by simp [maxLen]), fun _ => rfl⟩
  · obtain ⟨a, c, e, hr⟩ := rows_of_own h0.len h
    cases e
    exact ⟨_, _, rfl, hr, fun e => by cases e⟩
theorem OwnE.below1 {w w' : World} {base : Nat} {v : Value} {l : List α} (h : OwnE k f E w base v l) (hb : Below w.heap.size w w') : OwnE k f E w' base v l := owns_below1 h hb
theorem OwnE.mono {w : World} {base base' : Nat} {v : Value} {l : List α} (h : OwnE k f E w base v l) (hb : base' ≤ base) : OwnE k f E w base' v l := own_mono h hb
theorem OwnE.kept {w w' : World} {base : Nat} {v : Value} {l : List α} (h : OwnE k f E w base v l) (hk : ∀ b, base ≤ b → b < w.heap.size → w'.heap[b]? = w.heap[b]?) : OwnE k f E w' base v l := by
  refine ⟨h.1, ?_⟩
  rcases h.2 with h1 | ⟨g, cap, cur, hv, hbg, hg, r⟩
  · exact .inl h1
  · exact .inr ⟨g, cap, cur, hv, hbg, (hk g hbg (Array.getElem?_eq_some_iff.1 hg).1).trans hg, r⟩
theorem OwnE.grown {w w' w0 : World} {base : Nat} {v : Value} {l : List α} (h : Below base w0 w) (hb : OwnE k f E w base v l) (hg : w.grownBy w' v.ownBlock) (hbase : base ≤ w.heap.size) : Below base w0 w' :=
  h.grown hg hbase (fun b e => (World.ownsRow.lt hb b e).1)
theorem OwnE.drewN {w : World} {base : Nat} {v : Value} {l : List α} (h : OwnE k f E w base v l) (n : Nat) : OwnE k f E (w.drewN n) base v l := h.below1 (Below.drewN (Below.refl _ _) n)
theorem OwnE.lit (h0 : El k f E T) (w : World) (base : Nat) (hb : base ≤ w.heap.size) : OwnE k f E (w.alloc (.cells #[] E)) base (.slice (some ⟨w.heap.size, 0, none⟩) 0 0) ([] : List α) := World.ownsRow_lit w #[] 0 hb (by decide) (by simp)

theorem run_rows (h0 : El k f E T) {w : World} {base : Nat} {v : Value} {l m : List α} {a0 : Option Addr} {cap : Nat} (ty : TypeId) (hb : OwnE k f E w base v l) (hbase : base ≤ w.heap.size) (hat : RowsAt k f w a0 cap m) (hsz : l.length + m.length ≤ 1000000) (hn0 : a0 = none → cap = 0) :
    ∃ v' w', (Builtin.append_ #[T, T] ty #[v, .slice a0 m.length cap]).run Tryz.prog w = .ok v' w' ∧ OwnE k f E w' base v' (l ++ m) ∧ w.grownBy w' v.ownBlock := by
  obtain ⟨i0, z, by', hi, hz0, hz1, hz2, hz3, hz4⟩ := h0.info
  cases a0 with
  | none =>
    obtain rfl := rows_nil hat
    obtain rfl := hn0 rfl
    exact ⟨v, w, run_append_owned_none w base T ty E i0 k h0.und hi v _ _ hb, by simpa using hb, rfl, rfl, rfl, Nat.le_refl _, fun _ _ _ => rfl⟩
  | some x =>
    have hby : (l.length + m.length) * by' ≤ 140737488355328 := Nat.le_trans (Nat.mul_le_mul hsz hz3) (by decide)
    obtain ⟨v', w', hr, h2, h3, _, _⟩ := run_append_own_at (P := Tryz.prog) w base T ty E i0 _ k by' h0.und hi hz0 hz1 hz2 hz4 h0.pos v l.length (l.flatMap f) hb x m.length cap (m.flatMap f) (flats_length h0.len m) (h0.src hat) (h0.one m) (by unfold maxLen; omega) hby hbase
    refine ⟨v', w', hr, ?_, h3⟩
    unfold OwnE
    rw [List.length_append, List.flatMap_append]
    exact h2
theorem put_rows (h0 : El k f E T) {ops : Array Oper} {rest : List Oper} {o : Oper} {a : Act} {Q : Exit → Act → World → Prop} {w : World} {base : Nat} {v : Value} {l m : List α} {a0 : Option Addr} {cap : Nat} (hgd : o.guard = none) (s y : Operand)
    (ho : o.op = .call { callee := .builtin .append, args := #[s, y], argTypes := #[T, T] }) (hb : OwnE k f E w base v l) (hbase : base ≤ w.heap.size)
    (hs : a.eval s = v) (n : Nat) (hx : a.eval y = .slice a0 n cap) (hn : n = m.length) (hat : RowsAt k f w a0 cap m) (hsz : l.length + m.length ≤ 1000000) (hn0 : a0 = none → cap = 0)
    (h : ∀ v' w', OwnE k f E w' base v' (l ++ m) → w.grownBy w' v.ownBlock → wpList Tryz.prog ops Q rest (a.put o.dst v') w') : wpList Tryz.prog ops Q (o :: rest) a w := by
  subst hn
  refine wpList_plain hgd fun K hK => ?_
  obtain ⟨v', w', hr, h2, h3⟩ := run_rows h0 o.type hb hbase hat hsz hn0
  unfold Oper.wp execOp
  simp only [ho, resolve, invoke, builtin, Sem.run_bind, Sem.run_pure, Result.andThen_ok, List.map_toArray, List.map_cons, List.map_nil, hs, hx, hr]
  exact hK _ _ (h v' w' h2 h3)
theorem step_put_rows (h0 : El k f E T) {ops : Array Oper} {o : Oper} {a : Act} {K : Act → World → Prop} {Q : Exit → Act → World → Prop} {Z : Prop} {w : World} {base : Nat} {v : Value} {l m : List α} {a0 : Option Addr} {cap : Nat} (hgd : o.guard = none) (s y : Operand)
    (ho : o.op = .call { callee := .builtin .append, args := #[s, y], argTypes := #[T, T] }) (hb : OwnE k f E w base v l) (hbase : base ≤ w.heap.size)
    (hs : a.eval s = v) (n : Nat) (hx : a.eval y = .slice a0 n cap) (hn : n = m.length) (hat : RowsAt k f w a0 cap m) (hsz : l.length + m.length ≤ 1000000) (hn0 : a0 = none → cap = 0)
    (h : ∀ v' w', OwnE k f E w' base v' (l ++ m) → w.grownBy w' v.ownBlock → K (a.put o.dst v') w') :
    if Region.wanted o (yielded ops a.tmps) = true then Oper.wp Tryz.prog o a w K Q else Z := by
  subst hn
  rw [if_pos (by simp [Region.wanted, hgd])]
  obtain ⟨v', w', hr, h2, h3⟩ := run_rows h0 o.type hb hbase hat hsz hn0
  unfold Oper.wp execOp
  simp only [ho, resolve, invoke, builtin, Sem.run_bind, Sem.run_pure, Result.andThen_ok, List.map_toArray, List.map_cons, List.map_nil, hs, hx, hr]
  exact h v' w' h2 h3
/-- one more: it lies in the block made last. -/
theorem run_one (h0 : El k f E T) {w : World} {base : Nat} {v : Value} {l : List α} (ty : TypeId) (x : α) (hb : OwnE k f E w base v l) (hbase : base ≤ w.heap.size) (hl : l.length ≤ 900000) (cs : Array Value) (hcs : cs = (f x).toArray) :
    ∃ v' w', (Builtin.append_ #[T, T] ty #[v, .slice (some ⟨w.heap.size, 0, none⟩) 1 1]).run Tryz.prog (w.alloc (.cells cs E)) = .ok v' w' ∧ OwnE k f E w' base v' (l ++ [x]) ∧ w.grownBy w' v.ownBlock := by
  subst hcs
  have hat : RowsAt k f (w.alloc (.cells (f x).toArray E)) (some ⟨w.heap.size, 0, none⟩) 1 [x] := ⟨by simp, by simp [maxLen], fun _ => ⟨_, _, rfl, fun i hi r u hu => by
    simp at hi
    subst hi
    rw [cell_of_row _ _ _ _ _ _ (heap_alloc_new w _)]
    simpa using hu⟩⟩
  obtain ⟨v', w', h1, h2, h3⟩ := run_rows h0 ty (World.ownsRow.alloc hb _ : OwnE k f E _ base v l) (by simp; omega) hat (by simp; omega) (fun e => by cases e)
  exact ⟨v', w', h1, h2, alloc_before h3⟩
theorem put_one (h0 : El k f E T) {ops : Array Oper} {rest : List Oper} {o : Oper} {a : Act} {Q : Exit → Act → World → Prop} {w : World} {base : Nat} {v : Value} {l : List α} (x : α) (hgd : o.guard = none) (s y : Operand)
    (ho : o.op = .call { callee := .builtin .append, args := #[s, y], argTypes := #[T, T] }) (hb : OwnE k f E w base v l) (hbase : base ≤ w.heap.size) (hl : l.length ≤ 900000) (cs : Array Value) (hcs : cs = (f x).toArray)
    (hs : a.eval s = v) (H : Nat) (hH : w.heap.size = H) (hx : a.eval y = .slice (some ⟨H, 0, none⟩) 1 1)
    (h : ∀ v' w', OwnE k f E w' base v' (l ++ [x]) → w.grownBy w' v.ownBlock → wpList Tryz.prog ops Q rest (a.put o.dst v') w') :
    wpList Tryz.prog ops Q (o :: rest) a (w.alloc (.cells cs E)) := by
  subst hH
  refine wpList_plain hgd fun K hK => ?_
  obtain ⟨v', w', hr, h2, h3⟩ := run_one h0 o.type x hb hbase hl cs hcs
  unfold Oper.wp execOp
  simp only [ho, resolve, invoke, builtin, Sem.run_bind, Sem.run_pure, Result.andThen_ok, List.map_toArray, List.map_cons, List.map_nil, hs, hx, hr]
  exact hK _ _ (h v' w' h2 h3)
theorem step_put_one (h0 : El k f E T) {ops : Array Oper} {o : Oper} {a : Act} {K : Act → World → Prop} {Q : Exit → Act → World → Prop} {Z : Prop} {w : World} {base : Nat} {v : Value} {l : List α} (x : α) (hgd : o.guard = none) (s y : Operand)
    (ho : o.op = .call { callee := .builtin .append, args := #[s, y], argTypes := #[T, T] }) (hb : OwnE k f E w base v l) (hbase : base ≤ w.heap.size) (hl : l.length ≤ 900000) (cs : Array Value) (hcs : cs = (f x).toArray)
    (hs : a.eval s = v) (H : Nat) (hH : w.heap.size = H) (hx : a.eval y = .slice (some ⟨H, 0, none⟩) 1 1)
    (h : ∀ v' w', OwnE k f E w' base v' (l ++ [x]) → w.grownBy w' v.ownBlock → K (a.put o.dst v') w') :
    if Region.wanted o (yielded ops a.tmps) = true then Oper.wp Tryz.prog o a (w.alloc (.cells cs E)) K Q else Z := by
  subst hH
  rw [if_pos (by simp [Region.wanted, hgd])]
  obtain ⟨v', w', hr, h2, h3⟩ := run_one h0 o.type x hb hbase hl cs hcs
  unfold Oper.wp execOp
  simp only [ho, resolve, invoke, builtin, Sem.run_bind, Sem.run_pure, Result.andThen_ok, List.map_toArray, List.map_cons, List.map_nil, hs, hx, hr]
  exact h v' w' h2 h3
end
theorem el_info {E : TypeId} {k by' : Nat} {z : Value} (h : (Tryz.prog.info? E).map (fun i => (i.zero, i.size, i.bytes)) = some (some z, k, by')) (h1 : by' ≤ 1000) (h2 : z.cells.size = k) : ∃ i z bytes, Tryz.prog.info? E = some i ∧ i.zero = some z ∧ i.size = k ∧ i.bytes = bytes ∧ bytes ≤ 1000 ∧ z.cells.size = k := by
  obtain ⟨i0, h3, h4, h5, h6⟩ := info_parts h
  exact ⟨i0, z, by', h3, h4, h5, h6, h1, h2⟩

/-- a row, from cell p on written over. -/
def over (cur : Array Value) (p : Nat) (news : List Value) : Array Value := (cur.toList.take p ++ news ++ cur.toList.drop (p + news.length)).toArray
theorem over_size {cur : Array Value} {p : Nat} {news : List Value} (h : p + news.length ≤ cur.size) : (over cur p news).size = cur.size := by
  unfold over
  simp only [List.size_toArray, List.length_append, List.length_take, List.length_drop, Array.length_toList]
  omega
theorem over_take {cur : Array Value} {p q : Nat} {news : List Value} (h : q ≤ p) (hp : p ≤ cur.size) : (over cur p news).toList.take q = cur.toList.take q := by
  unfold over
  rw [List.append_assoc, List.take_append_of_le_length (by simp; omega), List.take_take, Nat.min_eq_left h]
theorem over_to {cur : Array Value} {p : Nat} {news : List Value} (hp : p ≤ cur.size) : (over cur p news).toList.take (p + news.length) = cur.toList.take p ++ news := by
  unfold over
  have h1 : (cur.toList.take p).length = p := by rw [List.length_take, Array.length_toList]; omega
  have h2 : (cur.toList.take p ++ news).length = p + news.length := by rw [List.length_append, h1]
  rw [← h2]
  exact List.take_left

section
variable {α : Type} {k : Nat} {f : α → List Value} {E T : TypeId}
theorem run_store_row {w : World} {g : Nat} {cur : Array Value} (hg : w.heap[g]? = some (.cells cur E (0, 0))) (p : Nat) (news : List Value) (hfit : p + news.length ≤ cur.size) (h1 : ∀ u ∈ news, u.oneCell' = true) :
    (storeCells ⟨g, p, none⟩ news).run Tryz.prog w = .ok () (w.setRow g (over cur p news)) := by
  have := run_storeCells_at Tryz.prog g p E news 0 cur w hg (by simpa using hfit) h1
  unfold over
  simpa using this
theorem flat_take (h0 : El k f E T) (l : List α) (n : Nat) : (l.flatMap f).take (n * k) = (l.take n).flatMap f := by
  induction l generalizing n with
  | nil => simp
  | cons x l ih =>
    cases n with
    | zero => simp
    | succ n =>
      rw [List.flatMap_cons, List.take_succ_cons, List.flatMap_cons, ← ih n, Nat.add_mul, Nat.one_mul, Nat.add_comm, List.take_append, h0.len, List.take_of_length_le (by rw [h0.len]; omega), Nat.add_sub_cancel_left]
/-- what a row of the call's own is. -/
theorem OwnE.row {w : World} {base : Nat} {v : Value} {l : List α} (h : OwnE k f E w base v l) (hl : 0 < l.length) :
    ∃ g cap cur, v = .slice (some ⟨g, 0, none⟩) l.length cap ∧ base ≤ g ∧ w.heap[g]? = some (.cells cur E (0, 0)) ∧ l.length ≤ cap ∧ cap ≤ maxLen ∧ cur.size = cap * k ∧ cur.toList.take (l.length * k) = l.flatMap f := by
  rcases h.2 with ⟨_, hz⟩ | ⟨g, cap, cur, rfl, hbg, hg, hnc, hcm, hcs, htake⟩
  · omega
  · exact ⟨g, cap, cur, rfl, hbg, hg, hnc, hcm, hcs, htake⟩
theorem OwnE.of_row (h0 : El k f E T) {w : World} {base g cap : Nat} {cur : Array Value} {l : List α} (hg : w.heap[g]? = some (.cells cur E (0, 0))) (hb : base ≤ g) (h1 : l.length ≤ cap) (h2 : cap ≤ maxLen) (h3 : cur.size = cap * k) (h4 : cur.toList.take (l.length * k) = l.flatMap f) :
    OwnE k f E w base (.slice (some ⟨g, 0, none⟩) l.length cap) l := ⟨flats_length h0.len l, .inr ⟨g, cap, cur, rfl, hb, hg, h1, h2, h3, h4⟩⟩
theorem row_grown (w : World) (g : Nat) (c : Array Value) : w.grownBy (w.setRow g c) (some g) :=
  ⟨rfl, rfl, rfl, by simp [World.setRow], fun b _ hb => by simp [World.setRow, Array.getElem?_modify, show ¬ g = b from fun e => hb (by rw [e])]⟩
theorem grown_trans {w w1 w2 : World} {r : Option Nat} (h : w.grownBy w1 r) (h2 : w1.grownBy w2 r) : w.grownBy w2 r :=
  ⟨h2.os.trans h.os, h2.tape.trans h.tape, h2.output.trans h.output, Nat.le_trans h.size h2.size, fun b hb hr => (h2.block b (Nat.lt_of_lt_of_le hb h.size) hr).trans (h.block b hb hr)⟩
/-- the zero value of an element. -/
def ZOk (k : Nat) (E : TypeId) : Prop := ∃ i z, Tryz.prog.info? E = some i ∧ i.zero = some z ∧ z.cells.size = k ∧ ∀ u ∈ z.cells.toList, u.oneCell' = true
theorem run_clear_one (h0 : El k f E T) (hz : ZOk k E) {w : World} {g p n c : Nat} {cur : Array Value} (ty : TypeId) (hg : w.heap[g]? = some (.cells cur E (0, 0))) (hn : n = 1) (hfit : p + k ≤ cur.size) :
    ∃ zs : List Value, zs.length = k ∧ (Builtin.clear_ #[T] ty #[.slice (some ⟨g, p, none⟩) n c]).run Tryz.prog w = .ok (.tuple #[]) (w.setRow g (over cur p zs)) := by
  subst hn
  obtain ⟨i0, z, hi, hz0, hz1, hz2⟩ := hz
  have hzl : (Builtin.zeroCells z.cells 1).toList = z.cells.toList := by
    apply List.ext_getElem
    · simp [Builtin.zeroCells]
    · intro i h1 h2
      simp [Builtin.zeroCells]
      have : i < z.cells.size := by simpa using h2
      rw [Nat.mod_eq_of_lt this]
      simp [this]
  refine ⟨z.cells.toList, by simpa using hz1, ?_⟩
  have hst := run_store_row hg p z.cells.toList (by simpa [hz1] using hfit) hz2
  simp [Builtin.clear_, run_underlying h0.und, zeroValue, typeInfo, hi, hz0, hzl, hst]
theorem z_ok {E : TypeId} {k by' : Nat} {z : Value} (h : (Tryz.prog.info? E).map (fun i => (i.zero, i.size, i.bytes)) = some (some z, k, by')) (h2 : z.cells.size = k) (h3 : ∀ u ∈ z.cells.toList, u.oneCell' = true) : ZOk k E := by
  obtain ⟨i0, h4, h5, h6, h7⟩ := info_parts h
  exact ⟨i0, z, h4, h5, h2, h3⟩

/-- a slice's run with three bounds: some value. -/
theorem run_slice3 (h0 : El k f E T) (a : Addr) (n cap i : Nat) (hi : i < n) (hn : n ≤ cap) : ∃ v, ∀ wx, (Instr.slice T (.slice (some a) n cap) (some (.int .i64 i)) (some (.int .i64 ((i : Int) + 1))) (some (.int .i64 n))).run Tryz.prog wx = .ok v wx := by
  have e1 : ((i : Int) + 1).toNat = i + 1 := by omega
  have e2 : (i : Int) ≤ (i : Int) + 1 := by omega
  have e3 : (i : Int) + 1 ≤ (n : Int) := by omega
  have e4 : (n : Int) ≤ (cap : Int) := by omega
  have e5 : (0 : Int) ≤ (i : Int) + 1 := by omega
  refine ⟨.slice (some (a.add (i * k))) 1 (n - i), fun wx => ?_⟩
  simp [Instr.slice, Instr.sliceBounds, Instr.sliceBound, asIntOf, run_underlying h0.und, h0.siz, e1, e2, e3, e4, e5]
  rw [if_pos hn, if_neg (by omega)]
set_option maxRecDepth 100000 in
/-- the row without its i-th element, behind append(s[:i], s[i+1:]...). -/
theorem run_cut_out (h0 : El k f E T) {w : World} {g cap i : Nat} {cur : Array Value} {l : List α} {b : Option Addr} {m c : Nat} (ty : TypeId) (hg : w.heap[g]? = some (.cells cur E (0, 0))) (hi : i < l.length) (hlc : l.length ≤ cap) (hsz : cur.size = cap * k) (htk : cur.toList.take (l.length * k) = l.flatMap f)
    (hm : m = l.length - (i + 1)) (hb : RowsAt k f w b c (l.drop (i + 1))) (hbs : b ≠ none) :
    ∃ cur', (Builtin.append_ #[T, T] ty #[.slice (some ⟨g, 0, none⟩) i cap, .slice b m c]).run Tryz.prog w = .ok (.slice (some ⟨g, 0, none⟩) (l.length - 1) cap) (w.setRow g cur') ∧ cur'.size = cap * k ∧ cur'.toList.take ((l.length - 1) * k) = (l.eraseIdx i).flatMap f := by
  obtain ⟨i0, z, by', hi0, hz0, hz1, hz2, hz3, hz4⟩ := h0.info
  obtain ⟨x, rfl⟩ : ∃ x, b = some x := by cases b with
    | none => exact absurd rfl hbs
    | some x => exact ⟨x, rfl⟩
  have hlen : ((l.drop (i + 1)).flatMap f).length = m * k := by rw [flats_length h0.len, List.length_drop, hm]
  have hle : (l.length - 1) * k ≤ cap * k := Nat.mul_le_mul_right _ (by omega)
  have hsum : i * k + m * k = (l.length - 1) * k := by rw [← Nat.add_mul]; congr 1; omega
  have hfit : i * i0.size + ((l.drop (i + 1)).flatMap f).length ≤ cur.size := by rw [hz1, hlen, hsz]; omega
  have hr := run_append_room (P := Tryz.prog) w T ty E i0 h0.und hi0 g i cap cur hg x m c ((l.drop (i + 1)).flatMap f) (by rw [hlen, hz1]) (h0.src hb) (h0.one _) (by omega) hfit
  have hik : i * k ≤ cur.size := by rw [hsz]; exact Nat.mul_le_mul_right _ (by omega)
  refine ⟨over cur (i * k) ((l.drop (i + 1)).flatMap f), ?_, ?_, ?_⟩
  · rw [hr, hz1, show i + m = l.length - 1 by omega]; rfl
  · rw [over_size (by rw [hlen, hsz]; omega)]; exact hsz
  · rw [← hsum, ← hlen, over_to hik, List.eraseIdx_eq_take_drop_succ, List.flatMap_append]
    congr 1
    rw [← flat_take h0 l i, ← htk, List.take_take, Nat.min_eq_left (Nat.mul_le_mul_right _ (by omega))]
end

theorem step_run2 {P : Program} {ops : Array Oper} {o : Oper} {a : Act} {w : World} {K : Act → World → Prop} {Q : Exit → Act → World → Prop} {Z : Prop}
    (hg : o.guard = none) (d x : Operand) (dT sT : TypeId) (hop : o.op = Op.call { callee := Callee.builtin Builtin.append, args := #[d, x], argTypes := #[dT, sT] })
    (v u : Value) (hd : a.eval d = v) (hx : a.eval x = u) {v' : Value} {w' : World} (hr : (Builtin.append_ #[dT, sT] o.type #[v, u]).run P w = .ok v' w') (hK : K (a.put o.dst v') w') :
    if Region.wanted o (yielded ops a.tmps) = true then Oper.wp P o a w K Q else Z := by
  have hw : Region.wanted o (yielded ops a.tmps) = true := by simp [Region.wanted, hg]
  rw [if_pos hw]
  unfold Oper.wp
  simp [execOp, hop, resolve, invoke, builtin, hd, hx, hr, Result.andThen]
  exact hK

end Go.Proofs.YtiobcgolcoocnaaGreatDoor.Sh

namespace Go.Proofs.YtiobcgolcoocnaaGreatDoor.Bt
open Go.RowKit Rg Sh
set_option linter.unusedVariables false
set_option linter.unusedSimpArgs false

theorem _root_.Go.Proofs.YtiobcgolcoocnaaGreatDoor.Kept.drewN {bs : List Nat} {a w : World} (h : Kept bs a w) (n : Nat) : Kept bs a (w.drewN n) := ⟨h.os, h.tape, h.output, h.size, h.block⟩
/-! a row with one more: in its old block or in one just made. -/
section
variable {α : Type} {k : Nat} {f : α → List Value} {E T : TypeId}
theorem run_lies (h0 : El k f E T) {w : World} {base : Nat} {v : Value} {l : List α} (ty : TypeId) (x : α) (hb : OwnE k f E w base v l) (hbase : base ≤ w.heap.size) (hl : l.length ≤ 900000) (cs : Array Value) (hcs : cs = (f x).toArray) :
    ∃ v' w', (Builtin.append_ #[T, T] ty #[v, .slice (some ⟨w.heap.size, 0, none⟩) 1 1]).run Tryz.prog (w.alloc (.cells cs E)) = .ok v' w' ∧ OwnE k f E w' base v' (l ++ [x]) ∧ w.grownBy w' v.ownBlock ∧ (∀ j, v'.ownBlock = some j → v.ownBlock = some j ∨ w.heap.size ≤ j) := by
  subst hcs
  obtain ⟨i0, z, by', hi, hz0, hz1, hz2, hz3, hz4⟩ := h0.info
  have hby : (l.length + 1) * by' ≤ 140737488355328 := Nat.le_trans (Nat.mul_le_mul (show l.length + 1 ≤ 1000000 by omega) hz3) (by decide)
  obtain ⟨v', w', hr, h2, h3, _, h5⟩ := run_append_own_at (P := Tryz.prog) (w := w.alloc (.cells (f x).toArray E)) base T ty E i0 _ k by' h0.und hi hz0 hz1 hz2 hz4 h0.pos v l.length (l.flatMap f) (World.ownsRow.alloc hb _) ⟨w.heap.size, 0, none⟩ 1 1 (f x) (by simp [h0.len]) (World.news_of_block (heap_alloc_new w _)) (by simpa using h0.one [x]) (by unfold maxLen; omega) hby (by simp; omega)
  refine ⟨v', w', hr, ?_, alloc_before h3, ?_⟩
  · unfold OwnE
    rw [List.length_append, List.flatMap_append]
    simpa using h2
  · intro j hj
    rcases h5 with h5 | h5
    · exact .inl (h5 ▸ hj)
    · rw [h5] at hj
      cases hj
      exact .inr (by simp)
theorem step_put_lies (h0 : El k f E T) {ops : Array Oper} {o : Oper} {a : Act} {K : Act → World → Prop} {Q : Exit → Act → World → Prop} {Z : Prop} {w : World} {base : Nat} {v : Value} {l : List α} (x : α) (hgd : o.guard = none) (s y : Operand)
    (ho : o.op = .call { callee := .builtin .append, args := #[s, y], argTypes := #[T, T] }) (hb : OwnE k f E w base v l) (hbase : base ≤ w.heap.size) (hl : l.length ≤ 900000) (cs : Array Value) (hcs : cs = (f x).toArray)
    (hs : a.eval s = v) (H : Nat) (hH : w.heap.size = H) (hx : a.eval y = .slice (some ⟨H, 0, none⟩) 1 1)
    (h : ∀ v' w', OwnE k f E w' base v' (l ++ [x]) → w.grownBy w' v.ownBlock → (∀ j, v'.ownBlock = some j → v.ownBlock = some j ∨ w.heap.size ≤ j) → K (a.put o.dst v') w') :
    if Region.wanted o (yielded ops a.tmps) = true then Oper.wp Tryz.prog o a (w.alloc (.cells cs E)) K Q else Z := by
  subst hH
  rw [if_pos (by simp [Region.wanted, hgd])]
  obtain ⟨v', w', hr, h2, h3, h4⟩ := run_lies h0 o.type x hb hbase hl cs hcs
  unfold Oper.wp execOp
  simp only [ho, resolve, invoke, builtin, Sem.run_bind, Sem.run_pure, Result.andThen_ok, List.map_toArray, List.map_cons, List.map_nil, hs, hx, hr]
  exact h v' w' h2 h3 h4
theorem put_lies (h0 : El k f E T) {ops : Array Oper} {rest : List Oper} {o : Oper} {a : Act} {Q : Exit → Act → World → Prop} {w : World} {base : Nat} {v : Value} {l : List α} (x : α) (hgd : o.guard = none) (s y : Operand)
    (ho : o.op = .call { callee := .builtin .append, args := #[s, y], argTypes := #[T, T] }) (hb : OwnE k f E w base v l) (hbase : base ≤ w.heap.size) (hl : l.length ≤ 900000) (cs : Array Value) (hcs : cs = (f x).toArray)
    (hs : a.eval s = v) (H : Nat) (hH : w.heap.size = H) (hx : a.eval y = .slice (some ⟨H, 0, none⟩) 1 1)
    (h : ∀ v' w', OwnE k f E w' base v' (l ++ [x]) → w.grownBy w' v.ownBlock → (∀ j, v'.ownBlock = some j → v.ownBlock = some j ∨ w.heap.size ≤ j) → wpList Tryz.prog ops Q rest (a.put o.dst v') w') :
    wpList Tryz.prog ops Q (o :: rest) a (w.alloc (.cells cs E)) := by
  subst hH
  refine wpList_plain hgd fun K hK => ?_
  obtain ⟨v', w', hr, h2, h3, h4⟩ := run_lies h0 o.type x hb hbase hl cs hcs
  unfold Oper.wp execOp
  simp only [ho, resolve, invoke, builtin, Sem.run_bind, Sem.run_pure, Result.andThen_ok, List.map_toArray, List.map_cons, List.map_nil, hs, hx, hr]
  exact hK _ _ (h v' w' h2 h3 h4)
end

/-- what a call on a transaction may write: its box, and one of its rows. -/
def wrt (g : Nat) (v : Value) : List Nat := g :: v.ownBlock.toList
theorem mem_wrt {g j : Nat} {v : Value} : j ∈ wrt g v ↔ j = g ∨ v.ownBlock = some j := by
  unfold wrt; simp
/-- a later row: where the old one was, or in a new block. -/
def Later (w : World) (v v' : Value) : Prop := ∀ j, v'.ownBlock = some j → v.ownBlock = some j ∨ w.heap.size ≤ j
theorem Later.refl (w : World) (v : Value) : Later w v v := fun j h => .inl h
theorem Later.nil (w : World) (v : Value) : Later w v (.slice none 0 0) := fun j h => by cases h
/-- a row goes on, its box is written. -/
theorem push_tx {α : Type} {k : Nat} {f : α → List Value} {E : TypeId} {w w' : World} {g i : Nat} {cs : Array Value} {t : TypeId} {fr : Nat × Nat} {v v' : Value} {l l' : List α}
    (hx : w.heap[g]? = some (.cells cs t fr)) (ho : OwnE k f E w 0 v l) (ho' : OwnE k f E w' 0 v' l') (hE : E ≠ t) (hg : w.grownBy w' v.ownBlock) :
    w'.heap[g]? = some (.cells cs t fr) ∧ (w'.setCell ⟨g, i, none⟩ v').heap[g]? = some (.cells (cs.setIfInBounds i v') t fr) ∧ OwnE k f E (w'.setCell ⟨g, i, none⟩ v') 0 v' l' ∧ Kept (wrt g v) w (w'.setCell ⟨g, i, none⟩ v') := by
  have hgl := (Array.getElem?_eq_some_iff.1 hx).1
  have hne : some g ≠ v.ownBlock := fun e => own_box ho hx hE e.symm
  have h1 : w'.heap[g]? = some (.cells cs t fr) := (hg.block g hgl hne).trans hx
  refine ⟨h1, set_heap h1 i _, ?_, ?_⟩
  · exact own_stay ho' fun j hj => Below.heap_setCell w' ⟨g, i, none⟩ _ j (fun e => own_box ho' h1 hE (by rw [hj]; exact congrArg some e))
  · exact ((Kept.refl (wrt g v) w).grown hg (fun j hj => .inl (mem_wrt.2 (.inr hj)))).set (mem_wrt.2 (.inl rfl)) i v'
/-- cells of its box alone are written. -/
theorem set_tx {α : Type} {k : Nat} {f : α → List Value} {E : TypeId} {w : World} {g i : Nat} {cs : Array Value} {t : TypeId} {fr : Nat × Nat} {v u : Value} {l : List α}
    (hx : w.heap[g]? = some (.cells cs t fr)) (ho : OwnE k f E w 0 v l) (hE : E ≠ t) : OwnE k f E (w.setCell ⟨g, i, none⟩ u) 0 v l :=
  own_stay ho fun j hj => Below.heap_setCell w ⟨g, i, none⟩ _ j (fun e => own_box ho hx hE (by rw [hj]; exact congrArg some e))
theorem kept_row {α : Type} {k : Nat} {f : α → List Value} {E : TypeId} {α' : Type} {k' : Nat} {f' : α' → List Value} {E' : TypeId} {w w' : World} {g : Nat} {cs : Array Value} {t : TypeId} {fr : Nat × Nat} {v v' : Value} {l : List α} {l' : List α'}
    (hk : Kept (wrt g v) w w') (hx : w.heap[g]? = some (.cells cs t fr)) (h1 : OwnE k f E w 0 v l) (h2 : OwnE k' f' E' w 0 v' l') (hE : E' ≠ t) (hEE : E' ≠ E) : OwnE k' f' E' w' 0 v' l' :=
  hk.row h2 fun j hj hm => by
    rcases mem_wrt.1 hm with rfl | h
    · exact own_box h2 hx hE hj
    · exact own_apart h2 h1 hEE j hj h

end Go.Proofs.YtiobcgolcoocnaaGreatDoor.Bt
