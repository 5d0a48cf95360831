/-
  What is kept but for some blocks; boxes and rows of unlike types lie in unlike blocks. No function and no type of the program is named here.
-/
import Derived.Test.YtiobcgolcoocnaaGreatDoorRow
namespace Go.Proofs.YtiobcgolcoocnaaGreatDoor
open Go.RowKit
set_option linter.unusedVariables false

theorem set_grownW (w : World) (g i : Nat) (u : Value) : w.grownBy (w.setCell ⟨g, i, none⟩ u) (some g) :=
  ⟨rfl, rfl, rfl, by simp [World.setCell], fun k _ hk => Below.heap_setCell w ⟨g, i, none⟩ u k (fun e => hk (by rw [e]))⟩
/-- other blocks than these are as they were. -/
structure Kept (bs : List Nat) (w w' : World) : Prop where
  os : w'.os = w.os
  tape : w'.tape = w.tape
  output : w'.output = w.output
  size : w.heap.size ≤ w'.heap.size
  block : ∀ k, k < w.heap.size → k ∉ bs → w'.heap[k]? = w.heap[k]?
theorem Kept.refl (bs : List Nat) (w : World) : Kept bs w w := ⟨rfl, rfl, rfl, Nat.le_refl _, fun _ _ _ => rfl⟩
theorem Kept.of_below {bs : List Nat} {w w' : World} (h : Below w.heap.size w w') : Kept bs w w' := ⟨h.os, h.tape, h.output, h.size, fun k hk _ => h.block k hk⟩
theorem Kept.trans {bs cs : List Nat} {a b c : World} (h : Kept bs a b) (k : Kept cs b c) (hc : ∀ x ∈ cs, x ∈ bs ∨ a.heap.size ≤ x) : Kept bs a c :=
  ⟨k.os.trans h.os, k.tape.trans h.tape, k.output.trans h.output, Nat.le_trans h.size k.size, fun i hi hn => (k.block i (Nat.lt_of_lt_of_le hi h.size) (fun hx => by rcases hc i hx with h1 | h1; exact hn h1; omega)).trans (h.block i hi hn)⟩
theorem Kept.below {bs : List Nat} {B : Nat} {w w' : World} (h : Kept bs w w') (hB : B ≤ w.heap.size) (hb : ∀ b ∈ bs, B ≤ b) : Below B w w' :=
  ⟨h.os, h.tape, h.output, h.size, fun k hk => h.block k (by omega) (fun hx => by have := hb k hx; omega)⟩
theorem Kept.grown {bs : List Nat} {a w w' : World} {row : Option Nat} (h : Kept bs a w) (hg : w.grownBy w' row) (hr : ∀ k, row = some k → k ∈ bs ∨ a.heap.size ≤ k) : Kept bs a w' :=
  ⟨hg.os.trans h.os, hg.tape.trans h.tape, hg.output.trans h.output, Nat.le_trans h.size hg.size, fun k hk hn => (hg.block k (Nat.lt_of_lt_of_le hk h.size) (fun e => by rcases hr k e.symm with h1 | h1; exact hn h1; omega)).trans (h.block k hk hn)⟩
theorem Kept.set {bs : List Nat} {a w : World} (h : Kept bs a w) {g : Nat} (hg : g ∈ bs) (i : Nat) (u : Value) : Kept bs a (w.setCell ⟨g, i, none⟩ u) := h.grown (set_grownW w g i u) (fun k e => by cases e; exact .inl hg)
theorem Kept.alloc {bs : List Nat} {a w : World} (h : Kept bs a w) (o : Obj) : Kept bs a (w.alloc o) := h.grown (World.grownBy_alloc w o none) (fun k e => by cases e)
theorem Kept.drew {bs : List Nat} {a w : World} (h : Kept bs a w) : Kept bs a w.drew := ⟨h.os, h.tape, h.output, h.size, h.block⟩
/-- a row of the call's own lies in a block of its own type. -/
theorem own_box {w : World} {b k n : Nat} {T T' : TypeId} {v : Value} {xs : List Value} (h : w.ownsRow b T k v n xs) {g : Nat} {cs : Array Value} {fz : Nat × Nat} (hg : w.heap[g]? = some (.cells cs T' fz)) (hT : T ≠ T') : v.ownBlock ≠ some g := by
  rcases h.2 with ⟨rfl, _⟩ | ⟨g', cap, cur, rfl, _, hh, _⟩
  · intro e; cases e
  · intro e
    cases e
    rw [hg] at hh
    injection hh with hh
    injection hh with _ hh
    exact hT hh.symm
theorem own_apart {w : World} {b1 b2 k1 k2 n1 n2 : Nat} {T1 T2 : TypeId} {v1 v2 : Value} {xs ys : List Value} (h1 : w.ownsRow b1 T1 k1 v1 n1 xs) (h2 : w.ownsRow b2 T2 k2 v2 n2 ys) (hT : T1 ≠ T2) : ∀ j, v1.ownBlock = some j → v2.ownBlock ≠ some j := by
  intro j e1
  rcases h1.2 with ⟨rfl, _⟩ | ⟨j', cap, cur, rfl, _, hj, _⟩
  · cases e1
  · cases e1
    exact own_box h2 hj (Ne.symm hT)
theorem own_stay {w w' : World} {b k n : Nat} {T : TypeId} {v : Value} {xs : List Value} (h : w.ownsRow b T k v n xs) (hk : ∀ j, v.ownBlock = some j → w'.heap[j]? = w.heap[j]?) : w'.ownsRow b T k v n xs := by
  refine ⟨h.1, ?_⟩
  rcases h.2 with h1 | ⟨j, cap, cur, rfl, hbj, hj, r⟩
  · exact .inl h1
  · exact .inr ⟨j, cap, cur, rfl, hbj, (hk j rfl).trans hj, r⟩
theorem Kept.row {bs : List Nat} {w w' : World} (hk : Kept bs w w') {b k n : Nat} {T : TypeId} {v : Value} {xs : List Value} (h : w.ownsRow b T k v n xs) (hb : ∀ j, v.ownBlock = some j → j ∉ bs) : w'.ownsRow b T k v n xs :=
  own_stay h fun j e => hk.block j (World.ownsRow.lt h j e).2 (hb j e)
theorem Kept.box {bs : List Nat} {w w' : World} (hk : Kept bs w w') {g : Nat} {o : Obj} (h : w.heap[g]? = some o) (hb : g ∉ bs) : w'.heap[g]? = some o :=
  (hk.block g (Array.getElem?_eq_some_iff.1 h).1 hb).trans h
theorem Kept.mono {bs cs : List Nat} {w w' : World} (h : Kept bs w w') (hc : ∀ x ∈ bs, x ∈ cs) : Kept cs w w' := ⟨h.os, h.tape, h.output, h.size, fun k hk hn => h.block k hk fun hx => hn (hc k hx)⟩

end Go.Proofs.YtiobcgolcoocnaaGreatDoor
