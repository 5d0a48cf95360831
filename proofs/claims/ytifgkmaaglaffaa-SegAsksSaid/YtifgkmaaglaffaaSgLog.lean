/-
  A log in memory: its box, its two rows; what calls on it leave as it was.
-/
import Derived.Test.YtifgkmaaglaffaaSgRead
import Derived.Test.YtifgkmaaglaffaaStepB
namespace Go.Proofs.Ytifgkmaaglaffaa.Sg
open Go.RowKit
set_option linter.unusedVariables false
variable {B C : Nat}

theorem box3 {w : World} {g : Nat} {x y z : Value} {t : TypeId} (h : w.heap[g]? = some (.cells #[x, y, z] t (0, 0))) :
    (w.cell? ⟨g, 0, none⟩ = some x ∧ w.cell? ⟨g, 1, none⟩ = some y ∧ w.cell? ⟨g, 2, none⟩ = some z) ∧ w.frozen? ⟨g, 0, none⟩ = false ∧ w.frozen? ⟨g, 1, none⟩ = false ∧ w.frozen? ⟨g, 2, none⟩ = false := by
  refine ⟨⟨?_, ?_, ?_⟩, ?_, ?_, ?_⟩
  all_goals first | (rw [cell_of_row w _ _ _ _ _ h]; rfl) | simp [World.frozen?, h]
theorem own_box {w : World} {b k n : Nat} {T T' : TypeId} {v : Value} {xs : List Value} (h : w.ownsRow b T k v n xs) {g : Nat} {cs : Array Value} {fz : Nat × Nat} (hg : w.heap[g]? = some (.cells cs T' fz)) (hT : T ≠ T') : v.ownBlock ≠ some g := by
  rcases h.2 with ⟨rfl, _⟩ | ⟨g', cap, cur, rfl, _, hh, _⟩
  · intro e; cases e
  · intro e
    cases e
    rw [hg] at hh
    injection hh with hh
    injection hh with _ hh
    exact hT hh.symm

/-- a log's blocks: its box, its rows. -/
def logB (g : Nat) (vs vw : Value) : List Nat := g :: (vs.ownBlock.toList ++ vw.ownBlock.toList)
theorem mem_logB {g k : Nat} {vs vw : Value} : k ∈ logB g vs vw ↔ k = g ∨ vs.ownBlock = some k ∨ vw.ownBlock = some k := by
  unfold logB
  simp [eq_comm]
/-- the log in block g: what is synced, what waits, whether it was begun anew; all of it from C on. -/
structure LogAt (C : Nat) (w : World) (g : Nat) (vs vw : Value) (sy wa : List UInt8) (bg : Bool) : Prop where
  box : w.heap[g]? = some (.cells #[vs, vw, .bool bg] 74 (0, 0))
  ge : C ≤ g
  sb : Buf w C vs sy
  wb : Buf w C vw wa
  ap : ∀ k, vs.ownBlock = some k → vw.ownBlock ≠ some k
theorem LogAt.lt {w : World} {g : Nat} {vs vw : Value} {sy wa : List UInt8} {bg : Bool} (h : LogAt C w g vs vw sy wa bg) : g < w.heap.size := (Array.getElem?_eq_some_iff.1 h.box).1
theorem LogAt.sne {w : World} {g : Nat} {vs vw : Value} {sy wa : List UInt8} {bg : Bool} (h : LogAt C w g vs vw sy wa bg) : vs.ownBlock ≠ some g := own_box h.sb h.box (by decide)
theorem LogAt.wne {w : World} {g : Nat} {vs vw : Value} {sy wa : List UInt8} {bg : Bool} (h : LogAt C w g vs vw sy wa bg) : vw.ownBlock ≠ some g := own_box h.wb h.box (by decide)
theorem LogAt.mono {C' : Nat} {w : World} {g : Nat} {vs vw : Value} {sy wa : List UInt8} {bg : Bool} (h : LogAt C w g vs vw sy wa bg) (hc : C' ≤ C) : LogAt C' w g vs vw sy wa bg :=
  ⟨h.box, Nat.le_trans hc h.ge, h.sb.mono hc, h.wb.mono hc, h.ap⟩
theorem LogAt.keep {w w' : World} {g : Nat} {vs vw : Value} {sy wa : List UInt8} {bg : Bool} (h : LogAt C w g vs vw sy wa bg) (hk : ∀ k, k < w.heap.size → w'.heap[k]? = w.heap[k]?) : LogAt C w' g vs vw sy wa bg :=
  ⟨(hk g h.lt).trans h.box, h.ge, h.sb.stay fun k e => hk k (h.sb.lt k e), h.wb.stay fun k e => hk k (h.wb.lt k e), h.ap⟩
theorem LogAt.below {w w' : World} {g : Nat} {vs vw : Value} {sy wa : List UInt8} {bg : Bool} (h : LogAt C w g vs vw sy wa bg) (hb : Below w.heap.size w w') : LogAt C w' g vs vw sy wa bg := h.keep hb.block

/-- what a call on a log leaves: all below C, and blocks of other types than a log's own. -/
structure Side (C : Nat) (w w' : World) : Prop where
  bel : Below C w w'
  ty : ∀ (k : Nat) (cs : Array Value) (t : TypeId) (f : Nat × Nat), t ≠ 5 → t ≠ 74 → w.heap[k]? = some (.cells cs t f) → w'.heap[k]? = some (.cells cs t f)
theorem Side.of_below {w w' : World} (h : Below w.heap.size w w') (hc : C ≤ w.heap.size) : Side C w w' :=
  ⟨h.mono hc, fun k cs t f _ _ hk => (h.block k (Array.getElem?_eq_some_iff.1 hk).1).trans hk⟩
theorem Side.trans {a b c : World} (h : Side C a b) (k : Side C b c) : Side C a c := ⟨h.bel.trans k.bel, fun i cs t f h1 h2 hi => k.ty i cs t f h1 h2 (h.ty i cs t f h1 h2 hi)⟩
theorem Side.mono {C' : Nat} {w w' : World} (h : Side C w w') (hc : C' ≤ C) : Side C' w w' := ⟨h.bel.mono hc, h.ty⟩
theorem Side.of_kept {w w' : World} {g : Nat} {vs vw : Value} {sy wa : List UInt8} {bg : Bool} (h : LogAt C w g vs vw sy wa bg) (hk : Kept (logB g vs vw) w w') : Side C w w' := by
  refine ⟨hk.below (Nat.le_trans h.ge (Nat.le_of_lt h.lt)) fun b hb => ?_, fun k cs t f h1 h2 hi => ?_⟩
  · rcases mem_logB.1 hb with rfl | e | e
    · exact h.ge
    · exact (World.ownsRow.lt h.sb b e).1
    · exact (World.ownsRow.lt h.wb b e).1
  · refine (hk.block k (Array.getElem?_eq_some_iff.1 hi).1 fun hm => ?_).trans hi
    rcases mem_logB.1 hm with rfl | e | e
    · rw [h.box] at hi
      injection hi with hi
      injection hi with _ hi
      exact h2 hi.symm
    · exact own_box h.sb hi (Ne.symm h1) e
    · exact own_box h.wb hi (Ne.symm h1) e

theorem set_box3 {w : World} {g : Nat} {x y z : Value} {t : TypeId} (h : w.heap[g]? = some (.cells #[x, y, z] t (0, 0))) :
    (∀ u, (w.setCell ⟨g, 0, none⟩ u).heap[g]? = some (.cells #[u, y, z] t (0, 0))) ∧ (∀ u, (w.setCell ⟨g, 1, none⟩ u).heap[g]? = some (.cells #[x, u, z] t (0, 0))) ∧ (∀ u, (w.setCell ⟨g, 2, none⟩ u).heap[g]? = some (.cells #[x, y, u] t (0, 0))) :=
  ⟨fun u => (set_heap h 0 u).trans (by simp), fun u => (set_heap h 1 u).trans (by simp), fun u => (set_heap h 2 u).trans (by simp)⟩

/-- more waits: the row that waits was put on, its slice stored. -/
theorem LogAt.more {w w1 w2 w' : World} {g : Nat} {vs vw v2 : Value} {sy wa m : List UInt8} {bg : Bool} (h : LogAt C w g vs vw sy wa bg) (hb : Below w.heap.size w w1) (hbuf : Buf w2 C v2 (wa ++ m)) (hon : Onto w1 vw w2 v2) (hw : w' = w2.setCell ⟨g, 1, none⟩ v2) :
    LogAt C w' g vs v2 sy (wa ++ m) bg ∧ Kept (logB g vs vw) w w' := by
  have h1 := h.below hb
  have hg2 : w2.heap[g]? = some (.cells #[vs, vw, .bool bg] 74 (0, 0)) := (hon.block h1.lt h1.wne).trans h1.box
  have hv : ∀ k, v2.ownBlock = some k → vw.ownBlock = some k ∨ w1.heap.size ≤ k := by
    intro k e
    rcases hon.own with h2 | ⟨g', h2, hg'⟩
    · exact .inl (h2.symm.trans e)
    · rw [h2] at e; cases e; exact .inr hg'
  have hvg : v2.ownBlock ≠ some g := own_box hbuf hg2 (by decide)
  have hoth : ∀ k, k ≠ g → w'.heap[k]? = w2.heap[k]? := fun k hk => by rw [hw]; exact Below.heap_setCell _ _ _ _ hk
  refine ⟨⟨by rw [hw]; exact (set_box3 hg2).2.1 v2, h.ge, ?_, hbuf.stay fun k e => hoth k fun e2 => hvg (e2 ▸ e), fun k e1 e2 => ?_⟩, ?_⟩
  · refine h1.sb.stay fun k e => ?_
    rw [hoth k fun e2 => h1.sne (e2 ▸ e)]
    exact hon.block (h1.sb.lt k e) fun e2 => h.ap k e e2
  · rcases hv k e2 with h3 | h3
    · exact h.ap k e1 h3
    · have := h1.sb.lt k e1
      omega
  · rw [hw]
    exact ((Kept.of_below hb).grown hon.grew fun k e => .inl (mem_logB.2 (.inr (.inr e)))).set (mem_logB.2 (.inl rfl)) 1 v2

end Go.Proofs.Ytifgkmaaglaffaa.Sg
