/-
  A box of one api.Held: stored, and what a Shard's rows are when it is written.
-/
import Derived.Test.YthohjcfpobeplaaShRSet
import Derived.Test.YthohjcfpobeplaaShGetG
namespace Go.Proofs.Ythohjcfpobeplaa.Sh
open Go.RowKit Rg Go.Sort
set_option linter.unusedVariables false
set_option linter.unusedSimpArgs false

def set6 (w : World) (g : Nat) (x y z u v q : Value) : World := (((((w.setCell ⟨g, 0, none⟩ x).setCell ⟨g, 1, none⟩ y).setCell ⟨g, 2, none⟩ z).setCell ⟨g, 3, none⟩ u).setCell ⟨g, 4, none⟩ v).setCell ⟨g, 5, none⟩ q
theorem set6_heap (w : World) (g : Nat) (x y z u v q : Value) (b : Nat) (h : b ≠ g) : (set6 w g x y z u v q).heap[b]? = w.heap[b]? := by
  unfold set6
  rw [Below.heap_setCell _ _ _ _ h, Below.heap_setCell _ _ _ _ h, Below.heap_setCell _ _ _ _ h, Below.heap_setCell _ _ _ _ h, Below.heap_setCell _ _ _ _ h, Below.heap_setCell _ _ _ _ h]
theorem set6_below {B : Nat} {a w : World} (h : Below B a w) {g : Nat} (hg : B ≤ g) (x y z u v q : Value) : Below B a (set6 w g x y z u v q) := by
  unfold set6
  exact (((((h.setCell (p := ⟨g, 0, none⟩) hg _).setCell (p := ⟨g, 1, none⟩) hg _).setCell (p := ⟨g, 2, none⟩) hg _).setCell (p := ⟨g, 3, none⟩) hg _).setCell (p := ⟨g, 4, none⟩) hg _).setCell (p := ⟨g, 5, none⟩) hg _
theorem set6_box {w : World} {g : Nat} {x y z u v q : Value} {t : TypeId} (h : w.heap[g]? = some (.cells #[x, y, z, u, v, q] t (0, 0))) (x' y' z' u' v' q' : Value) : (set6 w g x' y' z' u' v' q').heap[g]? = some (.cells #[x', y', z', u', v', q'] t (0, 0)) := by
  unfold set6
  have h1 := set_heap h 0 x'
  have h2 := set_heap h1 1 y'
  have h3 := set_heap h2 2 z'
  have h4 := set_heap h3 3 u'
  have h5 := set_heap h4 4 v'
  have h6 := set_heap h5 5 q'
  exact h6
theorem rows_keep_by {α : Type} {k : Nat} {f : α → List Value} {w w' : World} {a : Option Addr} {cap : Nat} {l : List α} (h : RowsAt k f w a cap l) {g : Nat} {cs : Array Value} {T : TypeId} {fz : Nat × Nat} (hg : w.heap[g]? = some (.cells cs T fz))
    (hn : ∀ (h0 : 0 < l.length) (o : Nat), ¬ ∀ r v, (f l[0])[r]? = some v → cs[o + r]? = some v) (hk : ∀ b, b ≠ g → w'.heap[b]? = w.heap[b]?) : RowsAt k f w' a cap l := by
  refine ⟨h.len, h.max, fun h0 => ?_⟩
  obtain ⟨b, o, ha, hc⟩ := h.at' h0
  have hbg : b ≠ g := by
    rintro rfl
    refine hn h0 o fun r v hr => ?_
    have := hc 0 h0 r v hr
    rw [cell_of_row w _ _ _ _ _ hg, Nat.zero_mul, Nat.add_zero] at this
    exact this
  exact ⟨b, o, ha, fun i hi r v hv => (World.cell?_of_block (w := w) (a := ⟨b, o + i * k + r, none⟩) (hk b hbg)).trans (hc i hi r v hv)⟩
/-- the zero Held's cells. -/
def zHeld : Array Value := #[.int .i64 0, .int .i64 0, .int .i64 0, .string ⟨#[]⟩, .string ⟨#[]⟩, .bool false]
theorem zHeld_str {o : Nat} {x : ByteArray} (h : zHeld[o]? = some (.string x)) : o = 3 ∨ o = 4 := by
  match o with
  | 0 => simp [zHeld] at h
  | 1 => simp [zHeld] at h
  | 2 => simp [zHeld] at h
  | 3 => exact .inl rfl
  | 4 => exact .inr rfl
  | 5 => simp [zHeld] at h
  | n + 6 => simp [zHeld] at h
theorem zHeld_int {o : Nat} {x : Int} (h : zHeld[o]? = some (.int .i64 x)) : o ≤ 2 ∧ x = 0 := by
  match o with
  | 0 => simp [zHeld] at h; exact ⟨by omega, h.symm⟩
  | 1 => simp [zHeld] at h; exact ⟨by omega, h.symm⟩
  | 2 => simp [zHeld] at h; exact ⟨by omega, h.symm⟩
  | 3 => simp [zHeld] at h
  | 4 => simp [zHeld] at h
  | 5 => simp [zHeld] at h
  | n + 6 => simp [zHeld] at h
theorem held_keep {w w' : World} (ra : Option Addr) (rc : Nat) (ha : Option Addr) (hc : Nat) (ma : Option Addr) (mc : Nat) {s : Sd} (h : SdAt w ra rc ha hc ma mc s) (hm : MaySd s) {g : Nat} {T : TypeId} {fz : Nat × Nat} (hg : w.heap[g]? = some (.cells #[.int .i64 0, .int .i64 0, .int .i64 0, .string ⟨#[]⟩, .string ⟨#[]⟩, .bool false] T fz)) (hk : ∀ b, b ≠ g → w'.heap[b]? = w.heap[b]?) : SdAt w' ra rc ha hc ma mc s := by
  have hg' : w.heap[g]? = some (.cells zHeld T fz) := hg
  obtain ⟨-, -, -, -, -, -, hht, -, -, hall, -⟩ := hm
  refine ⟨rows_keep_by h.rd hg' ?_ hk, rows_keep_by h.hd hg' ?_ hk, rows_keep_by h.ms hg' ?_ hk, h.nr, h.nh, h.nm, h.sm⟩
  · intro h0 o hc
    have h1 := zHeld_str (hc 2 _ rfl)
    have h2 := zHeld_int (hc 1 _ rfl)
    have h3 := (hall s.rd[0] (by unfold allF; simp)).1.1
    unfold MayStand at h3
    omega
  · intro h0 o hc
    have h1 := zHeld_str (hc 3 _ rfl)
    have h2 := zHeld_int (hc 0 _ rfl)
    have h4 := zHeld_int (hc 2 _ rfl)
    have h3 := hht s.hd[0] (List.getElem_mem _)
    omega
  · intro h0 o hc
    have h1 := zHeld_str (hc 1 _ rfl)
    have h2 := zHeld_int (hc 2 _ rfl)
    omega

end Go.Proofs.Ythohjcfpobeplaa.Sh
