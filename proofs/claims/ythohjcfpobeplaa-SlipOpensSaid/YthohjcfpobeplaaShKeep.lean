/-
  Rows stay as they are where a block without texts is written; an answer that is a shard and a code.
-/
import Derived.Test.YthohjcfpobeplaaShMem
import Derived.Test.YthohjcfpobeplaaShTold
namespace Go.Proofs.Ythohjcfpobeplaa.Sh
open Go.RowKit Rg Go.Sort
set_option linter.unusedVariables false
set_option linter.unusedSimpArgs false

/-- rows that hold texts stay as they are, where a block without texts is written. -/
theorem rows_keep {α : Type} {k : Nat} {f : α → List Value} (hs : ∀ x, ∃ (r : Nat) (str : ByteArray), (f x)[r]? = some (.string str)) {w w' : World} {a : Option Addr} {cap : Nat} {l : List α} (h : RowsAt k f w a cap l) {g : Nat} {cs : Array Value} {T : TypeId} {fz : Nat × Nat} (hg : w.heap[g]? = some (.cells cs T fz))
    (hn : ∀ (i : Nat) (str : ByteArray), cs[i]? ≠ some (.string str)) (hk : ∀ b, b ≠ g → w'.heap[b]? = w.heap[b]?) : RowsAt k f w' a cap l := by
  refine ⟨h.len, h.max, fun h0 => ?_⟩
  obtain ⟨b, o, ha, hc⟩ := h.at' h0
  have hbg : b ≠ g := by
    rintro rfl
    obtain ⟨r, str, hr⟩ := hs l[0]
    have := hc 0 h0 r _ hr
    rw [cell_of_row w _ _ _ _ _ hg] at this
    exact hn _ _ this
  exact ⟨b, o, ha, fun i hi r v hv => (World.cell?_of_block (w := w) (a := ⟨b, o + i * k + r, none⟩) (hk b hbg)).trans (hc i hi r v hv)⟩
theorem box_no_text (b0 : Bool) (n0 : Int) (a1 : Option Addr) (l1 c1 : Nat) (a2 : Option Addr) (l2 c2 : Nat) (a3 : Option Addr) (l3 c3 : Nat) : ∀ (i : Nat) (str : ByteArray), (#[.bool b0, .int .i64 n0, .slice a1 l1 c1, .slice a2 l2 c2, .slice a3 l3 c3] : Array Value)[i]? ≠ some (.string str) := by
  intro i str
  match i with
  | 0 => simp
  | 1 => simp
  | 2 => simp
  | 3 => simp
  | 4 => simp
  | n + 5 => simp
/-- a shard's rows stay, where another shard's box is written. -/
theorem sd_keep {w w' : World} (ra : Option Addr) (rc : Nat) (ha : Option Addr) (hc : Nat) (ma : Option Addr) (mc : Nat) {s : Sd} (h : SdAt w ra rc ha hc ma mc s) {g : Nat} {b0 : Bool} {n0 : Int} {a1 : Option Addr} {l1 c1 : Nat} {a2 : Option Addr} {l2 c2 : Nat} {a3 : Option Addr} {l3 c3 : Nat} {T : TypeId} {fz : Nat × Nat} (hg : w.heap[g]? = some (.cells #[.bool b0, .int .i64 n0, .slice a1 l1 c1, .slice a2 l2 c2, .slice a3 l3 c3] T fz)) (hk : ∀ b, b ≠ g → w'.heap[b]? = w.heap[b]?) : SdAt w' ra rc ha hc ma mc s :=
  ⟨rows_keep (fun x => ⟨2, _, rfl⟩) h.rd hg (box_no_text _ _ _ _ _ _ _ _ _ _ _) hk, rows_keep (fun x => ⟨3, _, rfl⟩) h.hd hg (box_no_text _ _ _ _ _ _ _ _ _ _ _) hk, rows_keep (fun x => ⟨1, _, rfl⟩) h.ms hg (box_no_text _ _ _ _ _ _ _ _ _ _ _) hk, h.nr, h.nh, h.nm, h.sm⟩
theorem shr_of {s' : Sd} {c : Int} {w w' : World} (ra : Option Addr) (rc : Nat) (ha : Option Addr) (hc : Nat) (ma : Option Addr) (mc : Nat) (h : SdAt w' ra rc ha hc ma mc s') (hb : Below w.heap.size w w') : ShR s' c w (.returned (.tuple #[.agg #[.bool s'.fr, .int .i64 s'.nx, .slice ra s'.rd.length rc, .slice ha s'.hd.length hc, .slice ma s'.ms.length mc], .int .i64 c])) w' := ⟨_, _, _, _, _, _, rfl, h, hb⟩

end Go.Proofs.Ythohjcfpobeplaa.Sh
