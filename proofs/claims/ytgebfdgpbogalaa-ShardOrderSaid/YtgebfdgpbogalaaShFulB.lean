/-
  A shard in a box of the walk's own, and its rows.
-/
import Derived.Test.YtgebfdgpbogalaaShTold
import Derived.StillTailTactics
import Derived.BigRegion
namespace Go.Proofs.Ytgebfdgpbogalaa.Sh
open Go.RowKit Rg Go.Sort
set_option linter.unusedVariables false
set_option linter.unusedSimpArgs false

theorem u64_rem (p : Int) (k : Nat) (hk : 0 < k) : ∃ q : Nat, (IntKind.u64.wrap p).tmod k = (q : Int) ∧ q < k := by
  have h : 0 ≤ IntKind.u64.wrap p := by rw [IntKind.wrap_u64]; omega
  rw [Int.tmod_eq_emod_of_nonneg h]
  have h1 := Int.emod_nonneg (IntKind.u64.wrap p) (show (k : Int) ≠ 0 by omega)
  have h2 := Int.emod_lt_of_pos (IntKind.u64.wrap p) (show (0 : Int) < (k : Int) by omega)
  exact ⟨((IntKind.u64.wrap p) % k).toNat, by omega, by omega⟩
/-- a shard's box and its rows. -/
structure Bx (w : World) (g : Nat) (ra : Option Addr) (rc : Nat) (ha : Option Addr) (hc : Nat) (ma : Option Addr) (mc : Nat) (s : Sd) : Prop where
  bx : w.heap[g]? = some (.cells #[.bool s.fr, .int .i64 s.nx, .slice ra s.rd.length rc, .slice ha s.hd.length hc, .slice ma s.ms.length mc] 47 (0, 0))
  sd : SdAt w ra rc ha hc ma mc s
theorem Bx.below {w w' : World} {g : Nat} (ra : Option Addr) (rc : Nat) (ha : Option Addr) (hc : Nat) (ma : Option Addr) (mc : Nat) {s : Sd} (h : Bx w g ra rc ha hc ma mc s) (hb : Below w.heap.size w w') : Bx w' g ra rc ha hc ma mc s := ⟨box_bl h.bx hb, h.sd.below _ _ _ _ _ _ hb⟩
theorem sd_nil (w : World) : SdAt w none 0 none 0 none 0 sd1 := ⟨RowsAt.nil _ _ _ _ _ (by simp [maxLen]), RowsAt.nil _ _ _ _ _ (by simp [maxLen]), RowsAt.nil _ _ _ _ _ (by simp [maxLen]), fun _ => rfl, fun _ => rfl, fun _ => rfl, by decide⟩
theorem mgs_one {w : World} {g : Nat} {m : Mg} (h : w.heap[g]? = some (.cells #[.int .i64 m.pub, .int .i64 m.seq, .string ⟨m.key.toArray⟩, .string ⟨m.body.toArray⟩, .bool m.again] 40 (0, 0))) : MgsAt w (some ⟨g, 0, none⟩) 1 [m] := by
  refine ⟨Nat.le_refl _, by simp [maxLen], fun _ => ⟨g, 0, rfl, fun i hi r v hv => ?_⟩⟩
  obtain rfl : i = 0 := by simpa using hi
  rw [cell_of_row w _ _ _ _ _ h]
  have : (#[.int .i64 m.pub, .int .i64 m.seq, .string ⟨m.key.toArray⟩, .string ⟨m.body.toArray⟩, .bool m.again] : Array Value)[0 + 0 * 5 + r]? = some v := by
    rw [show 0 + 0 * 5 + r = r by omega, ← hv, List.getElem?_toArray]; rfl
  exact this
theorem bx_store {w w2 : World} {B B2 g : Nat} (ra : Option Addr) (rc : Nat) (ha : Option Addr) (hc : Nat) (ma : Option Addr) (mc : Nat) {s' : Sd} {x y z u v : Value} (hb : Below B w w2) (hg : B ≤ g) (hg2 : g < B2) (ho : OwnS w2 B2 s' (.slice ra s'.rd.length rc) (.slice ha s'.hd.length hc) (.slice ma s'.ms.length mc)) (hsm : s'.rd.length ≤ 1000 ∧ s'.hd.length ≤ 1000 ∧ s'.ms.length ≤ 1000)
    (hx : w2.heap[g]? = some (.cells #[x, y, z, u, v] 47 (0, 0))) : Below B w (set5 w2 g (.bool s'.fr) (.int .i64 s'.nx) (.slice ra s'.rd.length rc) (.slice ha s'.hd.length hc) (.slice ma s'.ms.length mc)) ∧
    Bx (set5 w2 g (.bool s'.fr) (.int .i64 s'.nx) (.slice ra s'.rd.length rc) (.slice ha s'.hd.length hc) (.slice ma s'.ms.length mc)) g ra rc ha hc ma mc s' :=
  ⟨set5_below hb hg _ _ _ _ _, set5_box hx _ _ _ _ _, (ho.kept fun b h => set5_heap _ _ _ _ _ _ _ _ (by omega)).sd _ _ _ _ _ _ hsm⟩
theorem bx_alloc {w w2 : World} {B g : Nat} (ra : Option Addr) (rc : Nat) (ha : Option Addr) (hc : Nat) (ma : Option Addr) (mc : Nat) {s' : Sd} (o : Obj) (h : Below B w w2 ∧ Bx w2 g ra rc ha hc ma mc s') (hB : B ≤ w2.heap.size) : Below B w (w2.alloc o) ∧ Bx (w2.alloc o) g ra rc ha hc ma mc s' :=
  ⟨h.1.alloc hB o, h.2.below _ _ _ _ _ _ ((Below.refl _ _).alloc (Nat.le_refl _) _)⟩
theorem two_boxd {w : World} (o1 o2 : Obj) : ((w.alloc o1).drew.alloc o2).heap[w.heap.size + 1]? = some o2 ∧ Below w.heap.size w ((w.alloc o1).drew.alloc o2) ∧ ((w.alloc o1).drew.alloc o2).heap.size = w.heap.size + 2 := by
  obtain ⟨-, h2, -, h4⟩ := two_box (w := w) o1 o2
  exact ⟨h2, (((Below.refl _ _).alloc (Nat.le_refl _) _).drew).alloc (by show w.heap.size ≤ (w.alloc o1).heap.size; simp) _, h4⟩
end Go.Proofs.Ytgebfdgpbogalaa.Sh
