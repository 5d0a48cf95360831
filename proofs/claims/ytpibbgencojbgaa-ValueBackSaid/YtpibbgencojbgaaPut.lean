/-
  putValue, walked.
-/
import Derived.Test.YtpibbgencojbgaaMayT
import Derived.Test.YtpibbgencojbgaaOctP
import Derived.Deep.RegionHeld3
import Derived.IntWalk
namespace Go.Proofs.Ytpibbgencojbgaa
open Go.RowKit
set_option linter.unusedVariables false

/-- E was put behind L, or more than is let. -/
def Grew (L E R : List UInt8) : Prop := (R.length ≤ 3000 → R = L ++ E) ∧ (3000 < R.length → 3000 < (L ++ E).length)
theorem Grew.exact (L E : List UInt8) : Grew L E (L ++ E) := ⟨fun _ => rfl, fun h => h⟩
def PutP (base : Nat) (v : Value) (L E : List UInt8) (N : Nat) (w : World) (e : Ending) (w' : World) : Prop :=
  ∃ (v' : Value) (R : List UInt8), e = .returned v' ∧ Buf w' base v' R ∧ Onto w v w' v' ∧ L.length < R.length ∧ R.length ≤ N ∧ Grew L E R

theorem wrap_u64_of (n : Int) : IntKind.u64.wrap n = ((u64 n : Nat) : Int) := by
  rw [IntKind.wrap_u64]; unfold u64; omega
theorem u64_lt (n : Int) : u64 n < 18446744073709551616 := by unfold u64; omega

/-- the box in which a value lies, behind an append: as it was. -/
theorem box_keep {w w2 : World} {v v2 : Value} {base : Nat} {L : List UInt8} {cs : Array Value} {t : TypeId} (hb : Buf w base v L) (ho : Onto (w.alloc (.cells cs t)) v w2 v2) : w2.heap[w.heap.size]? = some (.cells cs t (0, 0)) := by
  refine (ho.block (by simp) (fun e => ?_)).trans (heap_alloc_new w _)
  have := (World.ownsRow.lt hb _ e).2
  omega

theorem Onto.undrew {w w' : World} {v v' : Value} (h : Onto w.drew v w' v') : Onto w v w' v' := ⟨⟨h.grew.os, h.grew.tape, h.grew.output, h.grew.size, h.grew.block⟩, h.own⟩
/-- the box is not the buffer's block. -/
theorem box_ne {w w2 : World} {v v2 : Value} {base : Nat} {L : List UInt8} {o : Obj} (hb : Buf w base v L) (ho : Onto (w.alloc o) v w2 v2) : v2.ownBlock ≠ some w.heap.size := by
  intro e
  rcases ho.own with h | ⟨g, h, hg⟩
  · have := (World.ownsRow.lt hb _ (h.symm.trans e)).2
    omega
  · rw [h] at e
    cases e
    simp at hg
    omega
theorem box_lt {w w2 : World} {v v2 : Value} {o : Obj} (ho : Onto (w.alloc o) v w2 v2) : w.heap.size < w2.heap.size := by
  have := ho.grew.size
  simp at this
  omega
theorem box_cells {w : World} {g : Nat} {k n : Int} {s : ByteArray} {v : Value} {t : TypeId} (h : w.heap[g]? = some (.cells #[.int .i64 k, .int .i64 n, .string s, v] t (0, 0))) :
    w.cell? ⟨g, 0, none⟩ = some (.int .i64 k) ∧ w.cell? ⟨g, 1, none⟩ = some (.int .i64 n) ∧ w.cell? ⟨g, 2, none⟩ = some (.string s) ∧ w.cell? ⟨g, 3, none⟩ = some v := by
  refine ⟨?_, ?_, ?_, ?_⟩ <;> (rw [cell_of_row w _ _ _ _ _ h]; rfl)

set_option maxRecDepth 100000 in
set_option maxHeartbeats 4000000 in
theorem putV0_any (base : Nat) (v : Value) (L : List UInt8) (nm s : ByteArray) (n : Int) (a : Option Addr) (cap : Nat) (sub : List It) (w : World) (hb : Buf w base v L) (hbase : base ≤ w.heap.size) (hL : L.length ≤ 3050) (N : Nat) (hN : L.length + 205 ≤ N) :
    Calls Try.prog 64 #[v, .agg #[.int .i64 0, .int .i64 n, .string s, .slice a sub.length cap]] w (PutP base v L (It.mk nm 0 n s sub).putV N w) := by
  have hle : L.length ≤ 1000000 := by omega
  have HB := Lib.hid hb
  have hb1 : Buf (w.alloc (.cells #[.int .i64 0, .int .i64 n, .string s, .slice a sub.length cap] 24)) base v L := World.ownsRow.alloc HB.out _
  have HB1 := Lib.hid hb1
  clear hb hb1
  go_enter Try.func64, Try.ntmps64
  go_wp2_with (at_builtin; refine put_one rfl (.tmp 5) (.tmp 9) rfl HB1.out (Nat.le_trans hbase (by simp)) hle 86 (by rfl) rfl (w.heap.size + 1) (by simp) rfl ?_; intro v2 w2 hb2 hon2; have HB2 := Lib.hid hb2; have HO2 := Lib.hid hon2; obtain ⟨c0, c1, c2, c3⟩ := box_cells (box_keep HB.out hon2); have hz2 := hon2.alloc.grew.size; clear hb2 hon2)
  go_ret
  exact ⟨_, _, rfl, HB2.out, HO2.out.alloc, by simp, by simp; omega, Grew.exact _ _⟩

set_option maxRecDepth 100000 in
set_option maxHeartbeats 4000000 in
theorem putV1_any (base : Nat) (v : Value) (L : List UInt8) (nm s : ByteArray) (n : Int) (a : Option Addr) (cap : Nat) (sub : List It) (w : World) (hb : Buf w base v L) (hbase : base ≤ w.heap.size) (hL : L.length ≤ 3050) (N : Nat) (hN : L.length + 205 ≤ N) :
    Calls Try.prog 64 #[v, .agg #[.int .i64 1, .int .i64 n, .string s, .slice a sub.length cap]] w (PutP base v L (It.mk nm 1 n s sub).putV N w) := by
  have hle : L.length ≤ 1000000 := by omega
  have HB := Lib.hid hb
  have hb1 : Buf (w.alloc (.cells #[.int .i64 1, .int .i64 n, .string s, .slice a sub.length cap] 24)) base v L := World.ownsRow.alloc HB.out _
  have HB1 := Lib.hid hb1
  clear hb hb1
  have hw := wrap_u64_of n
  go_enter Try.func64, Try.ntmps64
  go_wp2_with (at_builtin; refine put_one rfl (.tmp 5) (.tmp 9) rfl HB1.out (Nat.le_trans hbase (by simp)) hle 116 (by rfl) rfl (w.heap.size + 1) (by simp) rfl ?_; intro v2 w2 hb2 hon2; have HB2 := Lib.hid hb2; have HO2 := Lib.hid hon2; obtain ⟨c0, c1, c2, c3⟩ := box_cells (box_keep HB.out hon2); have hz2 := hon2.alloc.grew.size; clear hb2 hon2)
  refine (putNum_any base v2 _ (u64 n) 1 (u64_lt n) (by omega) _ HB2.out (Nat.le_trans hbase hz2) (by simp; omega)).mono ?_
  rintro e w3 ⟨v3, rfl, hb3, hon3⟩
  have HB3 := Lib.hid hb3
  have HO3 := Lib.hid (HO2.out.trans hon3)
  clear hb3 hon3
  go_wp2_with fail
  go_ret
  have hb3 := HB3.out
  rw [List.append_assoc] at hb3
  exact ⟨_, _, rfl, hb3, HO3.out.alloc, by simp, by simp; omega, Grew.exact _ _⟩

set_option maxRecDepth 100000 in
set_option maxHeartbeats 4000000 in
theorem putV2_any (base : Nat) (v : Value) (L : List UInt8) (nm s : ByteArray) (n : Int) (a : Option Addr) (cap : Nat) (sub : List It) (w : World) (hb : Buf w base v L) (hbase : base ≤ w.heap.size) (hL : L.length ≤ 3050) (N : Nat) (hN : L.length + 205 ≤ N) :
    Calls Try.prog 64 #[v, .agg #[.int .i64 2, .int .i64 n, .string s, .slice a sub.length cap]] w (PutP base v L (It.mk nm 2 n s sub).putV N w) := by
  have hle : L.length ≤ 1000000 := by omega
  have HB := Lib.hid hb
  have hb1 : Buf (w.alloc (.cells #[.int .i64 2, .int .i64 n, .string s, .slice a sub.length cap] 24)) base v L := World.ownsRow.alloc HB.out _
  have HB1 := Lib.hid hb1
  clear hb hb1
  have hw := wrap_u64_of n
  go_enter Try.func64, Try.ntmps64
  go_wp2_with (at_builtin; refine put_one rfl (.tmp 5) (.tmp 9) rfl HB1.out (Nat.le_trans hbase (by simp)) hle 73 (by rfl) rfl (w.heap.size + 1) (by simp) rfl ?_; intro v2 w2 hb2 hon2; have HB2 := Lib.hid hb2; have HO2 := Lib.hid hon2; obtain ⟨c0, c1, c2, c3⟩ := box_cells (box_keep HB.out hon2); have hz2 := hon2.alloc.grew.size; clear hb2 hon2)
  refine (putNum_any base v2 _ (u64 n) 4 (u64_lt n) (by omega) _ HB2.out (Nat.le_trans hbase hz2) (by simp; omega)).mono ?_
  rintro e w3 ⟨v3, rfl, hb3, hon3⟩
  have HB3 := Lib.hid hb3
  have HO3 := Lib.hid (HO2.out.trans hon3)
  clear hb3 hon3
  go_wp2_with fail
  go_ret
  have hb3 := HB3.out
  rw [List.append_assoc] at hb3
  exact ⟨_, _, rfl, hb3, HO3.out.alloc, by simp, by simp; omega, Grew.exact _ _⟩

set_option maxRecDepth 100000 in
set_option maxHeartbeats 4000000 in
theorem putV3_any (base : Nat) (v : Value) (L : List UInt8) (nm s : ByteArray) (n : Int) (a : Option Addr) (cap : Nat) (sub : List It) (w : World) (hb : Buf w base v L) (hbase : base ≤ w.heap.size) (hL : L.length ≤ 3050) (N : Nat) (hN : L.length + 205 ≤ N) :
    Calls Try.prog 64 #[v, .agg #[.int .i64 3, .int .i64 n, .string s, .slice a sub.length cap]] w (PutP base v L (It.mk nm 3 n s sub).putV N w) := by
  have hle : L.length ≤ 1000000 := by omega
  have HB := Lib.hid hb
  have hb1 : Buf (w.alloc (.cells #[.int .i64 3, .int .i64 n, .string s, .slice a sub.length cap] 24)) base v L := World.ownsRow.alloc HB.out _
  have HB1 := Lib.hid hb1
  clear hb hb1
  have hw := wrap_u64_of n
  go_enter Try.func64, Try.ntmps64
  go_wp2_with (at_builtin; refine put_one rfl (.tmp 5) (.tmp 9) rfl HB1.out (Nat.le_trans hbase (by simp)) hle 108 (by rfl) rfl (w.heap.size + 1) (by simp) rfl ?_; intro v2 w2 hb2 hon2; have HB2 := Lib.hid hb2; have HO2 := Lib.hid hon2; obtain ⟨c0, c1, c2, c3⟩ := box_cells (box_keep HB.out hon2); have hz2 := hon2.alloc.grew.size; clear hb2 hon2)
  refine (putNum_any base v2 _ (u64 n) 8 (u64_lt n) (by omega) _ HB2.out (Nat.le_trans hbase hz2) (by simp; omega)).mono ?_
  rintro e w3 ⟨v3, rfl, hb3, hon3⟩
  have HB3 := Lib.hid hb3
  have HO3 := Lib.hid (HO2.out.trans hon3)
  clear hb3 hon3
  go_wp2_with fail
  go_ret
  have hb3 := HB3.out
  rw [List.append_assoc] at hb3
  exact ⟨_, _, rfl, hb3, HO3.out.alloc, by simp, by simp; omega, Grew.exact _ _⟩

set_option maxRecDepth 100000 in
set_option maxHeartbeats 4000000 in
theorem putV4_any (base : Nat) (v : Value) (L : List UInt8) (nm s : ByteArray) (n : Int) (a : Option Addr) (cap : Nat) (sub : List It) (w : World) (hb : Buf w base v L) (hbase : base ≤ w.heap.size) (hL : L.length ≤ 3050) (N : Nat) (hs : s.size ≤ 200) (hN : L.length + 205 ≤ N) :
    Calls Try.prog 64 #[v, .agg #[.int .i64 4, .int .i64 n, .string s, .slice a sub.length cap]] w (PutP base v L (It.mk nm 4 n s sub).putV N w) := by
  have hle : L.length ≤ 1000000 := by omega
  have HB := Lib.hid hb
  have hb1 : Buf (w.alloc (.cells #[.int .i64 4, .int .i64 n, .string s, .slice a sub.length cap] 24)) base v L := World.ownsRow.alloc HB.out _
  have HB1 := Lib.hid hb1
  clear hb hb1
  have hs2 : IntKind.u64.wrap (s.size : Int) = ((s.size : Nat) : Int) := by rw [IntKind.wrap_u64]; omega
  go_enter Try.func64, Try.ntmps64
  go_wp2_with (at_builtin; refine put_one rfl (.tmp 5) (.tmp 9) rfl HB1.out (Nat.le_trans hbase (by simp)) hle 83 (by rfl) rfl (w.heap.size + 1) (by simp) rfl ?_; intro v2 w2 hb2 hon2; have HB2 := Lib.hid hb2; have HO2 := Lib.hid hon2; obtain ⟨c0, c1, c2, c3⟩ := box_cells (box_keep HB.out hon2); have hz2 := hon2.alloc.grew.size; clear hb2 hon2)
  refine (putText_any base v2 _ s 4 (by decide) (by decide) _ HB2.out (Nat.le_trans hbase hz2) (by simp; omega) (by omega)).mono ?_
  rintro e w3 ⟨v3, rfl, hb3, hon3⟩
  have HB3 := Lib.hid hb3
  have HO3 := Lib.hid (HO2.out.trans hon3)
  clear hb3 hon3
  go_wp2_with fail
  go_ret
  have hb3 := HB3.out
  rw [List.append_assoc] at hb3
  exact ⟨_, _, rfl, hb3, HO3.out.alloc, by simp, by simp; omega, Grew.exact _ _⟩

set_option maxRecDepth 100000 in
set_option maxHeartbeats 4000000 in
theorem putV5_any (d base : Nat) (v : Value) (L : List UInt8) (nm s : ByteArray) (n : Int) (a : Option Addr) (cap : Nat) (sub : List It) (w : World) (hb : Buf w base v L) (hbase : base ≤ w.heap.size) (hL : L.length ≤ 3050) (N : Nat) (hN : max (L.length + 1) 3000 + 300 * (5 - d) ≤ N) (hT : TbU w base a cap sub)
    (ih : ∀ v1 L1 w1, Buf w1 base v1 L1 → base ≤ w1.heap.size → TbU w1 base a cap sub → L1.length ≤ 3100 → Calls Try.prog 41 #[v1, .slice a sub.length cap] w1 (PutP base v1 L1 (putT sub) (max L1.length 3000 + 300 * (5 - d)) w1)) :
    Calls Try.prog 64 #[v, .agg #[.int .i64 5, .int .i64 n, .string s, .slice a sub.length cap]] w (PutP base v L (It.mk nm 5 n s sub).putV N w) := by
  have hle : L.length ≤ 1000000 := by omega
  have HB := Lib.hid hb
  have hb1 : Buf (w.alloc (.cells #[.int .i64 5, .int .i64 n, .string s, .slice a sub.length cap] 24)) base v L := World.ownsRow.alloc HB.out _
  have HB1 := Lib.hid hb1
  clear hb hb1
  go_enter Try.func64, Try.ntmps64
  go_wp2_with (at_builtin; refine put_one rfl (.tmp 5) (.tmp 9) rfl HB1.out (Nat.le_trans hbase (by simp)) hle 70 (by rfl) rfl (w.heap.size + 1) (by simp) rfl ?_; intro v2 w2 hb2 hon2; have HB2 := Lib.hid hb2; have HO2 := Lib.hid hon2; obtain ⟨c0, c1, c2, c3⟩ := box_cells (box_keep HB.out hon2); have hz2 := hon2.alloc.grew.size; clear hb2 hon2)
  refine (ih v2 _ w2 HB2.out (Nat.le_trans hbase hz2) (hT.below (HO2.out.alloc.below HB.out hbase)) (by simp; omega)).mono ?_
  rintro e w3 ⟨v3, R, rfl, hb3, hon3, hlt, hN3, hg3⟩
  have HB3 := Lib.hid hb3
  have HO3 := Lib.hid (HO2.out.trans hon3)
  have HG3 := Lib.hid hg3
  have hlt3 : L.length < R.length := by simp at hlt; omega
  have hN4 : R.length ≤ N := by simp at hN3; omega
  clear hb3 hon3 hg3 hlt hN3
  go_wp2_with fail
  go_ret
  have hg3 := HG3.out
  unfold Grew at hg3
  simp only [List.append_assoc] at hg3
  exact ⟨_, _, rfl, HB3.out, HO3.out.alloc, hlt3, hN4, hg3⟩

end Go.Proofs.Ytpibbgencojbgaa
