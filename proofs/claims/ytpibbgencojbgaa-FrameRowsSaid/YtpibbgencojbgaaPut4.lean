/-
  Put, walked.
-/
import Derived.Test.YtpibbgencojbgaaDat4
namespace Go.Proofs.Ytpibbgencojbgaa
open Go.RowKit
set_option linter.unusedVariables false

/-- a frame's value, its data in blocks below B. -/
def FrIn (B : Nat) (w : World) (v : Value) (f : Fr) : Prop := ∃ a cap, v = .agg #[.int .i64 f.kind, .int .i64 f.chan, .slice a f.data.length cap] ∧ f.data.length ≤ cap ∧ cap ≤ maxLen ∧ BytesAt B w a f.data
theorem BytesAt.under {B : Nat} {w w' : World} {a : Option Addr} {l : List UInt8} (h : BytesAt B w a l) (hb : Below B w w') : BytesAt B w' a l := by
  intro h0
  obtain ⟨b, o, rfl, hbB, hc⟩ := h h0
  exact ⟨b, o, rfl, hbB, fun i hi => (hb.cell (p := ⟨b, o + i, none⟩) hbB).trans (hc i hi)⟩
theorem BytesAt.mono {B B' : Nat} {w : World} {a : Option Addr} {l : List UInt8} (h : BytesAt B w a l) (hb : B ≤ B') : BytesAt B' w a l := by
  intro h0
  obtain ⟨b, o, rfl, hbB, hc⟩ := h h0
  exact ⟨b, o, rfl, Nat.lt_of_lt_of_le hbB hb, hc⟩
theorem FrIn.below {B : Nat} {w w' : World} {v : Value} {f : Fr} (h : FrIn B w v f) (hb : Below w.heap.size w w') : FrIn B w' v f := by
  obtain ⟨a, cap, hv, h1, h2, h3⟩ := h
  exact ⟨a, cap, hv, h1, h2, h3.below hb⟩

def PutR (f : Fr) (w : World) (e : Ending) (w' : World) : Prop :=
  Below w.heap.size w w' ∧ ((¬ MayF f ∧ e = .returned (.tuple #[.slice none 0 0, .int .i64 1])) ∨ (MayF f ∧ ∃ v, e = .returned (.tuple #[v, .int .i64 0]) ∧ Buf w' w.heap.size v (putF f)))

set_option maxRecDepth 100000 in
set_option maxHeartbeats 4000000 in
theorem put_no (k c : Int) (a : Option Addr) (n cap : Nat) (w : World) (hm : ¬ MayN k c n) :
    Calls Try.prog 30 #[.agg #[.int .i64 k, .int .i64 c, .slice a n cap]] w fun e w' => Below w.heap.size w w' ∧ e = .returned (.tuple #[.slice none 0 0, .int .i64 1]) := by
  go_enter Try.func30, Try.ntmps30
  go_wp2_with fail
  refine (may_any k c a n cap _).mono ?_
  rintro e w1 ⟨r, hr, rfl, hb⟩
  have hrf : r = false := by
    cases r
    · rfl
    · exact absurd (hr.1 rfl) hm
  subst hrf
  have HB := Lib.hid (((Below.refl w.heap.size w).alloc (Nat.le_refl _) (.cells #[.int .i64 k, .int .i64 c, .slice a n cap] 48)).trans (hb.mono (by simp)))
  clear hr hb
  go_wp2_with fail
  go_ret2
  exact ⟨HB.out, rfl⟩

theorem make_buf (n : Nat) (hn : n ≤ 100000) (w : World) (base : Nat) (hb : base ≤ w.heap.size) :
    ∃ w', (Instr.makeSlice 25 (.int .i64 0) (.int .i64 n)).run Try.prog w = .ok (.slice (some ⟨w.heap.size, 0, none⟩) 0 n) w' ∧ Buf w' base (.slice (some ⟨w.heap.size, 0, none⟩) 0 n) [] ∧ w.grownBy w' none := by
  obtain ⟨i0, hi, hz0, hz1, hz2⟩ := info_parts u8_info
  exact run_make_own w base 25 5 i0 _ 1 Try.underlying25 hi hz0 hz1 .i64 .i64 n (by rw [hz2]; omega) (by unfold maxLen; omega) hb

theorem cells3 {w : World} {g : Nat} {k n s : Value} {t : TypeId} {fr : Nat × Nat} (h : w.heap[g]? = some (.cells #[k, n, s] t fr)) :
    w.cell? ⟨g, 0, none⟩ = some k ∧ w.cell? ⟨g, 1, none⟩ = some n ∧ w.cell? ⟨g, 2, none⟩ = some s := by
  refine ⟨?_, ?_, ?_⟩
  all_goals (rw [cell_of_row w _ _ _ _ _ h]; rfl)

theorem Buf.mono {w : World} {base base' : Nat} {v : Value} {l : List UInt8} (h : Buf w base v l) (hb : base' ≤ base) : Buf w base' v l := by
  refine ⟨h.1, ?_⟩
  rcases h.2 with h1 | ⟨g, cap, cur, hv, hbg, r⟩
  · exact .inl h1
  · exact .inr ⟨g, cap, cur, hv, by omega, r⟩

set_option maxRecDepth 100000 in
set_option maxHeartbeats 4000000 in
theorem put_yes (B : Nat) (k c : Nat) (a : Option Addr) (cap : Nat) (d : List UInt8) (hd : d.length ≤ cap) (hcap : cap ≤ maxLen) (w : World) (hB : B ≤ w.heap.size) (hat : BytesAt B w a d) (hm : MayN k c d.length) :
    Calls Try.prog 30 #[.agg #[.int .i64 k, .int .i64 c, .slice a d.length cap]] w fun e w' => Below w.heap.size w w' ∧ ∃ v, e = .returned (.tuple #[v, .int .i64 0]) ∧ Buf w' w.heap.size v (putF ⟨k, c, d⟩) := by
  have hk := kind_range hm.1
  have hc := chan_range hm.2.1
  have hl := len_range hm.2.2
  have hblk : (w.alloc (.cells #[.int .i64 k, .int .i64 c, .slice a d.length cap] 48)).heap[w.heap.size]? = some (.cells #[.int .i64 k, .int .i64 c, .slice a d.length cap] 48 (0, 0)) := heap_alloc_new w _
  have HBLK := Lib.hid hblk
  have HAT := Lib.hid hat
  clear hblk hat
  unfold maxLen at hcap
  go_enter Try.func30, Try.ntmps30
  go_wp2_with fail
  refine (may_any k c a d.length cap _).mono ?_
  rintro e w1 ⟨r, hr, rfl, hb⟩
  obtain rfl : r = true := hr.2 hm
  have hz1 : w.heap.size < w1.heap.size := by have := hb.size; simp at this; omega
  have hblk1 := (hb.block _ (by simp)).trans HBLK.out
  have hb1 := ((Below.refl w.heap.size w).alloc (Nat.le_refl _) (.cells #[.int .i64 k, .int .i64 c, .slice a d.length cap] 48)).trans (hb.mono (by simp))
  obtain ⟨c0, c1, c2⟩ := cells3 hblk1
  obtain ⟨n, hn⟩ : ∃ n, n = 7 + d.length + 1 := ⟨_, rfl⟩
  obtain ⟨w2, hmk, hbuf2, hg2⟩ := make_buf n (by omega) w1 w1.heap.size (Nat.le_refl _)
  have hnn : (7 : Int) + (d.length : Int) + 1 = (n : Int) := by omega
  have HB1 := Lib.hid hb1
  have HBUF2 := Lib.hid hbuf2
  have hw2 := hg2.size
  have hc2 : ∀ p : Addr, p.block < w1.heap.size → w2.cell? p = w1.cell? p := fun p hp => World.cell?_of_block (hg2.block p.block hp (by simp))
  have d0 := (hc2 ⟨w.heap.size, 0, none⟩ hz1).trans c0
  have d1 := (hc2 ⟨w.heap.size, 1, none⟩ hz1).trans c1
  have d2 := (hc2 ⟨w.heap.size, 2, none⟩ hz1).trans c2
  have HG2 := Lib.hid hg2
  have hwk : IntKind.u64.wrap (k : Int) = (k : Int) := by rw [IntKind.wrap_u64]; omega
  have hwc : IntKind.u64.wrap (c : Int) = (c : Int) := by rw [IntKind.wrap_u64]; omega
  have hwd : IntKind.u64.wrap (d.length : Int) = (d.length : Int) := by rw [IntKind.wrap_u64]; omega
  clear hr hb hb1 hblk1 hbuf2 hc2 hg2 hn
  go_wp2_with fail
  refine (putNum_any w1.heap.size (.slice (some ⟨w1.heap.size, 0, none⟩) 0 n) [] k 1 (by omega) (by omega) _ HBUF2.out HG2.out.size (by simp)).mono ?_
  rintro e w3 ⟨v3, rfl, hb3, hon3⟩
  rw [List.nil_append] at hb3
  have hbel := hon3.below HBUF2.out HG2.out.size
  have e1 := (hbel.cell (p := ⟨w.heap.size, 1, none⟩) hz1).trans d1
  have e2 := (hbel.cell (p := ⟨w.heap.size, 2, none⟩) hz1).trans d2
  have HBEL := Lib.hid (((Below.refl w1.heap.size w1).grown HG2.out (Nat.le_refl _) (by simp)).trans hbel)
  have HB3 := Lib.hid hb3
  clear hb3 hon3 hbel d0 d1 d2 c0 c1 c2 hmk
  go_wp2_with fail
  refine (putNum_any w1.heap.size v3 (be 1 k) c 2 (by omega) (by omega) _ HB3.out HBEL.out.size (by simp)).mono ?_
  rintro e w4 ⟨v4, rfl, hb4, hon4⟩
  have hbel := hon4.below HB3.out HBEL.out.size
  have g2 := (hbel.cell (p := ⟨w.heap.size, 2, none⟩) hz1).trans e2
  have HBEL4 := Lib.hid (HBEL.out.trans hbel)
  have HB4 := Lib.hid hb4
  clear hb4 hon4 hbel e1 e2
  go_wp2_with fail
  refine (putNum_any w1.heap.size v4 (be 1 k ++ be 2 c) d.length 4 (by omega) (by omega) _ HB4.out HBEL4.out.size (by simp)).mono ?_
  rintro e w5 ⟨v5, rfl, hb5, hon5⟩
  have hbel := hon5.below HB4.out HBEL4.out.size
  have i2 := (hbel.cell (p := ⟨w.heap.size, 2, none⟩) hz1).trans g2
  have HBEL5 := Lib.hid (HBEL4.out.trans hbel)
  have HB5 := Lib.hid hb5
  clear hb5 hon5 hbel g2
  have hat5 : BytesAt B w5 a d := HAT.out.under ((HB1.out.mono hB).trans (HBEL5.out.mono (by omega)))
  have HAT5 := Lib.hid hat5
  clear hat5
  go_wp2_with (at_builtin; refine put_bytes (base := w1.heap.size) (l := be 1 k ++ be 2 c ++ be 4 d.length) (m := d) rfl (.tmp 30) (.tmp 32) rfl HB5.out HBEL5.out.size HAT5.out (by simp; omega) rfl rfl rfl ?_; intro v6 w6 hb6 hon6; have HB6 := Lib.hid hb6; have HBEL6 := Lib.hid (HBEL5.out.trans (hon6.below HB5.out HBEL5.out.size)); clear hb6 hon6)
  refine (putNum_any w1.heap.size v6 (be 1 k ++ be 2 c ++ be 4 d.length ++ d) 206 1 (by omega) (by omega) _ HB6.out HBEL6.out.size (by simp; omega)).mono ?_
  rintro e w7 ⟨v7, rfl, hb7, hon7⟩
  have HBEL7 := Lib.hid (HBEL6.out.trans (hon7.below HB6.out HBEL6.out.size))
  have HB7 := Lib.hid hb7
  clear hb7 hon7
  go_wp2_with fail
  go_ret2
  refine ⟨HB1.out.trans (HBEL7.out.mono (by omega)), v7, rfl, ?_⟩
  exact HB7.out.mono (by omega)

theorem put_any (B : Nat) (f : Fr) (a : Option Addr) (cap : Nat) (hd : f.data.length ≤ cap) (hcap : cap ≤ maxLen) (w : World) (hB : B ≤ w.heap.size) (hat : BytesAt B w a f.data) :
    Calls Try.prog 30 #[.agg #[.int .i64 f.kind, .int .i64 f.chan, .slice a f.data.length cap]] w (PutR f w) := by
  obtain ⟨k, c, d⟩ := f
  by_cases hm : MayF ⟨k, c, d⟩
  · have hk := kind_range hm.1
    have hc := chan_range hm.2.1
    obtain ⟨k', rfl⟩ : ∃ n : Nat, k = n := ⟨k.toNat, by simp only at hk; omega⟩
    obtain ⟨c', rfl⟩ : ∃ n : Nat, c = n := ⟨c.toNat, by simp only at hc; omega⟩
    refine (put_yes B k' c' a cap d hd hcap w hB hat hm).mono ?_
    rintro e w' ⟨h1, v, h2, h3⟩
    exact ⟨h1, .inr ⟨hm, v, h2, h3⟩⟩
  · refine (put_no k c a d.length cap w hm).mono ?_
    rintro e w' ⟨h1, h2⟩
    exact ⟨h1, .inl ⟨hm, h2⟩⟩

end Go.Proofs.Ytpibbgencojbgaa
