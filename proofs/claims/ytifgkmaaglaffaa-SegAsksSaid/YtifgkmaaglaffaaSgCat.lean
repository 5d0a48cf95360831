/-
  slices.Grow (by the library's contract) and slices.Concat of two slices of bytes, walked.
-/
import Derived.Test.YtifgkmaaglaffaaSgLog
import Derived.Test.YtifgkmaaglaffaaGrow
import Derived.LoopN
namespace Go.Proofs.Ytifgkmaaglaffaa.Sg
open Go.RowKit
set_option linter.unusedVariables false
variable {B C : Nat}

theorem grow_any (n : Nat) (hn : n ≤ 1000000) (w : World) :
    Calls Try.prog 43 #[.slice none 0 0, .int .i64 n] w fun e w' => ∃ v, e = .returned v ∧ Buf w' w.heap.size v [] ∧ Below w.heap.size w w' := by
  by_cases h0 : n = 0
  · subst h0
    refine (Any8.slices_Grow_room Try.growAt none 0 0 0 w (Nat.le_refl _) (by omega) (by omega) (by omega)).mono ?_
    rintro e w' ⟨rfl, rfl⟩
    exact ⟨_, rfl, Buf.nil _ _, Below.refl _ _⟩
  · obtain ⟨i0, hi, hz0, hz1, hz2⟩ := info_parts u8_info
    refine (Any8.slices_Grow_grow Try.growAt i0 (.int .u8 0) hi hz0 (by rw [hz1]; decide) none 0 0 n [] w (Nat.le_refl _) (by omega) (by rw [hz2]; omega) (by omega) (by simp) (fun _ => rfl) (fun a h => by cases h)).mono ?_
    rintro e w' ⟨rfl, hw⟩
    have hge := grownCap_ge w (0 + n) 0 5
    have hle := grownCap_le_maxLen w (0 + n) 0 5 (by unfold maxLen; omega)
    have ht : Try.growAt_ren.t 25 = 5 := rfl
    rw [ht] at hw ⊢
    refine ⟨_, rfl, ⟨by simp [cellsOf], .inr ⟨w.heap.size, _, _, rfl, Nat.le_refl _, by rw [hw]; exact heap_alloc_new w.drew _, Nat.zero_le _, hle, ?_, by simp [cellsOf]⟩⟩, ?_⟩
    · simp only [Array.size_append, size_zeroCells]
      simp only [List.size_toArray, List.length_nil, show ((Value.int .u8 0).cells).size = 1 from rfl]
      omega
    · rw [hw]
      exact (((Kept.refl [] w).drew.alloc _).below (Nat.le_refl _) (fun b hb => by simp at hb))

theorem two_cells {w : World} {g : Nat} {x y : Value} {t : TypeId} (h : w.heap[g]? = some (.cells #[x, y] t (0, 0))) : w.cell? ⟨g, 0, none⟩ = some x ∧ w.cell? ⟨g, 1, none⟩ = some y := by
  constructor
  all_goals (rw [cell_of_row w _ _ _ _ _ h]; rfl)

set_option maxRecDepth 100000 in
set_option maxHeartbeats 1000000 in
theorem concat_any {H : Nat} {a1 a2 : Option Addr} {n1 n2 c1 c2 : Nat} {l1 l2 : List UInt8} (w : World) (hb : w.heap[H]? = some (.cells #[.slice a1 n1 c1, .slice a2 n2 c2] 22 (0, 0))) (h1 : BytesAt B w a1 l1) (h2 : BytesAt B w a2 l2) (hn1 : n1 = l1.length) (hn2 : n2 = l2.length) (hl : l1.length + l2.length ≤ 1000000) (hB : B ≤ w.heap.size) :
    Calls Try.prog 40 #[.slice (some ⟨H, 0, none⟩) 2 2] w fun e w' => ∃ v, e = .returned v ∧ Buf w' w.heap.size v (l1 ++ l2) ∧ Below w.heap.size w w' := by
  obtain ⟨x0, x1⟩ := two_cells hb
  have HB := Lib.hid hb
  have H1 := Lib.hid h1
  have H2 := Lib.hid h2
  have HN1 := Lib.hid hn1
  have HN2 := Lib.hid hn2
  have HHB := Lib.hid hB
  have hhl : H < w.heap.size := (Array.getElem?_eq_some_iff.1 hb).1
  have HHL := Lib.hid hhl
  have HL := Lib.hid hl
  have hn3 : n1 + n2 ≤ 1000000 := by omega
  have HGR := Lib.hid (grow_any (n1 + n2) hn3 w)
  rw [show ((n1 + n2 : Nat) : Int) = (n1 : Int) + (n2 : Int) by omega] at HGR
  have q1 : ¬ (n1 : Int) < 0 := by omega
  have q2 : ¬ (n1 : Int) + (n2 : Int) < 0 := by omega
  clear hb h1 h2 hn1 hn2 hB hhl hl
  go_enter Try.func40, Try.ntmps40
  go_wp2_with fail
  refine wp_loop_rounds 3 ?_
  rw [rounds_succ]
  go_wp2_with fail
  rw [rounds_succ]
  go_wp2_with fail
  rw [rounds_succ]
  go_wp2_with fail
  refine HGR.out.mono ?_
  rintro e w1 ⟨v1, rfl, hbf1, hb1⟩
  have HF1 := Lib.hid hbf1
  have HB1 := Lib.hid hb1
  have HA1 := Lib.hid (H1.out.under (hb1.mono HHB.out))
  have HA2 := Lib.hid (H2.out.under (hb1.mono HHB.out))
  obtain ⟨y0, y1⟩ := two_cells ((hb1.block _ HHL.out).trans HB.out)
  have HLE1 : Hid (([] : List UInt8).length + l1.length ≤ 1000000) := Lib.hid (by have := HL.out; simp; omega)
  clear hbf1 hb1 x0 x1
  go_wp2_with fail
  refine wp_loop_rounds 3 ?_
  rw [rounds_succ]
  go_wp2_with (at_builtin; refine put_bytes (base := w.heap.size) (l := []) (m := l1) rfl (.tmp 31) (.tmp 32) rfl HF1.out HB1.out.size HA1.out HLE1.out HN1.out rfl rfl ?_; intro v2 w2 hb2 hon2; have HF2 := Lib.hid hb2; have HB2 := Lib.hid (HB1.out.trans (hon2.below HF1.out HB1.out.size)); clear hb2 hon2)
  have HA3 := Lib.hid (H2.out.under (HB2.out.mono HHB.out))
  clear y0 y1
  obtain ⟨y0, y1⟩ := two_cells ((HB2.out.block _ HHL.out).trans HB.out)
  rw [rounds_succ]
  go_wp2_with (at_builtin; refine put_bytes (base := w.heap.size) (l := [] ++ l1) (m := l2) rfl (.tmp 31) (.tmp 32) rfl HF2.out HB2.out.size HA3.out HL.out HN2.out rfl rfl ?_; intro v3 w3 hb3 hon3; have HF3 := Lib.hid hb3; have HB3 := Lib.hid (HB2.out.trans (hon3.below HF2.out HB2.out.size)); clear hb3 hon3)
  rw [rounds_succ]
  go_wp2_with fail
  go_ret
  exact ⟨_, rfl, HF3.out, HB3.out⟩

end Go.Proofs.Ytifgkmaaglaffaa.Sg
