/-
  bytes.Clone, Record, first of package seg, walked.
-/
import Derived.Test.YtifgkmaaglaffaaSgSum
import Derived.Test.YtifgkmaaglaffaaOctN
import Derived.Test.YtifgkmaaglaffaaOctT
import Derived.Test.YtifgkmaaglaffaaClone
namespace Go.Proofs.Ytifgkmaaglaffaa.Sg
open Go.RowKit
set_option linter.unusedVariables false
variable {B : Nat}

/-- a copy of bytes: the call's own. -/
theorem bclone_any (a : Option Addr) (cap : Nat) (l : List UInt8) (hl : l.length ≤ cap) (hcap : cap ≤ maxLen) (hl9 : l.length ≤ 1000000) (w : World) (hat : BytesAt B w a l) :
    Calls Try.prog 35 #[.slice a l.length cap] w fun e w' => ∃ v, e = .returned v ∧ Buf w' w.heap.size v l ∧ Below w.heap.size w w' := by
  cases a with
  | none =>
    obtain rfl : l = [] := by
      cases l with
      | nil => rfl
      | cons c r => obtain ⟨b, o, h, _⟩ := hat (by simp); cases h
    have hnil : (binOp .eql 22 (.slice none 0 cap) (.slice none 0 0)).run Try.prog w = .ok (.bool true) w := Lib.run_eql_slice_nil w 22 5 none 0 cap 0 0 Try.underlying22
    go_enter Try.func35, Try.ntmps35
    go_wp2_with fail
    go_ret
    exact ⟨_, rfl, Buf.nil _ _, Below.refl _ _⟩
  | some x =>
    have hb0 : Below w.heap.size w (w.alloc (.cells #[] 5)) := (Below.refl _ _).alloc (Nat.le_refl _) _
    have HB0 := Lib.hid hb0
    have HAT := Lib.hid (hat.below hb0)
    have hown : Buf (w.alloc (.cells #[] 5)) w.heap.size (.slice (some ⟨w.heap.size, 0, none⟩) 0 0) [] := World.ownsRow_lit w #[] 0 (Nat.le_refl _) (by decide) (by simp)
    have HOWN := Lib.hid hown
    clear hat hb0 hown
    have hnil : (binOp .eql 22 (.slice (some x) l.length cap) (.slice none 0 0)).run Try.prog w = .ok (.bool false) w := Lib.run_eql_slice_nil w 22 5 (some x) l.length cap 0 0 Try.underlying22
    go_enter Try.func35, Try.ntmps35
    go_wp2_with (at_builtin; refine put_bytes (base := w.heap.size) (l := []) (m := l) rfl (.tmp 5) (.tmp 6) rfl HOWN.out HB0.out.size HAT.out (by simp; omega) rfl rfl rfl ?_; intro v2 w2 hb2 hon2; have HB2 := Lib.hid hb2; have HBEL2 := Lib.hid (HB0.out.trans (hon2.below HOWN.out HB0.out.size)); clear hb2 hon2)
    go_ret
    exact ⟨_, rfl, HB2.out, HBEL2.out⟩

theorem make_cap (n : Nat) (hn : n ≤ 100000) (w : World) : (Instr.makeSlice 22 (.int .i64 0) (.int .i64 n)).run Try.prog w = .ok (.slice (some ⟨w.heap.size, 0, none⟩) 0 n) (w.alloc (.cells (madeCells #[.int .u8 0] n) 5)) := by
  obtain ⟨i0, hi, hz0, hz1, hz2⟩ := info_parts u8_info
  have h := run_make (P := Try.prog) w 22 5 i0 _ Try.underlying22 hi hz0 .i64 .i64 0 n (by omega) (by omega) (by rw [hz2]; omega) (by omega)
  rw [hz1] at h
  simpa [Value.cells] using h
theorem made_buf (n : Nat) (hn : n ≤ 100000) (w : World) : Buf (w.alloc (.cells (madeCells #[.int .u8 0] n) 5)) w.heap.size (.slice (some ⟨w.heap.size, 0, none⟩) 0 n) [] := by
  refine ⟨by simp, .inr ⟨w.heap.size, n, _, rfl, Nat.le_refl _, heap_alloc_new _ _, Nat.zero_le _, by unfold maxLen; omega, by simp [madeCells], by simp [cellsOf]⟩⟩

theorem mayL_int (n : Nat) : decide (1 ≤ (n : Int) ∧ (n : Int) ≤ 20000) = decide (MayL n) :=
  decide_eq_decide.2 ⟨fun h => ⟨by omega, by omega⟩, fun h => by have h1 := h.1; have h2 := h.2; omega⟩
def recC (l : List UInt8) : Nat := if MayL l.length then 0 else 1
def recL (l : List UInt8) : List UInt8 := if MayL l.length then recF l else []
def RecR (l : List UInt8) (w : World) (e : Ending) (w' : World) : Prop := ∃ v, e = .returned (.tuple #[v, .int .i64 (recC l)]) ∧ Buf w' w.heap.size v (recL l) ∧ Below w.heap.size w w'

set_option maxRecDepth 100000 in
set_option maxHeartbeats 4000000 in
theorem record_any (a : Option Addr) (cap : Nat) (l : List UInt8) (hl : l.length ≤ cap) (hcap : cap ≤ maxLen) (w : World) (hat : BytesAt B w a l) :
    Calls Try.prog 11 #[.slice a l.length cap] w (RecR l w) := by
  unfold RecR recC recL
  have HM : Hid (decide (1 ≤ (l.length : Int) ∧ (l.length : Int) ≤ 20000) = decide (MayL l.length)) := Lib.hid (mayL_int _)
  by_cases hm : MayL l.length
  · have hm2 := hm.2
    rw [if_pos hm, if_pos hm]
    have HAT := Lib.hid hat
    have hcap2 : cap ≤ 9223372036854775807 := by unfold maxLen at hcap; omega
    have HCAP := Lib.hid hcap
    have hD : Hid (decide (MayL l.length) = true) := Lib.hid (decide_eq_true hm)
    have hw1 : IntKind.u64.wrap (l.length : Int) = ((l.length : Nat) : Int) := by rw [IntKind.wrap_u64]; omega
    have hsf := sumF_lt l
    have hw2 : IntKind.u64.wrap (sumF l : Int) = ((sumF l : Nat) : Int) := by rw [IntKind.wrap_u64]; omega
    have hmk := make_cap (l.length + 6) (by omega) w
    rw [show ((l.length + 6 : Nat) : Int) = 6 + (l.length : Int) by omega] at hmk
    obtain ⟨w1, hw1'⟩ : ∃ w1, w1 = w.alloc (.cells (madeCells #[.int .u8 0] (l.length + 6)) 5) := ⟨_, rfl⟩
    have hb1 : Below w.heap.size w w1 := by rw [hw1']; exact (Below.refl _ _).alloc (Nat.le_refl _) _
    have hbf1 : Buf w1 w.heap.size (.slice (some ⟨w.heap.size, 0, none⟩) 0 (l.length + 6)) [] := by rw [hw1']; exact made_buf _ (by omega) w
    rw [← hw1'] at hmk
    have HB1 := Lib.hid hb1
    have HF1 := Lib.hid hbf1
    have HRF : Hid ([] ++ be 2 l.length ++ be 4 (sumF l) ++ l = recF l) := Lib.hid (by unfold recF; simp)
    have HLE : Hid (([] ++ be 2 l.length).length = 2) := Lib.hid (by simp)
    have HLE4 : Hid (([] ++ be 2 l.length ++ be 4 (sumF l)).length = 6) := Lib.hid (by simp)
    have HSUM := Lib.hid fun wx (h : BytesAt B wx a l) => sum_any (B := B) a cap l hl hcap wx h
    generalize sumF l = s at *
    clear hat hm hb1 hbf1 hw1'
    go_enter Try.func11, Try.ntmps11
    go_wp2_with fail
    refine (mayLength_any _ _).mono ?_
    rintro e wx ⟨rfl, rfl⟩
    rw [HM.out, hD.out]
    go_wp2_with fail
    refine (putNum_any w.heap.size _ [] l.length 2 (by omega) (by omega) w1 HF1.out HB1.out.size (by simp)).mono ?_
    rintro e w2 ⟨v2, rfl, hbf2, hon2⟩
    have HB2 := Lib.hid (HB1.out.trans (hon2.below HF1.out HB1.out.size))
    have HF2 := Lib.hid hbf2
    clear hbf2 hon2
    go_wp2_with fail
    refine (HSUM.out w2 (HAT.out.below HB2.out)).mono ?_
    rintro e wx ⟨rfl, rfl⟩
    go_wp2_with fail
    refine (putNum_any w.heap.size _ _ s 4 (by omega) (by omega) w2 HF2.out HB2.out.size (by rw [HLE.out]; omega)).mono ?_
    rintro e w3 ⟨v3, rfl, hbf3, hon3⟩
    have HB3 := Lib.hid (HB2.out.trans (hon3.below HF2.out HB2.out.size))
    have HF3 := Lib.hid hbf3
    have HAT3 := Lib.hid (HAT.out.below HB3.out)
    clear hbf3 hon3
    go_wp2_with (at_builtin; refine put_bytes (base := w.heap.size) (m := l) rfl (.tmp 23) (.tmp 24) rfl HF3.out HB3.out.size HAT3.out (by rw [HLE4.out]; omega) rfl rfl rfl ?_; intro v4 w4 hb4 hon4; have HF4 := Lib.hid hb4; have HB4 := Lib.hid (HB3.out.trans (hon4.below HF3.out HB3.out.size)); clear hb4 hon4)
    go_ret2
    exact ⟨_, rfl, by rw [← HRF.out]; exact HF4.out, HB4.out⟩
  · rw [if_neg hm, if_neg hm]
    have hD : Hid (decide (MayL l.length) = false) := Lib.hid (decide_eq_false hm)
    clear hm hat
    go_enter Try.func11, Try.ntmps11
    go_wp2_with fail
    refine (mayLength_any _ _).mono ?_
    rintro e wx ⟨rfl, rfl⟩
    rw [HM.out, hD.out]
    go_wp2_with fail
    go_ret2
    exact ⟨_, rfl, Buf.nil _ _, Below.refl _ _⟩

end Go.Proofs.Ytifgkmaaglaffaa.Sg
