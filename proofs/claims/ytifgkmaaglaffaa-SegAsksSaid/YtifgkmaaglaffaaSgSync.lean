/-
  Sync of a log, walked.
-/
import Derived.Test.YtifgkmaaglaffaaSgBegin
namespace Go.Proofs.Ytifgkmaaglaffaa.Sg
open Go.RowKit
set_option linter.unusedVariables false
variable {B C : Nat}

theorem val_lt_drew {w : World} {k : Nat} (h : k < w.heap.size) : k < w.drew.heap.size := h
set_option maxRecDepth 100000 in
set_option maxHeartbeats 1000000 in
theorem sync_any {g : Nat} {vs vw : Value} {sy wa : List UInt8} {bg : Bool} (w : World) (h : LogAt C w g vs vw sy wa bg) (hl : sy.length + wa.length ≤ 1000000) :
    Calls Try.prog 27 #[.pointer (some ⟨g, 0, none⟩)] w (SyncR C sy wa bg g w) := by
  have HLOG := Lib.hid h
  have HLE := Lib.hid hl
  obtain ⟨aw, cw, rfl, hlw, hmw, hatw⟩ := h.wb.bytes
  obtain ⟨NS, az, cs, hNS, rfl, -, -⟩ := h.sb.form2
  have HATW := Lib.hid hatw
  obtain ⟨⟨c0, c1, c2⟩, f0, f1, f2⟩ := box3 h.box
  have hCw : C ≤ w.heap.size := Nat.le_trans h.ge (Nat.le_of_lt h.lt)
  obtain ⟨n, hn⟩ : ∃ n, n = wa.length := ⟨_, rfl⟩
  have HN := Lib.hid hn
  rw [← hn] at c1
  cases bg with
  | false =>
    have hbx : Buf w.drew C (.slice az NS cs) sy := h.sb.eqHeap rfl
    have HBX := Lib.hid hbx
    have HATX : Hid (BytesAt w.heap.size w.drew aw wa) := Lib.hid (hatw.keep fun _ _ => rfl)
    have hbox := h.box
    rw [← hn] at hbox
    have HBOX := Lib.hid hbox
    have HGL := Lib.hid h.lt
    have HNE := Lib.hid h.sne
    clear h hl hlw hmw hatw hNS hn hbx hbox
    go_enter Try.func27, Try.ntmps27
    go_wp2_with fail
    go_region_law (refine step_put_bytes (base := C) (B := w.heap.size) (l := sy) (m := wa) rfl (.tmp 15) (.tmp 19) rfl HBX.out hCw HATX.out HLE.out HN.out rfl rfl ?_; intro v2 w2 hb2 hon2; obtain ⟨N2, a2, k2, hN2, rfl, -, -⟩ := hb2.form2; have hg2 := (hon2.block HGL.out HNE.out).trans HBOX.out; obtain ⟨⟨y0, -, -⟩, z0, -, -⟩ := box3 hg2; have HG2 := Lib.hid hg2; have HB2 := Lib.hid hb2; have HO2 := Lib.hid hon2; clear hb2 hon2 hN2 hg2)
    all_goals
      obtain ⟨w3, hw3⟩ : ∃ w3, w3 = w2.setCell ⟨g, 0, none⟩ (.slice a2 N2 k2) := ⟨_, rfl⟩
      rw [← hw3]
      have hg3 := (set_box3 HG2.out).1 (.slice a2 N2 k2)
      rw [← hw3] at hg3
      obtain ⟨⟨x0, x1, x2⟩, t0, t1, t2⟩ := box3 hg3
      obtain ⟨⟨-, -, r2⟩, -, -, s2⟩ := box3 ((set_box3 hg3).2.1 (.slice none 0 0))
      have HG3 := Lib.hid hw3
      clear hw3 hg3 y0 z0 c0 c1 c2 f0 f1 f2
      go_wp2_with fail
      go_end0
      have hbox := HBOX.out
      rw [HN.out] at hbox
      have hend := HLOG.out.synced (w1 := w.drew) (.inl rfl) (Kept.refl _ _).drew hbox HB2.out HO2.out (by rw [← HG3.out]) ⟨by rw [HG3.out]; rfl, by rw [HG3.out]; rfl, by rw [HG3.out]; rfl⟩
      exact ⟨_, rfl, hend.1, hend.2⟩
  | true =>
    obtain ⟨w1, hw1⟩ : ∃ w1, w1 = w.setCell ⟨g, 0, none⟩ (.slice none 0 0) := ⟨_, rfl⟩
    have hk1 : Kept [g] w w1 := by rw [hw1]; exact (Kept.refl _ _).set (by simp) 0 _
    have hbox := (set_box3 h.box).1 (.slice none 0 0)
    rw [← hw1, ← hn] at hbox
    have hatx : BytesAt w.heap.size w1.drew aw wa := hatw.other h.box (fun i m => by match i with
      | 0 => simp
      | 1 => simp
      | 2 => simp
      | i + 3 => simp) (by rw [hw1]; exact GrownBy.trans (set_grown _ _ _ _) ⟨rfl, rfl, rfl, Nat.le_refl _, fun _ _ _ => rfl⟩)
    have HATX := Lib.hid hatx
    have HBOX := Lib.hid hbox
    have hgl : g < w1.heap.size := (Array.getElem?_eq_some_iff.1 hbox).1
    have HGL := Lib.hid hgl
    have HK1 := Lib.hid hk1
    have HBX : Hid (Buf w1.drew C (.slice none 0 0) []) := Lib.hid (Buf.nil _ _)
    have HC1 : Hid (C ≤ w1.heap.size) := Lib.hid (Nat.le_trans hCw hk1.size)
    have HLW : Hid (([] : List UInt8).length + wa.length ≤ 1000000) := Lib.hid (by simp; omega)
    have HW1 := Lib.hid hw1
    clear h hl hlw hmw hatw hNS hn hbox hatx hk1 hgl c1
    go_enter Try.func27, Try.ntmps27
    clear hw1
    go_wp2_with fail
    rw [← HW1.out]
    obtain ⟨⟨x0, x1, x2⟩, t0, t1, t2⟩ := box3 HBOX.out
    clear c0 c2 f0 f1 f2
    go_region_law (refine step_put_bytes (base := C) (B := w.heap.size) (l := []) (m := wa) rfl (.tmp 15) (.tmp 19) rfl HBX.out HC1.out HATX.out HLW.out HN.out rfl rfl ?_; intro v2 w2 hb2 hon2; obtain ⟨N2, a2, k2, hN2, rfl, -, -⟩ := hb2.form2; have hg2 := (hon2.block HGL.out (by intro e; cases e)).trans HBOX.out; obtain ⟨⟨y0, -, -⟩, z0, -, -⟩ := box3 hg2; have HG2 := Lib.hid hg2; have HB2 := Lib.hid hb2; have HO2 := Lib.hid hon2; clear hb2 hon2 hN2 hg2)
    all_goals
      obtain ⟨w3, hw3⟩ : ∃ w3, w3 = w2.setCell ⟨g, 0, none⟩ (.slice a2 N2 k2) := ⟨_, rfl⟩
      rw [← hw3]
      have hg3 := (set_box3 HG2.out).1 (.slice a2 N2 k2)
      rw [← hw3] at hg3
      clear y0 z0 x0 x1 x2 t0 t1 t2
      obtain ⟨⟨x0, x1, x2⟩, t0, t1, t2⟩ := box3 hg3
      obtain ⟨⟨-, -, r2⟩, -, -, s2⟩ := box3 ((set_box3 hg3).2.1 (.slice none 0 0))
      have HG3 := Lib.hid hw3
      clear hw3 hg3
      go_wp2_with fail
      go_end0
      have hbox := HBOX.out
      rw [HN.out] at hbox
      have hend := HLOG.out.synced (w1 := w1.drew) (.inr rfl) HK1.out.drew hbox HB2.out HO2.out (by rw [← HG3.out]) ⟨by rw [HG3.out]; rfl, by rw [HG3.out]; rfl, by rw [HG3.out]; rfl⟩
      exact ⟨_, rfl, hend.1, hend.2⟩

end Go.Proofs.Ytifgkmaaglaffaa.Sg
