/-
  Open, Put, Begin, Bytes, Waits of a log, walked.
-/
import Derived.Test.YtifgkmaaglaffaaSgLog
namespace Go.Proofs.Ytifgkmaaglaffaa.Sg
open Go.RowKit
set_option linter.unusedVariables false
variable {B C : Nat}

def OpenR (l : List UInt8) (w : World) (e : Ending) (w' : World) : Prop :=
  ∃ g a c vs C, e = .returned (.tuple #[.pointer (some ⟨g, 0, none⟩), .slice a (rdL l).length c]) ∧ BbsAt C w' a c (rdL l) ∧ LogAt C w' g vs (.slice none 0 0) (catR (rdL l)) [] false ∧ w.heap.size ≤ C ∧ Below w.heap.size w w'

set_option maxRecDepth 100000 in
set_option maxHeartbeats 1000000 in
theorem open_any (a : Option Addr) (cap : Nat) (l : List UInt8) (hl : l.length ≤ cap) (hcap : cap ≤ maxLen) (hn : a = none → cap = 0) (w : World) (hat : BytesAt B w a l) (hl9 : l.length ≤ 1000000) (hB : B ≤ w.heap.size) :
    Calls Try.prog 16 #[.slice a l.length cap] w (OpenR l w) := by
  have HRD := Lib.hid (read_any a cap l hl hcap hn w hat hl9 hB)
  have HFR := Lib.hid (front_bytes (a := a) hl hn)
  have HCAP := Lib.hid hcap
  have HAT := Lib.hid hat
  have hrl : rdN l ≤ l.length := rd_le l
  have htk : l.take (rdN l) = catR (rdL l) := rd_take l
  clear hat hn hcap
  go_enter Try.func16, Try.ntmps16
  go_wp2_with fail
  refine HRD.out.mono ?_
  rintro e w1 ⟨ra, rc, rfl, hbb, hb1⟩
  have hrun := HFR.out (rdN l) hrl
  rw [htk] at hrun
  have hat1 := ((HAT.out.under (hb1.mono hB)).take (rdN l))
  rw [htk] at hat1
  have hcl : (catR (rdL l)).length ≤ cap := Nat.le_trans hrl hl
  have HCL := Lib.hid (clone_any (B := B) a cap (catR (rdL l)) hcl HCAP.out (Nat.le_trans hrl hl9) w1 hat1)
  have HBB := Lib.hid hbb
  have HB1 := Lib.hid hb1
  obtain ⟨n, hnn⟩ : ∃ n, n = (catR (rdL l)).length := ⟨_, rfl⟩
  have hnr : rdN l = n := hnn.symm
  rw [← hnn] at hrun HCL
  rw [hnr] at hrun hrl ⊢
  clear hat1 hbb hb1 htk hcl hnn hnr
  go_wp2_with fail
  refine HCL.out.mono ?_
  rintro e w2 ⟨v2, rfl, hbf2, hb2⟩
  have HBF := Lib.hid hbf2
  have HB2 := Lib.hid hb2
  obtain ⟨N2, a2, c2, hN2, rfl, -, -⟩ := hbf2.form2
  clear hbf2 hb2 hN2
  go_wp2_with fail
  go_ret2
  have hba : Below w2.heap.size w2 (w2.alloc (.cells #[.slice a2 N2 c2, .slice none 0 0, .bool false] 74)) := (Below.refl _ _).alloc (Nat.le_refl _) _
  refine ⟨w2.heap.size, ra, rc, .slice a2 N2 c2, w1.heap.size, rfl, HBB.out.under (HB2.out.trans (hba.mono HB2.out.size)), ⟨heap_alloc_new _ _, HB2.out.size, HBF.out.stay fun k e => hba.block k (HBF.out.lt k e), Buf.nil _ _, fun k _ e => by cases e⟩, HB1.out.size, ?_⟩
  exact (HB1.out.trans (HB2.out.mono HB1.out.size)).trans (hba.mono (Nat.le_trans HB1.out.size HB2.out.size))

def PutR (C : Nat) (l sy wa : List UInt8) (bg : Bool) (g : Nat) (vs : Value) (w : World) (e : Ending) (w' : World) : Prop :=
  ∃ vw, e = .returned (.int .i64 (recC l)) ∧ LogAt C w' g vs vw sy (wa ++ recL l) bg ∧ Side C w w'
theorem recL_le {l : List UInt8} : (recL l).length ≤ 20006 := by
  unfold recL
  split
  · rename_i h; have := h.2; simp; omega
  · simp

set_option maxRecDepth 100000 in
set_option maxHeartbeats 1000000 in
theorem put_any {g : Nat} {vs vw : Value} {sy wa : List UInt8} {bg : Bool} (a : Option Addr) (cap : Nat) (l : List UInt8) (hl : l.length ≤ cap) (hcap : cap ≤ maxLen) (w : World) (hat : BytesAt B w a l) (h : LogAt C w g vs vw sy wa bg) (hwl : wa.length ≤ 900000) :
    Calls Try.prog 23 #[.pointer (some ⟨g, 0, none⟩), .slice a l.length cap] w (PutR C l sy wa bg g vs w) := by
  have HREC := Lib.hid (record_any a cap l hl hcap w hat)
  unfold RecR at HREC
  have HLOG := Lib.hid h
  have hrl : (recL l).length ≤ 20006 := recL_le
  have HLE : Hid (wa.length + (recL l).length ≤ 1000000) := Lib.hid (by omega)
  obtain ⟨rc, hrc⟩ : ∃ rc, rc = recC l := ⟨_, rfl⟩
  have HRC := Lib.hid hrc
  rw [← hrc] at HREC
  clear h hat hrl hrc
  go_enter Try.func23, Try.ntmps23
  go_wp2_with fail
  refine HREC.out.mono ?_
  rintro e w1 ⟨v1, rfl, hbf1, hb1⟩
  have hlog1 := HLOG.out.below hb1
  obtain ⟨⟨c0, c1, c2⟩, f0, f1, f2⟩ := box3 hlog1.box
  have HLOG1 := Lib.hid hlog1
  have HB1 := Lib.hid hb1
  obtain ⟨a1, k1, rfl, hl1, hm1, hat1⟩ := hbf1.bytes
  have HAT1 := Lib.hid hat1
  have HWB : Hid (Buf w1 C vw wa) := Lib.hid hlog1.wb
  obtain ⟨NW, aw, cw, hNW, hvw, -, -⟩ := hlog1.wb.form2
  have hcw : C ≤ w1.heap.size := Nat.le_trans hlog1.ge (Nat.le_of_lt hlog1.lt)
  subst hvw
  have hgw := hlog1.wne
  have hgl := hlog1.lt
  have HGW := Lib.hid hgw
  clear hlog1 hb1 hbf1 hat1 hNW hl1 hm1 c0 c2 f0 f2 hgw
  go_wp2_with (at_builtin; refine put_bytes (base := C) (l := wa) (m := recL l) rfl (.tmp 18) (.tmp 19) rfl HWB.out hcw HAT1.out HLE.out rfl rfl rfl ?_; intro v2 w2 hb2 hon2; obtain ⟨N2, a2, c2, hN2, rfl, -, -⟩ := hb2.form2; have hg2 := (hon2.block hgl HGW.out).trans HLOG1.out.box; obtain ⟨⟨-, y1, -⟩, -, z1, -⟩ := box3 hg2; have HB2 := Lib.hid hb2; have HO2 := Lib.hid hon2; clear hb2 hon2 hN2 hg2 c1 f1)
  obtain ⟨w3, hw3⟩ : ∃ w3, w3 = w2.setCell ⟨g, 1, none⟩ (.slice a2 N2 c2) := ⟨_, rfl⟩
  have hend := HLOG.out.more HB1.out HB2.out HO2.out hw3
  rw [← hw3]
  clear hw3 y1 z1
  go_wp2_with fail
  go_ret
  exact ⟨_, by rw [← HRC.out]; rfl, hend.1, Side.of_kept HLOG.out hend.2⟩

theorem put_nil (a : Option Addr) (cap n : Nat) (w : World) : Calls Try.prog 23 #[.pointer none, .slice a n cap] w fun e w' => e = .returned (.int .i64 7) ∧ w = w' := by
  go_enter Try.func23, Try.ntmps23
  go_wp2_with fail
  go_ret
  exact ⟨rfl, rfl⟩

theorem bytes_nil (w : World) : Calls Try.prog 20 #[.pointer none] w fun e w' => e = .returned (.slice none 0 0) ∧ w = w' := by
  go_enter Try.func20, Try.ntmps20
  go_wp2_with fail
  go_ret
  exact ⟨rfl, rfl⟩

theorem waits_any {g : Nat} {vs vw : Value} {sy wa : List UInt8} {bg : Bool} (w : World) (h : LogAt C w g vs vw sy wa bg) :
    Calls Try.prog 21 #[.pointer (some ⟨g, 0, none⟩)] w fun e w' => e = .returned (.int .i64 wa.length) ∧ w = w' := by
  obtain ⟨⟨c0, c1, c2⟩, -⟩ := box3 h.box
  obtain ⟨aw, cw, hvw, -, -⟩ := h.wb.form
  subst hvw
  clear h c0 c2
  go_enter Try.func21, Try.ntmps21
  go_wp2_with fail
  go_ret
  exact ⟨rfl, rfl⟩

set_option maxRecDepth 100000 in
theorem bytes_any {g : Nat} {vs vw : Value} {sy wa : List UInt8} {bg : Bool} (w : World) (h : LogAt C w g vs vw sy wa bg) (hs : sy.length ≤ 1000000) :
    Calls Try.prog 20 #[.pointer (some ⟨g, 0, none⟩)] w fun e w' => ∃ v, e = .returned v ∧ Buf w' w.heap.size v sy ∧ Below w.heap.size w w' := by
  obtain ⟨⟨c0, c1, c2⟩, -⟩ := box3 h.box
  obtain ⟨az, cz, hvs, hl, hm, hat⟩ := h.sb.bytes
  subst hvs
  have HCL := Lib.hid (clone_any (B := w.heap.size) az cz sy hl hm hs w hat)
  clear h c1 c2 hat hl hm
  go_enter Try.func20, Try.ntmps20
  go_wp2_with fail
  refine HCL.out.mono ?_
  rintro e w1 ⟨v1, rfl, hbf, hb⟩
  have HF := Lib.hid (And.intro hbf hb)
  clear hbf hb
  go_wp2_with fail
  go_ret
  exact ⟨_, rfl, HF.out.1, HF.out.2⟩

end Go.Proofs.Ytifgkmaaglaffaa.Sg
