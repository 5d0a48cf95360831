/-
  What law 12 is told of a few, walked.
  A shard that is answered out of a box, however wide the frame.
  A shard in a box of the walk's own, and its rows.
-/
import Derived.Test.YthohjcfpobeplaaShPut
import Derived.Test.YthohjcfpobeplaaShGetG
import Derived.Test.YthohjcfpobeplaaShAck
import Derived.Test.YthohjcfpobeplaaShLeaf
import Derived.Test.YthohjcfpobeplaaShEq
import Derived.StillTailTactics
import Derived.BigRegion

namespace Go.Proofs.Ythohjcfpobeplaa.Sh
open Go.RowKit Rg Go.Sort
set_option linter.unusedVariables false
set_option linter.unusedSimpArgs false

def tM : Mg := ⟨1, 3, [107], [98], false⟩
def tA : Sd := ⟨false, 1, [tM], [], [⟨1, [107], 3⟩]⟩
def tB : Sd := ⟨false, 2, [], [⟨1, tM⟩], [⟨1, [107], 3⟩]⟩
def tC : Sd := ⟨false, 2, [{ tM with again := true }], [], [⟨1, [107], 3⟩]⟩
def tD : Sd := ⟨false, 3, [], [⟨2, { tM with again := true }⟩], [⟨1, [107], 3⟩]⟩
def tZ : Sd := ⟨false, 3, [], [], [⟨1, [107], 3⟩]⟩
def tH : Hd := ⟨1, tM⟩
def tJ : Hd := ⟨2, { tM with again := true }⟩
theorem t_put1 : putS sd1 [tM] = tA ∧ putC sd1 [tM] = 0 := by decide +kernel
theorem t_put2 : putS tA [tM] = tA ∧ putC tA [tM] = 8 := by decide +kernel
theorem t_get1 : getS tA = tB ∧ getH tA = tH ∧ getC tA = 0 := by decide +kernel
theorem t_get2 : getS tB = tB ∧ getH tB = hd0 ∧ getC tB = 3 := by decide +kernel
theorem t_nack : nackS tB 1 = tC ∧ outC tB 1 = 0 := by decide +kernel
theorem t_get3 : getS tC = tD ∧ getH tC = tJ ∧ getC tC = 0 := by decide +kernel
theorem t_ack1 : ackS tD 2 = tZ ∧ outC tD 2 = 0 := by decide +kernel
theorem t_ack2 : ackS tD 1 = tD ∧ outC tD 1 = 3 := by decide +kernel
theorem t_end : lastF tZ.ms 1 [107] = 3 ∧ MaySd tZ ∧ MayMg tM ∧ ¬ MayMg mg0 := by decide +kernel

theorem box_bl {w w' : World} {g : Nat} {o : Obj} (h : w.heap[g]? = some o) (hb : Below w.heap.size w w') : w'.heap[g]? = some o := (hb.block _ (Array.getElem?_eq_some_iff.1 h).1).trans h
theorem box_al {w : World} {g : Nat} {o : Obj} (h : w.heap[g]? = some o) (o1 : Obj) : (w.alloc o1).heap[g]? = some o := (Below.heap_alloc w o1 g (Array.getElem?_eq_some_iff.1 h).1).trans h
theorem box_lt {w : World} {g : Nat} {o : Obj} (h : w.heap[g]? = some o) : g < w.heap.size ∧ ¬ g = w.heap.size ∧ ¬ g = w.heap.size + 1 := by
  have := (Array.getElem?_eq_some_iff.1 h).1
  omega
theorem sd_al {w : World} (ra : Option Addr) (rc : Nat) (ha : Option Addr) (hc : Nat) (ma : Option Addr) (mc : Nat) {s : Sd} (h : SdAt w ra rc ha hc ma mc s) (o : Obj) : SdAt (w.alloc o) ra rc ha hc ma mc s := h.below _ _ _ _ _ _ ((Below.refl _ _).alloc (Nat.le_refl _) _)
theorem low_al {B : Nat} {w w' : World} (h : Below B w w') (hB : B ≤ w.heap.size) (o : Obj) : Below B w (w'.alloc o) := h.alloc (Nat.le_trans hB h.size) o
theorem one_box {w : World} (o1 : Obj) : (w.alloc o1).heap[w.heap.size]? = some o1 ∧ Below w.heap.size w (w.alloc o1) ∧ (w.alloc o1).heap.size = w.heap.size + 1 :=
  ⟨heap_alloc_new _ _, (Below.refl _ _).alloc (Nat.le_refl _) _, by simp⟩

set_option maxRecDepth 100000 in
set_option maxHeartbeats 8000000 in
theorem told_any (w : World) : Calls Try.prog 19 #[] w fun e w' => e = .returned (.bool true) ∧ Below w.heap.size w w' := by
  have HNEW := Lib.hid (new_any w)
  go_enter Try.func19, Try.ntmps19
  go_wp2_with fail
  refine HNEW.out.mono ?_
  rintro e w1 ⟨rfl, hb1⟩
  have HB1 := Lib.hid hb1
  clear hb1
  go_wp2_with fail
  have sn : SdAt w1 none 0 none 0 none 0 sd1 := ⟨RowsAt.nil _ _ _ _ _ (by simp [maxLen]), RowsAt.nil _ _ _ _ _ (by simp [maxLen]), RowsAt.nil _ _ _ _ _ (by simp [maxLen]), fun _ => rfl, fun _ => rfl, fun _ => rfl, by decide⟩
  obtain ⟨-, hy, hb0, hWs⟩ := two_box (w := w1) (.cells #[.bool false, .int .i64 1, .slice none 0 0, .slice none 0 0, .slice none 0 0] 26) (.cells #[.int .i64 tM.pub, .int .i64 tM.seq, .string ⟨tM.key.toArray⟩, .string ⟨tM.body.toArray⟩, .bool tM.again] 35)
  have sn1 := sn.below _ _ _ _ _ _ hb0
  obtain ⟨W1, hW⟩ : ∃ W, W = (w1.alloc (.cells #[.bool false, .int .i64 1, .slice none 0 0, .slice none 0 0, .slice none 0 0] 26)).alloc (.cells #[.int .i64 tM.pub, .int .i64 tM.seq, .string ⟨tM.key.toArray⟩, .string ⟨tM.body.toArray⟩, .bool tM.again] 35) := ⟨_, rfl⟩
  rw [← hW] at hy hb0 hWs sn1
  have hm : MgsAt W1 (some ⟨w1.heap.size + 1, 0, none⟩) 1 [tM] := by
    refine ⟨Nat.le_refl _, by simp [maxLen], fun _ => ⟨w1.heap.size + 1, 0, rfl, fun i hi r v hv => ?_⟩⟩
    obtain rfl : i = 0 := by simpa using hi
    rw [cell_of_row W1 _ _ _ _ _ hy]
    have : (#[.int .i64 tM.pub, .int .i64 tM.seq, .string ⟨tM.key.toArray⟩, .string ⟨tM.body.toArray⟩, .bool tM.again] : Array Value)[0 + 0 * 5 + r]? = some v := by
      rw [show 0 + 0 * 5 + r = r by omega, ← hv, List.getElem?_toArray]; rfl
    exact this
  have hp := put_any sd1 none 0 none 0 none 0 (some ⟨w1.heap.size + 1, 0, none⟩) 1 [tM] (by decide) W1 sn1 hm (fun e => by cases e)
  rw [t_put1.1, t_put1.2, hW] at hp
  have HM := Lib.hid hm
  have HX_m := Lib.hid hy
  have HB := Lib.hid (HB1.out.trans (hb0.mono HB1.out.size))
  have HW := Lib.hid hW
  have HP := Lib.hid hp
  clear hy hb0 hWs sn1 sn hW hm hp HB1
  refine HP.out.mono ?_
  rintro e w2 ⟨ra2, rc2, ha2, hc2, ma2, mc2, rfl, ho, hsm, hb⟩
  rw [← HW.out] at hb ho
  have hs := ho.sd ra2 rc2 ha2 hc2 ma2 mc2 hsm
  obtain ⟨hn0, hbn, hWs⟩ := one_box (w := w2) (.cells #[.bool tA.fr, .int .i64 tA.nx, .slice ra2 tA.rd.length rc2, .slice ha2 tA.hd.length hc2, .slice ma2 tA.ms.length mc2] 26)
  obtain ⟨W2, hW⟩ : ∃ W, W = (w2.alloc (.cells #[.bool tA.fr, .int .i64 tA.nx, .slice ra2 tA.rd.length rc2, .slice ha2 tA.hd.length hc2, .slice ma2 tA.ms.length mc2] 26)) := ⟨_, rfl⟩
  rw [← hW] at hbn hWs hn0
  have hbb : Below W1.heap.size W1 W2 := hb.trans (hbn.mono hb.size)
  have hs' := hs.below ra2 rc2 ha2 hc2 ma2 mc2 hbn
  have hx_m := box_bl HX_m.out hbb
  have hm := HM.out.below hbb
  have hB := HB.out.trans (hbb.mono HB.out.size)
  clear HX_m HM HB HW HP
  have HX_m := Lib.hid hx_m
  have HM := Lib.hid hm
  have HB := Lib.hid hB
  have HS_a := Lib.hid hs'
  have HX_a := Lib.hid hn0
  have hp := put_any tA ra2 rc2 ha2 hc2 ma2 mc2 (some ⟨w1.heap.size + 1, 0, none⟩) 1 [tM] (by decide) W2 HS_a.out HM.out (fun e => by cases e)
  rw [t_put2.1, t_put2.2, hW] at hp
  have HP := Lib.hid hp
  clear hp
  have HW := Lib.hid hW
  clear hx_m hm hB hs hs' hbb hbn hWs hW ho hsm hb hn0
  go_wp2_with fail
  refine HP.out.mono ?_
  rintro e w3 ⟨ra3, rc3, ha3, hc3, ma3, mc3, rfl, ho, hsm, hb⟩
  rw [← HW.out] at hb ho
  have hs := ho.sd ra3 rc3 ha3 hc3 ma3 mc3 hsm
  obtain ⟨⟨c0, c1, c2, c3, c4⟩, -⟩ := box5 (box_bl HX_a.out hb)
  obtain ⟨g0, g1, g2⟩ := box_lt (box_bl HX_a.out hb)
  obtain ⟨hn0, hbn, hWs⟩ := one_box (w := w3) (.cells #[.bool tA.fr, .int .i64 tA.nx, .slice ra3 tA.rd.length rc3, .slice ha3 tA.hd.length hc3, .slice ma3 tA.ms.length mc3] 26)
  obtain ⟨W3, hW⟩ : ∃ W, W = (w3.alloc (.cells #[.bool tA.fr, .int .i64 tA.nx, .slice ra3 tA.rd.length rc3, .slice ha3 tA.hd.length hc3, .slice ma3 tA.ms.length mc3] 26)) := ⟨_, rfl⟩
  rw [← hW] at hbn hWs hn0
  have hbb : Below W2.heap.size W2 W3 := hb.trans (hbn.mono hb.size)
  have hs' := hs.below ra3 rc3 ha3 hc3 ma3 mc3 hbn
  have hx_m := box_bl HX_m.out hbb
  have hx_a := box_bl HX_a.out hbb
  have hs_a := HS_a.out.below ra2 rc2 ha2 hc2 ma2 mc2 hbb
  have hm := HM.out.below hbb
  have hB := HB.out.trans (hbb.mono HB.out.size)
  clear HX_m HX_a HS_a HM HB HW HP
  have HX_m := Lib.hid hx_m
  have HX_a := Lib.hid hx_a
  have HS_a := Lib.hid hs_a
  have HM := Lib.hid hm
  have HB := Lib.hid hB
  have HS_x := Lib.hid hs'
  have hp := get_any tA ra2 rc2 ha2 hc2 ma2 mc2 W3 HS_a.out
  unfold GetR at hp
  rw [t_get1.1, t_get1.2.1, t_get1.2.2, hW] at hp
  have HP := Lib.hid hp
  clear hp
  have HW := Lib.hid hW
  clear hx_m hx_a hs_a hm hB hs hs' hbb hbn hWs hW ho hsm hb hn0
  go_wp2_with fail
  clear c0 c1 c2 c3 c4 g0 g1 g2
  clear HX_a
  clear HS_a
  clear HS_x
  refine HP.out.mono ?_
  rintro e w4 ⟨ra4, rc4, ha4, hc4, ma4, mc4, rfl, ho, hsm, hb⟩
  rw [← HW.out] at hb ho
  have hs := ho.sd ra4 rc4 ha4 hc4 ma4 mc4 hsm
  obtain ⟨hn0, hn1, hbn, hWs⟩ := two_box (w := w4) (.cells #[.bool tB.fr, .int .i64 tB.nx, .slice ra4 tB.rd.length rc4, .slice ha4 tB.hd.length hc4, .slice ma4 tB.ms.length mc4] 26) (.cells #[.int .i64 tH.tag, .int .i64 tH.m.pub, .int .i64 tH.m.seq, .string ⟨tH.m.key.toArray⟩, .string ⟨tH.m.body.toArray⟩, .bool tH.m.again] 37)
  obtain ⟨W4, hW⟩ : ∃ W, W = ((w4.alloc (.cells #[.bool tB.fr, .int .i64 tB.nx, .slice ra4 tB.rd.length rc4, .slice ha4 tB.hd.length hc4, .slice ma4 tB.ms.length mc4] 26)).alloc (.cells #[.int .i64 tH.tag, .int .i64 tH.m.pub, .int .i64 tH.m.seq, .string ⟨tH.m.key.toArray⟩, .string ⟨tH.m.body.toArray⟩, .bool tH.m.again] 37)) := ⟨_, rfl⟩
  rw [← hW] at hbn hWs hn0 hn1
  have hbb : Below W3.heap.size W3 W4 := hb.trans (hbn.mono hb.size)
  have hs' := hs.below ra4 rc4 ha4 hc4 ma4 mc4 hbn
  have hx_m := box_bl HX_m.out hbb
  have hm := HM.out.below hbb
  have hB := HB.out.trans (hbb.mono HB.out.size)
  clear HX_m HM HB HW HP
  have HX_m := Lib.hid hx_m
  have HM := Lib.hid hm
  have HB := Lib.hid hB
  have HS_b := Lib.hid hs'
  have HX_b := Lib.hid hn0
  have HX_h := Lib.hid hn1
  have hp := get_any tB ra4 rc4 ha4 hc4 ma4 mc4 W4 HS_b.out
  unfold GetR at hp
  rw [t_get2.1, t_get2.2.1, t_get2.2.2, hW] at hp
  have HP := Lib.hid hp
  clear hp
  have HW := Lib.hid hW
  clear hx_m hm hB hs hs' hbb hbn hWs hW ho hsm hb hn0 hn1
  go_wp2_with fail
  refine HP.out.mono ?_
  rintro e w5 ⟨ra5, rc5, ha5, hc5, ma5, mc5, rfl, ho, hsm, hb⟩
  rw [← HW.out] at hb ho
  have hs := ho.sd ra5 rc5 ha5 hc5 ma5 mc5 hsm
  obtain ⟨⟨c0, c1, c2, c3, c4⟩, -⟩ := box5 (box_bl HX_b.out hb)
  obtain ⟨g0, g1, g2⟩ := box_lt (box_bl HX_b.out hb)
  obtain ⟨hn0, hn1, hbn, hWs⟩ := two_box (w := w5) (.cells #[.bool tB.fr, .int .i64 tB.nx, .slice ra5 tB.rd.length rc5, .slice ha5 tB.hd.length hc5, .slice ma5 tB.ms.length mc5] 26) (.cells #[.int .i64 hd0.tag, .int .i64 hd0.m.pub, .int .i64 hd0.m.seq, .string ⟨hd0.m.key.toArray⟩, .string ⟨hd0.m.body.toArray⟩, .bool hd0.m.again] 37)
  obtain ⟨W5, hW⟩ : ∃ W, W = ((w5.alloc (.cells #[.bool tB.fr, .int .i64 tB.nx, .slice ra5 tB.rd.length rc5, .slice ha5 tB.hd.length hc5, .slice ma5 tB.ms.length mc5] 26)).alloc (.cells #[.int .i64 hd0.tag, .int .i64 hd0.m.pub, .int .i64 hd0.m.seq, .string ⟨hd0.m.key.toArray⟩, .string ⟨hd0.m.body.toArray⟩, .bool hd0.m.again] 37)) := ⟨_, rfl⟩
  rw [← hW] at hbn hWs hn0 hn1
  have hbb : Below W4.heap.size W4 W5 := hb.trans (hbn.mono hb.size)
  have hs' := hs.below ra5 rc5 ha5 hc5 ma5 mc5 hbn
  have hx_m := box_bl HX_m.out hbb
  have hx_b := box_bl HX_b.out hbb
  have hx_h := box_bl HX_h.out hbb
  have hs_b := HS_b.out.below ra4 rc4 ha4 hc4 ma4 mc4 hbb
  have hm := HM.out.below hbb
  have hB := HB.out.trans (hbb.mono HB.out.size)
  clear HX_m HX_b HX_h HS_b HM HB HW HP
  have HX_m := Lib.hid hx_m
  have HX_b := Lib.hid hx_b
  have HX_h := Lib.hid hx_h
  have HS_b := Lib.hid hs_b
  have HM := Lib.hid hm
  have HB := Lib.hid hB
  have HS_x := Lib.hid hs'
  have hp := nack_any tB 1 ra4 rc4 ha4 hc4 ma4 mc4 W5 HS_b.out
  rw [t_nack.1, t_nack.2, hW] at hp
  have HP := Lib.hid hp
  clear hp
  have HW := Lib.hid hW
  clear hx_m hx_b hx_h hs_b hm hB hs hs' hbb hbn hWs hW ho hsm hb hn0 hn1
  go_wp2_with fail
  clear c0 c1 c2 c3 c4 g0 g1 g2
  clear HX_b
  clear HS_b
  clear HS_x
  refine HP.out.mono ?_
  rintro e w6 ⟨ra6, rc6, ha6, hc6, ma6, mc6, rfl, ho, hsm, hb⟩
  rw [← HW.out] at hb ho
  have hs := ho.sd ra6 rc6 ha6 hc6 ma6 mc6 hsm
  obtain ⟨hn0, hbn, hWs⟩ := one_box (w := w6) (.cells #[.bool tC.fr, .int .i64 tC.nx, .slice ra6 tC.rd.length rc6, .slice ha6 tC.hd.length hc6, .slice ma6 tC.ms.length mc6] 26)
  obtain ⟨W6, hW⟩ : ∃ W, W = (w6.alloc (.cells #[.bool tC.fr, .int .i64 tC.nx, .slice ra6 tC.rd.length rc6, .slice ha6 tC.hd.length hc6, .slice ma6 tC.ms.length mc6] 26)) := ⟨_, rfl⟩
  rw [← hW] at hbn hWs hn0
  have hbb : Below W5.heap.size W5 W6 := hb.trans (hbn.mono hb.size)
  have hs' := hs.below ra6 rc6 ha6 hc6 ma6 mc6 hbn
  have hx_m := box_bl HX_m.out hbb
  have hx_h := box_bl HX_h.out hbb
  have hm := HM.out.below hbb
  have hB := HB.out.trans (hbb.mono HB.out.size)
  clear HX_m HX_h HM HB HW HP
  have HX_m := Lib.hid hx_m
  have HX_h := Lib.hid hx_h
  have HM := Lib.hid hm
  have HB := Lib.hid hB
  have HS_c := Lib.hid hs'
  have hp := get_any tC ra6 rc6 ha6 hc6 ma6 mc6 W6 HS_c.out
  unfold GetR at hp
  rw [t_get3.1, t_get3.2.1, t_get3.2.2, hW] at hp
  have HP := Lib.hid hp
  clear hp
  have HW := Lib.hid hW
  clear hx_m hx_h hm hB hs hs' hbb hbn hWs hW ho hsm hb hn0
  go_wp2_with fail
  clear HS_c
  refine HP.out.mono ?_
  rintro e w7 ⟨ra7, rc7, ha7, hc7, ma7, mc7, rfl, ho, hsm, hb⟩
  rw [← HW.out] at hb ho
  have hs := ho.sd ra7 rc7 ha7 hc7 ma7 mc7 hsm
  obtain ⟨hn0, hn1, hbn, hWs⟩ := two_box (w := w7) (.cells #[.bool tD.fr, .int .i64 tD.nx, .slice ra7 tD.rd.length rc7, .slice ha7 tD.hd.length hc7, .slice ma7 tD.ms.length mc7] 26) (.cells #[.int .i64 tJ.tag, .int .i64 tJ.m.pub, .int .i64 tJ.m.seq, .string ⟨tJ.m.key.toArray⟩, .string ⟨tJ.m.body.toArray⟩, .bool tJ.m.again] 37)
  obtain ⟨W7, hW⟩ : ∃ W, W = ((w7.alloc (.cells #[.bool tD.fr, .int .i64 tD.nx, .slice ra7 tD.rd.length rc7, .slice ha7 tD.hd.length hc7, .slice ma7 tD.ms.length mc7] 26)).alloc (.cells #[.int .i64 tJ.tag, .int .i64 tJ.m.pub, .int .i64 tJ.m.seq, .string ⟨tJ.m.key.toArray⟩, .string ⟨tJ.m.body.toArray⟩, .bool tJ.m.again] 37)) := ⟨_, rfl⟩
  rw [← hW] at hbn hWs hn0 hn1
  have hbb : Below W6.heap.size W6 W7 := hb.trans (hbn.mono hb.size)
  have hs' := hs.below ra7 rc7 ha7 hc7 ma7 mc7 hbn
  have hx_m := box_bl HX_m.out hbb
  have hx_h := box_bl HX_h.out hbb
  have hm := HM.out.below hbb
  have hB := HB.out.trans (hbb.mono HB.out.size)
  clear HX_m HX_h HM HB HW HP
  have HX_m := Lib.hid hx_m
  have HX_h := Lib.hid hx_h
  have HM := Lib.hid hm
  have HB := Lib.hid hB
  have HS_d := Lib.hid hs'
  have HX_d := Lib.hid hn0
  have HX_k := Lib.hid hn1
  have hp := ack_any tD 2 ra7 rc7 ha7 hc7 ma7 mc7 W7 HS_d.out
  rw [t_ack1.1, t_ack1.2, hW] at hp
  have HP := Lib.hid hp
  clear hp
  have HW := Lib.hid hW
  clear hx_m hx_h hm hB hs hs' hbb hbn hWs hW ho hsm hb hn0 hn1
  go_wp2_with fail
  refine HP.out.mono ?_
  rintro e w8 ⟨ra8, rc8, ha8, hc8, ma8, mc8, rfl, ho, hsm, hb⟩
  rw [← HW.out] at hb ho
  have hs := ho.sd ra8 rc8 ha8 hc8 ma8 mc8 hsm
  obtain ⟨⟨c0, c1, c2, c3, c4⟩, -⟩ := box5 (box_bl HX_d.out hb)
  obtain ⟨g0, g1, g2⟩ := box_lt (box_bl HX_d.out hb)
  obtain ⟨hn0, hbn, hWs⟩ := one_box (w := w8) (.cells #[.bool tZ.fr, .int .i64 tZ.nx, .slice ra8 tZ.rd.length rc8, .slice ha8 tZ.hd.length hc8, .slice ma8 tZ.ms.length mc8] 26)
  obtain ⟨W8, hW⟩ : ∃ W, W = (w8.alloc (.cells #[.bool tZ.fr, .int .i64 tZ.nx, .slice ra8 tZ.rd.length rc8, .slice ha8 tZ.hd.length hc8, .slice ma8 tZ.ms.length mc8] 26)) := ⟨_, rfl⟩
  rw [← hW] at hbn hWs hn0
  have hbb : Below W7.heap.size W7 W8 := hb.trans (hbn.mono hb.size)
  have hs' := hs.below ra8 rc8 ha8 hc8 ma8 mc8 hbn
  have hx_m := box_bl HX_m.out hbb
  have hx_h := box_bl HX_h.out hbb
  have hx_d := box_bl HX_d.out hbb
  have hx_k := box_bl HX_k.out hbb
  have hs_d := HS_d.out.below ra7 rc7 ha7 hc7 ma7 mc7 hbb
  have hm := HM.out.below hbb
  have hB := HB.out.trans (hbb.mono HB.out.size)
  clear HX_m HX_h HX_d HX_k HS_d HM HB HW HP
  have HX_m := Lib.hid hx_m
  have HX_h := Lib.hid hx_h
  have HX_d := Lib.hid hx_d
  have HX_k := Lib.hid hx_k
  have HS_d := Lib.hid hs_d
  have HM := Lib.hid hm
  have HB := Lib.hid hB
  have HS_z := Lib.hid hs'
  have HX_z := Lib.hid hn0
  have hp := ack_any tD 1 ra7 rc7 ha7 hc7 ma7 mc7 W8 HS_d.out
  rw [t_ack2.1, t_ack2.2, hW] at hp
  have HP := Lib.hid hp
  clear hp
  have HW := Lib.hid hW
  clear hx_m hx_h hx_d hx_k hs_d hm hB hs hs' hbb hbn hWs hW ho hsm hb hn0
  go_wp2_with fail
  clear c0 c1 c2 c3 c4 g0 g1 g2
  clear HX_d
  clear HS_d
  refine HP.out.mono ?_
  rintro e w9 ⟨ra9, rc9, ha9, hc9, ma9, mc9, rfl, ho, hsm, hb⟩
  rw [← HW.out] at hb ho
  have hs := ho.sd ra9 rc9 ha9 hc9 ma9 mc9 hsm
  obtain ⟨hn0, hbn, hWs⟩ := one_box (w := w9) (.cells #[.bool tD.fr, .int .i64 tD.nx, .slice ra9 tD.rd.length rc9, .slice ha9 tD.hd.length hc9, .slice ma9 tD.ms.length mc9] 26)
  obtain ⟨W9, hW⟩ : ∃ W, W = (w9.alloc (.cells #[.bool tD.fr, .int .i64 tD.nx, .slice ra9 tD.rd.length rc9, .slice ha9 tD.hd.length hc9, .slice ma9 tD.ms.length mc9] 26)) := ⟨_, rfl⟩
  rw [← hW] at hbn hWs hn0
  have hbb : Below W8.heap.size W8 W9 := hb.trans (hbn.mono hb.size)
  have hs' := hs.below ra9 rc9 ha9 hc9 ma9 mc9 hbn
  have hx_m := box_bl HX_m.out hbb
  have hx_h := box_bl HX_h.out hbb
  have hx_k := box_bl HX_k.out hbb
  have hx_z := box_bl HX_z.out hbb
  have hs_z := HS_z.out.below ra8 rc8 ha8 hc8 ma8 mc8 hbb
  have hm := HM.out.below hbb
  have hB := HB.out.trans (hbb.mono HB.out.size)
  clear HX_m HX_h HX_k HX_z HS_z HM HB HW HP
  have HX_m := Lib.hid hx_m
  have HX_h := Lib.hid hx_h
  have HX_k := Lib.hid hx_k
  have HX_z := Lib.hid hx_z
  have HS_z := Lib.hid hs_z
  have HM := Lib.hid hm
  have HB := Lib.hid hB
  have HS_x := Lib.hid hs'
  have HW := Lib.hid hW
  clear hx_m hx_h hx_k hx_z hs_z hm hB hs hs' hbb hbn hWs hW ho hsm hb hn0
  go_wp2_with fail
  clear HS_x
  rw [← HW.out]
  have hH0 : tH.tag = 1 := rfl
  have hJ0 : tJ.tag = 2 := rfl
  have hJ1 : tJ.m.again = true := rfl
  have hZ1 : tZ.hd.length = 0 := rfl
  obtain ⟨⟨h0, h1, h2, h3, h4, h5⟩, -⟩ := box6 HX_h.out
  obtain ⟨⟨k0, k1, k2, k3, k4, k5⟩, -⟩ := box6 HX_k.out
  obtain ⟨⟨z0, z1, z2, z3, z4⟩, -⟩ := box5 HX_z.out
  obtain ⟨⟨m0, m1, m2, m3, m4⟩, -⟩ := box5 HX_m.out
  rw [hZ1] at z3
  rw [hH0] at h0
  rw [hJ0] at k0
  rw [hJ1] at k5
  have HLA : Hid (∀ p : Und W9, Calls Try.prog 56 #[.agg #[.bool tZ.fr, .int .i64 tZ.nx, .slice ra8 tZ.rd.length rc8, .slice ha8 0 hc8, .slice ma8 tZ.ms.length mc8], .int .i64 1, .string ⟨#[107]⟩] p.wx fun e w' => e = .returned (.int .i64 3) ∧ Below p.wx.heap.size p.wx w') := Lib.hid fun p => by
    have h := last_any tZ ra8 rc8 ha8 hc8 ma8 mc8 1 [107] p.wx (HS_z.out.below _ _ _ _ _ _ p.hb)
    rw [t_end.1, hZ1] at h
    exact h.mono fun _ _ ⟨e, g⟩ => ⟨e, g.below⟩
  have HMA : Hid (∀ p : Und W9, Calls Try.prog 24 #[.agg #[.bool tZ.fr, .int .i64 tZ.nx, .slice ra8 tZ.rd.length rc8, .slice ha8 0 hc8, .slice ma8 tZ.ms.length mc8]] p.wx fun e w' => e = .returned (.bool true) ∧ Below p.wx.heap.size p.wx w') := Lib.hid fun p => by
    have h := may_any tZ ra8 rc8 ha8 hc8 ma8 mc8 p.wx (HS_z.out.below _ _ _ _ _ _ p.hb)
    rw [decide_eq_true t_end.2.1, hZ1] at h
    exact h
  have HMM : Hid (∀ p : Und W9, Calls Try.prog 62 #[.agg #[.int .i64 tM.pub, .int .i64 tM.seq, .string ⟨tM.key.toArray⟩, .string ⟨tM.body.toArray⟩, .bool tM.again]] p.wx fun e w' => e = .returned (.bool true) ∧ Below p.wx.heap.size p.wx w') := Lib.hid fun p => by
    have h := mayMsg_any tM p.wx
    rw [decide_eq_true t_end.2.2.1] at h
    exact h.mono fun _ _ ⟨e, g⟩ => ⟨e, g.below⟩
  have HMZ : Hid (∀ p : Und W9, Calls Try.prog 62 #[.agg #[.int .i64 0, .int .i64 0, .string ⟨#[]⟩, .string ⟨#[]⟩, .bool false]] p.wx fun e w' => e = .returned (.bool false) ∧ Below p.wx.heap.size p.wx w') := Lib.hid fun p => by
    have h := mayMsg_any mg0 p.wx
    rw [decide_eq_false t_end.2.2.2] at h
    exact h.mono fun _ _ ⟨e, g⟩ => ⟨e, g.below⟩
  have y0 := fun p : Und W9 => cell_und h0 p
  have y1 := fun p : Und W9 => cell_und h1 p
  have y2 := fun p : Und W9 => cell_und h2 p
  have y3 := fun p : Und W9 => cell_und h3 p
  have y4 := fun p : Und W9 => cell_und h4 p
  have y5 := fun p : Und W9 => cell_und h5 p
  have x0 := fun p : Und W9 => cell_und k0 p
  have x5 := fun p : Und W9 => cell_und k5 p
  have v0 := fun p : Und W9 => cell_und z0 p
  have v1 := fun p : Und W9 => cell_und z1 p
  have v2 := fun p : Und W9 => cell_und z2 p
  have v3 := fun p : Und W9 => cell_und z3 p
  have v4 := fun p : Und W9 => cell_und z4 p
  have u0 := fun p : Und W9 => cell_und m0 p
  have u1 := fun p : Und W9 => cell_und m1 p
  have u2 := fun p : Und W9 => cell_und m2 p
  have u3 := fun p : Und W9 => cell_und m3 p
  have u4 := fun p : Und W9 => cell_und m4 p
  have heq := fun wx => mg_eql tH.m tM true (by decide +kernel) wx
  clear h0 h1 h2 h3 h4 h5 k0 k1 k2 k3 k4 k5 z0 z1 z2 z3 z4 m0 m1 m2 m3 m4 hH0 hJ0 hJ1 hZ1 HX_h HX_k HX_z HX_m HM HS_z
  clear HNEW
  generalize (Value.tuple #[.agg #[.bool tA.fr, .int .i64 tA.nx, .slice ra2 tA.rd.length rc2, .slice ha2 tA.hd.length hc2, .slice ma2 tA.ms.length mc2], .int .i64 0]) = qt0
  generalize (Value.tuple #[.agg #[.bool tA.fr, .int .i64 tA.nx, .slice ra3 tA.rd.length rc3, .slice ha3 tA.hd.length hc3, .slice ma3 tA.ms.length mc3], .int .i64 8]) = qt1
  generalize (Value.tuple #[.agg #[.bool tB.fr, .int .i64 tB.nx, .slice ra4 tB.rd.length rc4, .slice ha4 tB.hd.length hc4, .slice ma4 tB.ms.length mc4], .agg #[.int .i64 tH.tag, .int .i64 tH.m.pub, .int .i64 tH.m.seq, .string ⟨tH.m.key.toArray⟩, .string ⟨tH.m.body.toArray⟩, .bool tH.m.again], .int .i64 0]) = qt2
  generalize (Value.tuple #[.agg #[.bool tB.fr, .int .i64 tB.nx, .slice ra5 tB.rd.length rc5, .slice ha5 tB.hd.length hc5, .slice ma5 tB.ms.length mc5], .agg #[.int .i64 hd0.tag, .int .i64 hd0.m.pub, .int .i64 hd0.m.seq, .string ⟨hd0.m.key.toArray⟩, .string ⟨hd0.m.body.toArray⟩, .bool hd0.m.again], .int .i64 3]) = qt3
  generalize (Value.tuple #[.agg #[.bool tC.fr, .int .i64 tC.nx, .slice ra6 tC.rd.length rc6, .slice ha6 tC.hd.length hc6, .slice ma6 tC.ms.length mc6], .int .i64 0]) = qt4
  generalize (Value.tuple #[.agg #[.bool tD.fr, .int .i64 tD.nx, .slice ra7 tD.rd.length rc7, .slice ha7 tD.hd.length hc7, .slice ma7 tD.ms.length mc7], .agg #[.int .i64 tJ.tag, .int .i64 tJ.m.pub, .int .i64 tJ.m.seq, .string ⟨tJ.m.key.toArray⟩, .string ⟨tJ.m.body.toArray⟩, .bool tJ.m.again], .int .i64 0]) = qt5
  generalize (Value.tuple #[.agg #[.bool tZ.fr, .int .i64 tZ.nx, .slice ra8 tZ.rd.length rc8, .slice ha8 tZ.hd.length hc8, .slice ma8 tZ.ms.length mc8], .int .i64 0]) = qt6
  generalize (Value.tuple #[.agg #[.bool tD.fr, .int .i64 tD.nx, .slice ra9 tD.rd.length rc9, .slice ha9 tD.hd.length hc9, .slice ma9 tD.ms.length mc9], .int .i64 3]) = qt7
  generalize (Value.agg #[.bool tA.fr, .int .i64 tA.nx, .slice ra2 tA.rd.length rc2, .slice ha2 tA.hd.length hc2, .slice ma2 tA.ms.length mc2]) = qs0
  generalize (Value.agg #[.bool tA.fr, .int .i64 tA.nx, .slice ra3 tA.rd.length rc3, .slice ha3 tA.hd.length hc3, .slice ma3 tA.ms.length mc3]) = qs1
  generalize (Value.agg #[.bool tB.fr, .int .i64 tB.nx, .slice ra4 tB.rd.length rc4, .slice ha4 tB.hd.length hc4, .slice ma4 tB.ms.length mc4]) = qs2
  generalize (Value.agg #[.bool tB.fr, .int .i64 tB.nx, .slice ra5 tB.rd.length rc5, .slice ha5 tB.hd.length hc5, .slice ma5 tB.ms.length mc5]) = qs3
  generalize (Value.agg #[.bool tC.fr, .int .i64 tC.nx, .slice ra6 tC.rd.length rc6, .slice ha6 tC.hd.length hc6, .slice ma6 tC.ms.length mc6]) = qs4
  generalize (Value.agg #[.bool tD.fr, .int .i64 tD.nx, .slice ra7 tD.rd.length rc7, .slice ha7 tD.hd.length hc7, .slice ma7 tD.ms.length mc7]) = qs5
  generalize (Value.agg #[.bool tZ.fr, .int .i64 tZ.nx, .slice ra8 tZ.rd.length rc8, .slice ha8 tZ.hd.length hc8, .slice ma8 tZ.ms.length mc8]) = qs6
  generalize (Value.agg #[.bool tD.fr, .int .i64 tD.nx, .slice ra9 tD.rd.length rc9, .slice ha9 tD.hd.length hc9, .slice ma9 tD.ms.length mc9]) = qs7
  generalize (Value.agg #[.int .i64 tH.tag, .int .i64 tH.m.pub, .int .i64 tH.m.seq, .string ⟨tH.m.key.toArray⟩, .string ⟨tH.m.body.toArray⟩, .bool tH.m.again]) = qh0
  generalize (Value.agg #[.int .i64 hd0.tag, .int .i64 hd0.m.pub, .int .i64 hd0.m.seq, .string ⟨hd0.m.key.toArray⟩, .string ⟨hd0.m.body.toArray⟩, .bool hd0.m.again]) = qh1
  generalize (Value.agg #[.int .i64 tJ.tag, .int .i64 tJ.m.pub, .int .i64 tJ.m.seq, .string ⟨tJ.m.key.toArray⟩, .string ⟨tJ.m.body.toArray⟩, .bool tJ.m.again]) = qh2
  have mixed : Try.prog.follows .mixedOrders = true := by kernel_rfl
  (refine wp_region_quiet_below (by assumption) (by kernel_rfl) ?_; (try dsimp only [List.append]); (repeat (go_big_quiet_step (first | (go_at_call 56; exact Calls.below_of (HLA.out _)) | (go_at_call 24; exact Calls.below_of (HMA.out _)) | (go_at_call 62; first | with_reducible exact Calls.below_of (HMM.out _) | with_reducible exact Calls.below_of (HMZ.out _))))); refine wpQuiet_nil ?_; intro _ hw'; obtain ⟨wq, hw''⟩ := hw'; subst hw''; have HBQ := Lib.hid wq.hb)
  go_wp2_with fail
  go_ret
  exact ⟨rfl, HB.out.trans (HBQ.out.mono HB.out.size)⟩

end Go.Proofs.Ythohjcfpobeplaa.Sh

namespace Go.Proofs.Ythohjcfpobeplaa.Sh
open Go.RowKit Rg Go.Sort
set_option linter.unusedVariables false
set_option linter.unusedSimpArgs false

theorem load_sd {w : World} {g : Nat} {x y z u v : Value} (h : w.heap[g]? = some (.cells #[x, y, z, u, v] 26 (0, 0))) : (loadVar 26 ⟨g, 0, none⟩).run Try.prog w = .ok (.agg #[x, y, z, u, v]) w := by
  obtain ⟨⟨c0, c1, c2, c3, c4⟩, -⟩ := box5 h
  simp [go_sem, *]
theorem res_sd {fn : Func} {i j : Tmp} {tmps : Array Value} {g : Nat} {c x y z u v : Value} {w : World} (hr : fn.results = #[.cell i 26, .tmp j]) (hi : tmps.getD i undef = .pointer (some ⟨g, 0, none⟩)) (hj : tmps.getD j undef = c)
    (h : w.heap[g]? = some (.cells #[x, y, z, u, v] 26 (0, 0))) : (results fn tmps).run Try.prog w = .ok (.tuple #[.agg #[x, y, z, u, v], c]) w := by
  have hl := load_sd h
  unfold results
  rw [hr]
  rw [Array.getD_eq_getD_getElem?] at hi hj
  obtain ⟨⟨c0, c1, c2, c3, c4⟩, -⟩ := box5 h
  simp [go_sem, hi, hj, *]

end Go.Proofs.Ythohjcfpobeplaa.Sh

namespace Go.Proofs.Ythohjcfpobeplaa.Sh
open Go.RowKit Rg Go.Sort
set_option linter.unusedVariables false
set_option linter.unusedSimpArgs false

theorem u64_rem (p : Int) (k : Nat) (hk : 0 < k) : ∃ q : Nat, (IntKind.u64.wrap p).tmod k = (q : Int) ∧ q < k := by
  have h : 0 ≤ IntKind.u64.wrap p := by rw [IntKind.wrap_u64]; omega
  rw [Int.tmod_eq_emod_of_nonneg h]
  have h1 := Int.emod_nonneg (IntKind.u64.wrap p) (show (k : Int) ≠ 0 by omega)
  have h2 := Int.emod_lt_of_pos (IntKind.u64.wrap p) (show (0 : Int) < (k : Int) by omega)
  exact ⟨((IntKind.u64.wrap p) % k).toNat, by omega, by omega⟩
/-- a shard's box and its rows. -/
structure Bx (w : World) (g : Nat) (ra : Option Addr) (rc : Nat) (ha : Option Addr) (hc : Nat) (ma : Option Addr) (mc : Nat) (s : Sd) : Prop where
  bx : w.heap[g]? = some (.cells #[.bool s.fr, .int .i64 s.nx, .slice ra s.rd.length rc, .slice ha s.hd.length hc, .slice ma s.ms.length mc] 26 (0, 0))
  sd : SdAt w ra rc ha hc ma mc s
theorem Bx.below {w w' : World} {g : Nat} (ra : Option Addr) (rc : Nat) (ha : Option Addr) (hc : Nat) (ma : Option Addr) (mc : Nat) {s : Sd} (h : Bx w g ra rc ha hc ma mc s) (hb : Below w.heap.size w w') : Bx w' g ra rc ha hc ma mc s := ⟨box_bl h.bx hb, h.sd.below _ _ _ _ _ _ hb⟩
theorem sd_nil (w : World) : SdAt w none 0 none 0 none 0 sd1 := ⟨RowsAt.nil _ _ _ _ _ (by simp [maxLen]), RowsAt.nil _ _ _ _ _ (by simp [maxLen]), RowsAt.nil _ _ _ _ _ (by simp [maxLen]), fun _ => rfl, fun _ => rfl, fun _ => rfl, by decide⟩
theorem mgs_one {w : World} {g : Nat} {m : Mg} (h : w.heap[g]? = some (.cells #[.int .i64 m.pub, .int .i64 m.seq, .string ⟨m.key.toArray⟩, .string ⟨m.body.toArray⟩, .bool m.again] 35 (0, 0))) : MgsAt w (some ⟨g, 0, none⟩) 1 [m] := by
  refine ⟨Nat.le_refl _, by simp [maxLen], fun _ => ⟨g, 0, rfl, fun i hi r v hv => ?_⟩⟩
  obtain rfl : i = 0 := by simpa using hi
  rw [cell_of_row w _ _ _ _ _ h]
  have : (#[.int .i64 m.pub, .int .i64 m.seq, .string ⟨m.key.toArray⟩, .string ⟨m.body.toArray⟩, .bool m.again] : Array Value)[0 + 0 * 5 + r]? = some v := by
    rw [show 0 + 0 * 5 + r = r by omega, ← hv, List.getElem?_toArray]; rfl
  exact this
theorem bx_store {w w2 : World} {B B2 g : Nat} (ra : Option Addr) (rc : Nat) (ha : Option Addr) (hc : Nat) (ma : Option Addr) (mc : Nat) {s' : Sd} {x y z u v : Value} (hb : Below B w w2) (hg : B ≤ g) (hg2 : g < B2) (ho : OwnS w2 B2 s' (.slice ra s'.rd.length rc) (.slice ha s'.hd.length hc) (.slice ma s'.ms.length mc)) (hsm : s'.rd.length ≤ 1000 ∧ s'.hd.length ≤ 1000 ∧ s'.ms.length ≤ 1000)
    (hx : w2.heap[g]? = some (.cells #[x, y, z, u, v] 26 (0, 0))) : Below B w (set5 w2 g (.bool s'.fr) (.int .i64 s'.nx) (.slice ra s'.rd.length rc) (.slice ha s'.hd.length hc) (.slice ma s'.ms.length mc)) ∧
    Bx (set5 w2 g (.bool s'.fr) (.int .i64 s'.nx) (.slice ra s'.rd.length rc) (.slice ha s'.hd.length hc) (.slice ma s'.ms.length mc)) g ra rc ha hc ma mc s' :=
  ⟨set5_below hb hg _ _ _ _ _, set5_box hx _ _ _ _ _, (ho.kept fun b h => set5_heap _ _ _ _ _ _ _ _ (by omega)).sd _ _ _ _ _ _ hsm⟩
theorem bx_alloc {w w2 : World} {B g : Nat} (ra : Option Addr) (rc : Nat) (ha : Option Addr) (hc : Nat) (ma : Option Addr) (mc : Nat) {s' : Sd} (o : Obj) (h : Below B w w2 ∧ Bx w2 g ra rc ha hc ma mc s') (hB : B ≤ w2.heap.size) : Below B w (w2.alloc o) ∧ Bx (w2.alloc o) g ra rc ha hc ma mc s' :=
  ⟨h.1.alloc hB o, h.2.below _ _ _ _ _ _ ((Below.refl _ _).alloc (Nat.le_refl _) _)⟩
theorem two_boxd {w : World} (o1 o2 : Obj) : ((w.alloc o1).drew.alloc o2).heap[w.heap.size + 1]? = some o2 ∧ Below w.heap.size w ((w.alloc o1).drew.alloc o2) ∧ ((w.alloc o1).drew.alloc o2).heap.size = w.heap.size + 2 := by
  obtain ⟨-, h2, -, h4⟩ := two_box (w := w) o1 o2
  exact ⟨h2, (((Below.refl _ _).alloc (Nat.le_refl _) _).drew).alloc (by show w.heap.size ≤ (w.alloc o1).heap.size; simp) _, h4⟩
end Go.Proofs.Ythohjcfpobeplaa.Sh
