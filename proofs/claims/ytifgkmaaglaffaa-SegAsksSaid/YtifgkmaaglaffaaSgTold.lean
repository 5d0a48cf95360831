/-
  carrefourlaw11.told, walked.
-/
import Derived.Test.YtifgkmaaglaffaaSgCrash
import Derived.Test.YtifgkmaaglaffaaSgSync
import Derived.Lib.SmallJoins
namespace Go.Proofs.Ytifgkmaaglaffaa.Sg
open Go.RowKit
set_option linter.unusedVariables false
variable {B C : Nat}

theorem below_alloc (w : World) (b : Obj) : Below w.heap.size w (w.alloc b) := (Below.refl _ _).alloc (Nat.le_refl _) _
theorem lit_bytes (w : World) (l : List UInt8) (fr : Nat × Nat) : BytesAt (w.heap.size + 1) (w.alloc (.cells (cellsOf l).toArray 5 fr)) (some ⟨w.heap.size, 0, none⟩) l := by
  intro h0
  refine ⟨_, 0, rfl, Nat.lt_succ_self _, fun i hi => ?_⟩
  rw [Nat.zero_add, cell_of_row _ _ _ _ _ _ (heap_alloc_new w _)]
  simp [cellsOf, List.getElem?_eq_getElem hi]
/-- []byte(".."): the literal's block is marked. -/
theorem conv_lit (w : World) (l : List UInt8) (n : Nat) : ∃ W1, (convert 22 22 (.slice (some ⟨w.heap.size, 0, none⟩) n n)).run Try.prog (w.alloc (.cells (cellsOf l).toArray 5)) = .ok (.slice (some ⟨w.heap.size, 0, none⟩) n n) W1 ∧
    Below w.heap.size w W1 ∧ BytesAt (w.heap.size + 1) W1 (some ⟨w.heap.size, 0, none⟩) l ∧ W1.heap.size = w.heap.size + 1 :=
  ⟨_, Joins.run_convert_bytes_const_at (P := Try.prog) w 22 5 _ n n w.heap.size rfl Try.underlying22 Try.underlying5, below_alloc _ _, lit_bytes w l _, by simp⟩

def rAB : List UInt8 := recF [97, 98]
def rC : List UInt8 := recF [99]
theorem told_pure : recC [97, 98] = 0 ∧ recL [97, 98] = rAB ∧ rAB.length = 8 ∧ recC [] = 1 ∧ recL [] = [] ∧ rdL (rAB ++ [0]) = [[97, 98]] ∧ rdN (rAB ++ [0]) = 8 ∧ rdL rAB = [[97, 98]] ∧ catR [[97, 98]] = rAB ∧ recC [99] = 0 ∧ recL [99] = rC ∧ rC.length = 7 ∧ sumF [] = 1 := by
  have h1 : MayL ([97, 98] : List UInt8).length := ⟨by decide, by decide⟩
  have h2 : MayL ([99] : List UInt8).length := ⟨by decide, by decide⟩
  have h3 : ¬ MayL ([] : List UInt8).length := fun h => by have := h.1; simp at this
  have e1 : rdL (rAB ++ [0]) = [[97, 98]] := by unfold rAB; rw [rd_rec h1, rdL_nil (first_nil_of (by simp))]
  have e2 : rdL rAB = [[97, 98]] := by
    have := rd_rec h1 []
    rw [List.append_nil, rdL_nil first_nil] at this
    exact this
  have e3 : catR [[97, 98]] = rAB := catR_one _
  refine ⟨if_pos h1, if_pos h1, by simp [rAB], if_neg h3, if_neg h3, e1, ?_, e2, e3, if_pos h2, if_pos h2, by simp [rC], rfl⟩
  unfold rdN
  rw [e1, e3]
  simp [rAB]

set_option maxRecDepth 100000 in
set_option maxHeartbeats 4000000 in
theorem told_any (w : World) :
    Calls Try.prog 10 #[] w fun e w' => e = .returned (.bool true) ∧ Below w.heap.size w w' := by
  obtain ⟨p1, p2, p3, p4, p5, p6, p7, p8, p9, p10, p11, p12, p13⟩ := told_pure
  obtain ⟨W1, hcv1, hb1, ha1, -⟩ := conv_lit w [97, 98] 2
  rw [show (cellsOf [97, 98]).toArray = #[.int .u8 97, .int .u8 98] from rfl] at hcv1
  have HR1 := Lib.hid (record_any (some ⟨w.heap.size, 0, none⟩) 2 [97, 98] (by decide) (by decide) W1 ha1)
  have HR2 := Lib.hid fun wx => record_any (B := 0) none 0 [] (Nat.le_refl _) (by decide) wx (fun h => by simp at h)
  unfold RecR at HR1 HR2
  rw [p1, p2] at HR1
  rw [p4, p5] at HR2
  have HSUM := Lib.hid fun wx => sum_any (B := 0) none 0 [] (Nat.le_refl _) (by decide) wx (fun h => by simp at h)
  rw [p13] at HSUM
  have HP3 := Lib.hid p3
  have HP12 := Lib.hid p12
  have HPP := Lib.hid (And.intro p6 (And.intro p7 (And.intro p8 (And.intro p9 (And.intro p10 p11)))))
  have HB1 := Lib.hid hb1
  clear p1 p2 p3 p4 p5 p6 p7 p8 p9 p10 p11 p12 p13 hb1 ha1
  go_enter Try.func10, Try.ntmps10
  go_wp2_with fail
  refine HR1.out.mono ?_
  rintro e w2 ⟨v2, rfl, hbf2, hb2⟩
  obtain ⟨g2, k2, rfl, -, hbb2⟩ := hbf2.bytes1 (by rw [HP3.out]; decide)
  rw [HP3.out]
  have HF2 := Lib.hid hbb2
  have hk2 := hbb2.len
  have hm2 := hbb2.max
  rw [HP3.out] at hk2
  have hm3 : k2 ≤ 9223372036854775807 := by unfold maxLen at hm2; omega
  have HB2 := Lib.hid (HB1.out.trans (hb2.mono HB1.out.size))
  have HM2 := Lib.hid hm2
  clear hbf2 hb2 hbb2 hm2
  go_wp2_with fail
  refine (HR2.out w2).mono ?_
  rintro e w3 ⟨v3, rfl, -, hb3⟩
  have HF3 := Lib.hid (HF2.out.below hb3)
  have HB3 := Lib.hid (HB2.out.trans (hb3.mono HB2.out.size))
  clear hb3
  have hz8 : 0 < rAB.length := by rw [HP3.out]; decide
  have hz9 : rAB.length ≤ 100000 := by rw [HP3.out]; decide
  have hz10 : rAB.length ≤ 1000000 := by rw [HP3.out]; decide
  have HZ := Lib.hid (And.intro hz8 (And.intro hz9 hz10))
  have HN8 := Lib.hid HP3.out.symm
  clear hz8 hz9 hz10
  go_wp2_with (at_builtin; first
    | (refine put_dup (w := w3) (l := rAB) rfl (.tmp 25) (.tmp 26) rfl HZ.out.1 HZ.out.2.1 HF3.out rfl rfl HN8.out rfl ?_; intro g4 k4 w4 hg4 hbuf4 hb4; have HF4 := Lib.hid hbuf4; have HB4 := Lib.hid hb4; clear hg4 hbuf4 hb4)
    | (refine put_one (w := w4) rfl (.tmp 27) (.tmp 28) rfl HF4.out HB4.out.size HZ.out.2.2 0 rfl rfl _ rfl rfl ?_; intro v5 w5 hbuf5 hon5; have HB5 := Lib.hid (HB4.out.trans (hon5.below HF4.out HB4.out.size)); have HF5 := Lib.hid hbuf5; clear hbuf5 hon5))
  obtain ⟨a5, k5, rfl, hl5, hm5, hn5, hat5⟩ := Buf.form3 HF5.out
  have HRD := Lib.hid (read_any (B := w5.heap.size) a5 k5 (rAB ++ [0]) hl5 hm5 hn5 w5 hat5 (by simp [HP3.out]) (Nat.le_refl _))
  unfold ReadR at HRD
  rw [HPP.out.1, HPP.out.2.1] at HRD
  clear hl5 hm5 hn5 hat5 HF5
  refine HRD.out.mono ?_
  rintro e w6 ⟨la, lc, rfl, -, hb6⟩
  have HF6 := Lib.hid ((HF3.out.below HB5.out).below hb6)
  have HB6 := Lib.hid (HB3.out.trans ((HB5.out.trans (hb6.mono HB5.out.size)).mono HB3.out.size))
  have HOP := Lib.hid (open_any (B := w6.heap.size) (some ⟨g2, 0, none⟩) k2 rAB (by rw [HP3.out]; exact hk2) HM2.out (fun h => by cases h) w6 HF6.out.at (by rw [HP3.out]; decide) (Nat.le_refl _))
  unfold OpenR at HOP
  rw [HPP.out.2.2.1, HPP.out.2.2.2.1, HP3.out] at HOP
  clear hb6
  go_wp2_with fail
  refine HOP.out.mono ?_
  rintro e w7 ⟨g, xa, xc, vs, D, rfl, hbb7, hlog7, hD7, hb7⟩
  have HBB7 := Lib.hid hbb7
  have HLOG7 := Lib.hid hlog7
  have HB7 := Lib.hid (HB6.out.trans (hb7.mono HB6.out.size))
  have HD7 := Lib.hid (Nat.le_trans HB6.out.size hD7)
  obtain ⟨W8, hcv8, hb8, ha8, -⟩ := conv_lit w7 [99] 1
  rw [show (cellsOf [99]).toArray = #[.int .u8 99] from rfl] at hcv8
  have hDw : D ≤ w7.heap.size := Nat.le_trans hlog7.ge (Nat.le_of_lt hlog7.lt)
  have hs8 : Side D w7 W8 := Side.of_below hb8 hDw
  have HS8 := Lib.hid hs8
  have HPU := Lib.hid (put_any (some ⟨w7.heap.size, 0, none⟩) 1 [99] (by decide) (by decide) W8 ha8 (hlog7.below hb8) (by decide))
  unfold PutR at HPU
  rw [HPP.out.2.2.2.2.1, HPP.out.2.2.2.2.2, List.nil_append] at HPU
  clear hbb7 hlog7 hD7 hb7 hb8 ha8 hDw hs8
  go_wp2_with fail
  refine HPU.out.mono ?_
  rintro e w9 ⟨vw, rfl, hlog9, hs9⟩
  have HLOG9 := Lib.hid hlog9
  have HS9 := Lib.hid (HS8.out.trans hs9)
  have HWA := Lib.hid (waits_any w9 hlog9)
  rw [HP12.out] at HWA
  have HCR := Lib.hid fun wx keep (h : LogAt D wx g vs vw rAB rC false) => crash_any keep wx h (by rw [HP3.out, HP12.out]; decide)
  clear hlog9 hs9 hcv8
  go_wp2_with fail
  refine HWA.out.mono ?_
  rintro e wx ⟨rfl, rfl⟩
  go_wp2_with fail
  refine (HCR.out w9 3 HLOG9.out).mono ?_
  rintro e w10 ⟨v10, rfl, hbf10, hb10⟩
  obtain ⟨a10, k10, hv10, -⟩ := hbf10.form
  have hl10 : (crF rAB rC false 3).length = 11 := by rw [crF_length, HP3.out, HP12.out]; decide
  rw [hl10] at hv10
  subst hv10
  have HLOG10 := Lib.hid (HLOG9.out.below hb10)
  have HS10 := Lib.hid (HS9.out.trans (Side.of_below hb10 (Nat.le_trans HLOG9.out.ge (Nat.le_of_lt HLOG9.out.lt))))
  clear hbf10 hb10 hl10
  go_wp2_with fail
  refine (HCR.out w10 99 HLOG10.out).mono ?_
  rintro e w11 ⟨v11, rfl, hbf11, hb11⟩
  obtain ⟨a11, k11, hv11, -⟩ := hbf11.form
  have hl11 : (crF rAB rC false 99).length = 15 := by rw [crF_length, HP3.out, HP12.out]; decide
  rw [hl11] at hv11
  subst hv11
  have HLOG11 := Lib.hid (HLOG10.out.below hb11)
  have HS11 := Lib.hid (HS10.out.trans (Side.of_below hb11 (Nat.le_trans HLOG10.out.ge (Nat.le_of_lt HLOG10.out.lt))))
  have HSY := Lib.hid (sync_any w11 HLOG11.out (by rw [HP3.out, HP12.out]; decide))
  unfold SyncR at HSY
  have hsy : synF rAB rC false = rAB ++ rC := rfl
  rw [hsy] at HSY
  clear hbf11 hb11 hl11 hsy
  go_wp2_with fail
  refine HSY.out.mono ?_
  rintro e w12 ⟨vs2, rfl, hlog12, hs12⟩
  have HLOG12 := Lib.hid hlog12
  have hs := HS11.out.trans hs12
  obtain ⟨xb, xo, da, dc, rfl, -, x0, hdl, hdm, hdat⟩ := (HBB7.out.under hs.bel).get 0 (by decide)
  have hcvx := conv_str dc hdat
  simp only [List.getElem_cons_zero, List.length_cons, List.length_nil, Nat.zero_add, Nat.add_zero] at x0 hcvx hdl
  have hxc : 1 ≤ xc := HBB7.out.len
  have hxm := HBB7.out.max
  unfold maxLen at hxm
  have HBY := Lib.hid (bytes_any w12 hlog12 (by rw [List.length_append, HP3.out, HP12.out]; decide))
  have HBW := Lib.hid (HB7.out.trans (hs.bel.mono HD7.out))
  clear hlog12 hs12 hs hdm hdat
  simp only []
  go_step
  try dsimp only [List.append]
  go_wp2_with fail
  refine HBY.out.mono ?_
  rintro e w13 ⟨v13, rfl, hbf13, hb13⟩
  obtain ⟨a13, k13, hv13, -⟩ := hbf13.form
  rw [List.length_append, HP3.out, HP12.out] at hv13
  subst hv13
  have HLOG13 := Lib.hid (HLOG12.out.below hb13)
  have HB13 := Lib.hid (HBW.out.trans (hb13.mono HBW.out.size))
  have HWB := Lib.hid (waits_any w13 HLOG13.out)
  obtain ⟨W14, hcv14, hb14, -, -⟩ := conv_lit w13 [99] 1
  rw [show (cellsOf [99]).toArray = #[.int .u8 99] from rfl] at hcv14
  have HB14 := Lib.hid (HB13.out.trans (hb14.mono HB13.out.size))
  clear hbf13 hb13 hb14 x0 hcvx hdl hxc hxm
  go_wp2_with fail
  refine HWB.out.mono ?_
  rintro e wx ⟨rfl, rfl⟩
  go_wp2_with fail
  refine (HSUM.out w13).mono ?_
  rintro e wx ⟨rfl, rfl⟩
  go_wp2_with fail
  refine (put_nil _ _ _ _).mono ?_
  rintro e wx ⟨rfl, rfl⟩
  go_wp2_with fail
  refine (bytes_nil _).mono ?_
  rintro e wx ⟨rfl, rfl⟩
  go_wp2_with fail
  go_ret
  exact ⟨rfl, HB14.out⟩

end Go.Proofs.Ytifgkmaaglaffaa.Sg
