/-
  SegBegins.
-/
import Derived.Test.YtifgkmaaglaffaaSgKeep
import Derived.Deep.RegionHeld3
namespace Go.Proofs.Ytifgkmaaglaffaa.Sg
open Go.RowKit
set_option linter.unusedVariables false
variable {B C : Nat}

theorem catR_bound {ls : List (List UInt8)} {k i : Nat} (h : ∀ d ∈ ls.take i, Fit d) (hl : ls.length ≤ k) : (catR (ls.take i)).length ≤ k * 66 := by
  have h2 := catR_small (ls := ls.take i) (n := 60) fun d hd => (h d hd).2
  have h3 : (ls.take i).length ≤ k := by simp; omega
  exact Nat.le_trans h2 (Nat.mul_le_mul_right 66 h3)
theorem fit_next {ls : List (List UInt8)} {i : Nat} (h : ∀ d ∈ ls.take i, Fit d) (hlt : i < ls.length) (hd : Fit ls[i]) : ∀ d ∈ ls.take (i + 1), Fit d := by
  intro x hx
  rw [List.take_succ_eq_append_getElem hlt] at hx
  rcases List.mem_append.1 hx with hx | hx
  · exact h x hx
  · simp only [List.mem_cons, List.not_mem_nil, or_false] at hx
    rw [hx]
    exact hd
def begRel (W : World) (C g : Nat) (ls : List (List UInt8)) (m : Nat) (v : Value) (wr : World) : Prop :=
  ∃ i : Nat, i ≤ ls.length ∧ v = .int .i64 i ∧ m = ls.length - i ∧ (∀ d ∈ ls.take i, Fit d) ∧ Below W.heap.size W wr ∧ ∃ vs vw, LogAt C wr g vs vw [] (catR (ls.take i)) false
def begRel2 (W : World) (C g : Nat) (sy wb : List UInt8) (ls : List (List UInt8)) (m : Nat) (u v : Value) (wr : World) : Prop :=
  ∃ i : Nat, i ≤ ls.length ∧ u = .int .i64 (1 + i : Nat) ∧ v = .int .i64 i ∧ m = ls.length - i ∧ (∀ d ∈ ls.take i, Fit d) ∧ Below W.heap.size W wr ∧ ∃ vs vw, LogAt C wr g vs vw sy (wb ++ catR (ls.take i)) true

set_option maxRecDepth 100000 in
set_option maxHeartbeats 1000000 in
theorem begins_any (a : Option Addr) (cap : Nat) (l : List (List UInt8)) (ba : Option Addr) (blen bcap : Nat) (bz : List Int) (ma : Option Addr) (mcap : Nat) (ml : List (List UInt8)) (p3 : Int) (p4 : Bool) (w : World)
    (w0 : BbsAt w.heap.size w a cap l) (w1 : IsRow .u8 w ba blen bcap bz) (w2 : BbsAt w.heap.size w ma mcap ml) :
    Calls Try.prog 6 #[.slice a l.length cap, .slice ba blen bcap, .slice ma ml.length mcap, .int .i64 p3, .bool p4] w fun e w' => e = .returned (.bool true) ∧ Below w.heap.size w w' := by
  obtain ⟨b, rfl, a', cap', he, hbl, hbm, hbat⟩ := bytes_of_row w1
  obtain ⟨rfl, -, rfl⟩ := Value.slice.inj he
  have HBB := Lib.hid w0
  have HMB := Lib.hid w2
  have hlc := w0.len
  have hcm := w0.max
  have hmc := w2.len
  have hmm := w2.max
  unfold maxLen at hcm hmm
  have HBAT := Lib.hid hbat
  have HBL := Lib.hid hbl
  have HBM := Lib.hid hbm
  have HR : Hid (Below w.heap.size w w) := Lib.hid (Below.refl _ _)
  clear w0 w1 w2 he hbl hbm hbat
  by_cases c1 : 6 < l.length
  · have hi : (6 : Int) < (l.length : Int) := by omega
    clear c1
    go_enter Try.func6, Try.ntmps6
    go_wp2_with fail
    refine (told_any w).mono ?_
    rintro e w9 ⟨rfl, hb9⟩
    have HB9 := Lib.hid (HR.out.trans (hb9.mono HR.out.size))
    clear hb9
    go_wp2_with fail
    go_ret
    exact ⟨rfl, HB9.out⟩
  have hi : ¬ (6 : Int) < (l.length : Int) := by omega
  by_cases c2 : 6 < ml.length
  · have hi2 : (6 : Int) < (ml.length : Int) := by omega
    clear c1 c2
    go_enter Try.func6, Try.ntmps6
    go_wp2_with fail
    refine (told_any w).mono ?_
    rintro e w9 ⟨rfl, hb9⟩
    have HB9 := Lib.hid (HR.out.trans (hb9.mono HR.out.size))
    clear hb9
    go_wp2_with fail
    go_ret
    exact ⟨rfl, HB9.out⟩
  have hi2 : ¬ (6 : Int) < (ml.length : Int) := by omega
  by_cases c3 : b.length < 1
  · have hi3 : (b.length : Int) < 1 := by omega
    clear c1 c2 c3
    go_enter Try.func6, Try.ntmps6
    go_wp2_with fail
    refine (told_any w).mono ?_
    rintro e w9 ⟨rfl, hb9⟩
    have HB9 := Lib.hid (HR.out.trans (hb9.mono HR.out.size))
    clear hb9
    go_wp2_with fail
    go_ret
    exact ⟨rfl, HB9.out⟩
  have hi3 : ¬ (b.length : Int) < 1 := by omega
  by_cases c4 : 60 < b.length
  · have hi4 : (60 : Int) < (b.length : Int) := by omega
    clear c1 c2 c3 c4
    go_enter Try.func6, Try.ntmps6
    go_wp2_with fail
    refine (told_any w).mono ?_
    rintro e w9 ⟨rfl, hb9⟩
    have HB9 := Lib.hid (HR.out.trans (hb9.mono HR.out.size))
    clear hb9
    go_wp2_with fail
    go_ret
    exact ⟨rfl, HB9.out⟩
  have hi4 : ¬ (60 : Int) < (b.length : Int) := by omega
  have HFB : Hid (Fit b) := Lib.hid ⟨by omega, by omega⟩
  have HL6 : Hid (l.length ≤ 6 ∧ ml.length ≤ 6) := Lib.hid ⟨by omega, by omega⟩
  clear c1 c2 c3 c4
  go_enter Try.func6, Try.ntmps6
  go_wp2_with fail
  refine (open_nil w).mono ?_
  rintro e w1 ⟨g, xa, xc, vs, C, rfl, hlog1, hC, hb1⟩
  have HLOG1 := Lib.hid hlog1
  have HB1 := Lib.hid hb1
  have HC := Lib.hid hC
  clear hlog1 hb1 hC
  go_wp2_with fail
  go_loopg [13] l.length (begRel w C g l)
  case atStart => exact ⟨0, Nat.zero_le _, rfl, rfl, fun d hd => by simp at hd, HB1.out, vs, .slice none 0 0, HLOG1.out⟩
  case round =>
    obtain ⟨i, hil, rfl, rfl, hfit, hbw, vs1, vw1, hlog⟩ := hrel
    have HFIT := Lib.hid hfit
    have HBW := Lib.hid hbw
    have HLOG := Lib.hid hlog
    clear hfit hbw hlog
    by_cases hlt : i < l.length
    · have hlti : (i : Int) < (l.length : Int) := by omega
      have h0i : (0 : Int) ≤ (i : Int) := by omega
      obtain ⟨b', o, da, dc, rfl, hbl, c0, hdl, hdm, hdat⟩ := (HBB.out.under HBW.out).get i hlt
      have HDAT := Lib.hid hdat
      have HDL := Lib.hid hdl
      have HDM := Lib.hid hdm
      obtain ⟨d, hd⟩ : ∃ d, d = l[i] := ⟨_, rfl⟩
      have HD := Lib.hid hd
      rw [← hd] at c0 HDAT HDL
      obtain ⟨n, hn⟩ : ∃ n, n = d.length := ⟨_, rfl⟩
      rw [← hn] at c0 HDL
      have HN := Lib.hid hn
      clear hdat hdl hdm hbl hd hn
      by_cases hf1 : n < 1
      · have hfi : (n : Int) < 1 := by omega
        clear hf1
        go_wp2_with fail
        clear c0
        refine (told_any wr).mono ?_
        rintro e w9 ⟨rfl, hb9⟩
        have HB9 := Lib.hid (HBW.out.trans (hb9.mono HBW.out.size))
        clear hb9
        go_wp2_with fail
        go_ret
        exact ⟨rfl, HB9.out⟩
      have hfi : ¬ (n : Int) < 1 := by omega
      by_cases hf2 : 60 < n
      · have hfi2 : (60 : Int) < (n : Int) := by omega
        clear hf1 hf2
        go_wp2_with fail
        clear c0
        refine (told_any wr).mono ?_
        rintro e w9 ⟨rfl, hb9⟩
        have HB9 := Lib.hid (HBW.out.trans (hb9.mono HBW.out.size))
        clear hb9
        go_wp2_with fail
        go_ret
        exact ⟨rfl, HB9.out⟩
      have hfi2 : ¬ (60 : Int) < (n : Int) := by omega
      have HFD : Hid (Fit d) := Lib.hid (by unfold Fit; rw [← HN.out]; omega)
      have hpu := put_any (B := w.heap.size) da dc d (by rw [← HN.out]; exact HDL.out) HDM.out wr HDAT.out HLOG.out (by have := catR_bound HFIT.out HL6.out.1; omega)
      unfold PutR at hpu
      rw [recC_may HFD.out.may, recL_may HFD.out.may, ← HN.out] at hpu
      have HPU := Lib.hid hpu
      clear hpu hf1 hf2
      go_wp2_with fail
      refine HPU.out.mono ?_
      rintro e w5 ⟨vw5, rfl, hlog5, hs5⟩
      have HLOG5 := Lib.hid hlog5
      have HB5 := Lib.hid (HBW.out.trans (hs5.bel.mono HC.out))
      clear hlog5 hs5 c0
      go_wp2_with fail
      go_roundg (l.length - (i + 1))
      case measure => omega
      case rel =>
        refine ⟨i + 1, by omega, by simp, rfl, fit_next HFIT.out hlt (by rw [← HD.out]; exact HFD.out), HB5.out, vs1, vw5, ?_⟩
        have hh := HLOG5.out
        rw [catR_snoc hlt, ← HD.out]
        exact hh
    · obtain rfl : i = l.length := by omega
      have hbd := catR_bound HFIT.out HL6.out.1
      rw [List.take_length] at HFIT HLOG hbd
      have HSY := Lib.hid (sync_any wr HLOG.out (by simp; omega))
      unfold SyncR at HSY
      rw [show synF [] (catR l) false = catR l from rfl] at HSY
      have HBD := Lib.hid hbd
      obtain ⟨sy, hsy⟩ : ∃ sy, sy = catR l := ⟨_, rfl⟩
      rw [← hsy] at HSY HBD
      clear hbd hsy
      go_wp2_with fail
      refine HSY.out.mono ?_
      rintro e w4 ⟨vs4, rfl, hlog4, hs4⟩
      have HLOG4 := Lib.hid hlog4
      have HB4 := Lib.hid (HBW.out.trans (hs4.bel.mono HC.out))
      have HBY := Lib.hid (bytes_any w4 hlog4 (by have := HBD.out; omega))
      clear hlog4 hs4
      go_wp2_with fail
      refine HBY.out.mono ?_
      rintro e w5 ⟨v5, rfl, hbf5, hb5⟩
      obtain ⟨a5, c5, rfl, -, -, hat5⟩ := hbf5.bytes
      have hcv5 := conv_str c5 hat5
      have HLOG5 := Lib.hid (HLOG4.out.below hb5)
      have HB5 := Lib.hid (HB4.out.trans (hb5.mono HB4.out.size))
      have hbe := begin_any (B := w.heap.size) ba bcap b HBL.out HBM.out w5 (HBAT.out.under HB5.out) HLOG5.out
      unfold BegR begW begB at hbe
      rw [recC_may HFB.out.may, if_pos HFB.out.may, if_pos HFB.out.may] at hbe
      have HBE := Lib.hid hbe
      clear hbf5 hb5 hat5 hbe
      go_wp2_with fail
      refine HBE.out.mono ?_
      rintro e w6 ⟨vw6, rfl, hlog6, hs6⟩
      have HLOG6 := Lib.hid hlog6
      have HB6 := Lib.hid (HB5.out.trans (hs6.bel.mono HC.out))
      clear hlog6 hs6 hcv5
      go_wp2_with fail
      go_loopg [15, 16] ml.length (begRel2 w C g sy (recF b) ml)
      case atStart => exact ⟨0, Nat.zero_le _, rfl, rfl, rfl, fun d hd => by simp at hd, HB6.out, vs4, vw6, by rw [List.take_zero, show catR [] = [] from rfl, List.append_nil]; exact HLOG6.out⟩
      case round =>
        obtain ⟨i, hil, rfl, rfl, rfl, hfit, hbw, vs7, vw7, hlog⟩ := hrel
        have HFIT2 := Lib.hid hfit
        have HBW2 := Lib.hid hbw
        have HLOG7 := Lib.hid hlog
        clear hfit hbw hlog
        by_cases hlt : i < ml.length
        · have hlti : (i : Int) < (ml.length : Int) := by omega
          have h0i : (0 : Int) ≤ (i : Int) := by omega
          obtain ⟨b', o, da, dc, rfl, hbl, c0, hdl, hdm, hdat⟩ := (HMB.out.under HBW2.out).get i hlt
          have HDAT := Lib.hid hdat
          have HDL := Lib.hid hdl
          have HDM := Lib.hid hdm
          obtain ⟨d, hd⟩ : ∃ d, d = ml[i] := ⟨_, rfl⟩
          have HD := Lib.hid hd
          rw [← hd] at c0 HDAT HDL
          obtain ⟨n, hn⟩ : ∃ n, n = d.length := ⟨_, rfl⟩
          rw [← hn] at c0 HDL
          have HN := Lib.hid hn
          clear hdat hdl hdm hbl hd hn
          by_cases hf1 : n < 1
          · have hfi : (n : Int) < 1 := by omega
            clear hf1
            go_wp2_with fail
            clear c0
            refine (told_any wr).mono ?_
            rintro e w9 ⟨rfl, hb9⟩
            have HB9 := Lib.hid (HBW2.out.trans (hb9.mono HBW2.out.size))
            clear hb9
            go_wp2_with fail
            go_ret
            exact ⟨rfl, HB9.out⟩
          have hfi : ¬ (n : Int) < 1 := by omega
          by_cases hf2 : 60 < n
          · have hfi2 : (60 : Int) < (n : Int) := by omega
            clear hf1 hf2
            go_wp2_with fail
            clear c0
            refine (told_any wr).mono ?_
            rintro e w9 ⟨rfl, hb9⟩
            have HB9 := Lib.hid (HBW2.out.trans (hb9.mono HBW2.out.size))
            clear hb9
            go_wp2_with fail
            go_ret
            exact ⟨rfl, HB9.out⟩
          have hfi2 : ¬ (60 : Int) < (n : Int) := by omega
          have HFD : Hid (Fit d) := Lib.hid (by unfold Fit; rw [← HN.out]; omega)
          have hpu := put_any (B := w.heap.size) da dc d (by rw [← HN.out]; exact HDL.out) HDM.out wr HDAT.out HLOG7.out (by have := catR_bound HFIT2.out HL6.out.2; have := HFB.out.2; simp; omega)
          unfold PutR at hpu
          rw [recC_may HFD.out.may, recL_may HFD.out.may, ← HN.out, List.append_assoc] at hpu
          have HPU := Lib.hid hpu
          clear hpu hf1 hf2
          go_wp2_with fail
          refine HPU.out.mono ?_
          rintro e w8 ⟨vw8, rfl, hlog8, hs8⟩
          have HLOG8 := Lib.hid hlog8
          have HB8 := Lib.hid (HBW2.out.trans (hs8.bel.mono HC.out))
          clear hlog8 hs8 c0
          go_wp2_with fail
          go_roundg (ml.length - (i + 1))
          case measure => omega
          case rel =>
            refine ⟨i + 1, by omega, by simp; omega, by simp, rfl, fit_next HFIT2.out hlt (by rw [← HD.out]; exact HFD.out), HB8.out, vs7, vw8, ?_⟩
            have hh := HLOG8.out
            rw [catR_snoc hlt, ← HD.out]
            exact hh
        · obtain rfl : i = ml.length := by omega
          have hbd := catR_bound HFIT2.out HL6.out.2
          rw [List.take_length] at HFIT2 HLOG7 hbd
          have HWL : Hid (sy.length + (recF b ++ catR ml).length ≤ 1000) := Lib.hid (by have := HBD.out; have := HFB.out.2; simp; omega)
          obtain ⟨N, hN⟩ : ∃ N, N = ml.length := ⟨_, rfl⟩
          cases p4 with
          | false =>
            clear hbd hN
            go_wp2_with fail
            refine (told_any wr).mono ?_
            rintro e w9 ⟨rfl, hb9⟩
            have HB9 := Lib.hid (HBW2.out.trans (hb9.mono HBW2.out.size))
            have HLOG9 := Lib.hid (HLOG7.out.below hb9)
            have HBY9 := Lib.hid (bytes_any w9 HLOG9.out (by have := HWL.out; omega))
            clear hb9
            go_wp2_with fail
            refine HBY9.out.mono ?_
            rintro e w10 ⟨v10, rfl, hbf10, hb10⟩
            obtain ⟨a10, c10, rfl, -, -, hat10⟩ := hbf10.bytes
            have hcv10 := conv_str c10 hat10
            have HB10 := Lib.hid (HB9.out.trans (hb10.mono HB9.out.size))
            have HCR := Lib.hid (crash_any p3 w10 (HLOG9.out.below hb10) (by have := HWL.out; omega))
            unfold CrashR at HCR
            rw [show crF sy (recF b ++ catR ml) true p3 = sy by unfold crF; simp] at HCR
            clear hbf10 hb10 hat10
            go_wp2_with fail
            refine HCR.out.mono ?_
            rintro e w11 ⟨v11, rfl, hbf11, hb11⟩
            obtain ⟨a11, c11, rfl, -, -, hat11⟩ := hbf11.bytes
            have hcv11 := conv_str c11 hat11
            have HB11 := Lib.hid (HB10.out.trans (hb11.mono HB10.out.size))
            clear hbf11 hb11 hat11 hcv10
            go_wp2_with fail
            go_ret
            exact ⟨by first | rfl | (simp [*]; done), HB11.out⟩
          | true =>
            have HSY2 := Lib.hid (sync_any wr HLOG7.out (by have := HWL.out; omega))
            unfold SyncR at HSY2
            rw [show synF sy (recF b ++ catR ml) true = catR (b :: ml) by unfold synF; rw [catR_cons]; rfl] at HSY2
            have hrd : rdL (catR (b :: ml)) = b :: ml := rd_all (fun d hd => by
              rcases List.mem_cons.1 hd with rfl | hd
              · exact HFB.out.may
              · exact (HFIT2.out d hd).may)
            have hcl : (catR (b :: ml)).length ≤ 1000 := by have := HWL.out; rw [catR_cons]; omega
            obtain ⟨cb, hcb⟩ : ∃ cb, cb = catR (b :: ml) := ⟨_, rfl⟩
            rw [← hcb] at HSY2 hrd hcl
            have HRD := Lib.hid hrd
            have HCL := Lib.hid hcl
            clear hbd hcb hrd hcl
            go_wp2_with fail
            refine HSY2.out.mono ?_
            rintro e w9 ⟨vs9, rfl, hlog9, hs9⟩
            have HB9 := Lib.hid (HBW2.out.trans (hs9.bel.mono HC.out))
            have HCR := Lib.hid (crash_any p3 w9 hlog9 (by have := HCL.out; simp; omega))
            unfold CrashR at HCR
            rw [show crF cb [] false p3 = cb by unfold crF; simp] at HCR
            clear hlog9 hs9
            go_wp2_with fail
            refine HCR.out.mono ?_
            rintro e w10 ⟨v10, rfl, hbf10, hb10⟩
            obtain ⟨a10, c10, rfl, hl10, hm10, hn10, hat10⟩ := Buf.form3 hbf10
            have HOP := Lib.hid (open_any (B := w10.heap.size) a10 c10 cb hl10 hm10 hn10 w10 hat10 (by have := HCL.out; omega) (Nat.le_refl _))
            unfold OpenR at HOP
            rw [HRD.out] at HOP
            have HB10 := Lib.hid (HB9.out.trans (hb10.mono HB9.out.size))
            clear hbf10 hb10 hl10 hm10 hn10 hat10
            go_wp2_with fail
            refine HOP.out.mono ?_
            rintro e w11 ⟨g11, xa11, xc11, vs11, C11, rfl, hbb11, hlog11, hC11, hb11⟩
            have HB11 := Lib.hid (HB10.out.trans (hb11.mono HB10.out.size))
            obtain ⟨xb, xo, da, dc, rfl, hxb, x0, hdl, hdm, hdat⟩ := hbb11.get 0 (by simp)
            have hxc := hbb11.len
            have hxm := hbb11.max
            unfold maxLen at hxm
            simp only [List.getElem_cons_zero, List.length_cons, Nat.add_zero] at x0 hdl hdat hxc
            have hC11' : C11 ≤ w11.heap.size := Nat.le_trans hlog11.ge (Nat.le_of_lt hlog11.lt)
            have HKEEP := Lib.hid (show ∀ wx, Below w11.heap.size w11 wx → (wx.cell? ⟨xb, xo, none⟩ = some (.slice da b.length dc) ∧ (convert 22 9 (.slice da b.length dc)).run Try.prog wx = .ok (.string ⟨b.toArray⟩) wx ∧ (convert 22 9 (.slice ba b.length bcap)).run Try.prog wx = .ok (.string ⟨b.toArray⟩) wx) ∧ Below w11.heap.size w11 wx from
              fun wx h => ⟨⟨(h.cell (p := ⟨xb, xo, none⟩) (Nat.lt_of_lt_of_le hxb hC11')).trans x0, conv_str dc (hdat.under (h.mono hC11')), conv_str bcap (HBAT.out.under (HB11.out.trans (h.mono HB11.out.size)))⟩, h⟩)
            have hxc1 : 1 ≤ xc11 := by omega
            have hone : (1 : Int) ≤ (xc11 : Int) := by omega
            have hN1 : ((ml.length : Int) + 1 == 1 + (ml.length : Int)) = true := by rw [beq_iff_eq]; omega
            clear hbb11 hlog11 hC11 hb11 hxb x0 hdl hdm hdat hC11'
            go_wp2_with fail
            go_region_held3 (fun wx => (wx.cell? ⟨xb, xo, none⟩ = some (.slice da b.length dc) ∧ (convert 22 9 (.slice da b.length dc)).run Try.prog wx = .ok (.string ⟨b.toArray⟩) wx ∧ (convert 22 9 (.slice ba b.length bcap)).run Try.prog wx = .ok (.string ⟨b.toArray⟩) wx) ∧ Below w11.heap.size w11 wx)
              (first | exact HKEEP.out _ (Below.refl _ _).drew | exact HKEEP.out _ (Below.refl _ _) | exact HKEEP.out _ HB13.out | assumption)
              (first
                | (go_at_call 10; have hbx := (by assumption : _ ∧ Below _ _ _).2; refine (told_any _).mono ?_; rintro e w13 ⟨rfl, hb13⟩; have HB13 := Lib.hid (hbx.trans (hb13.mono hbx.size)); clear hb13 hbx))
            all_goals
              rename_i hHeld
              have HE := Lib.hid (HB11.out.trans (HB13.out.mono HB11.out.size))
              clear hHeld
              go_wp2_with fail
              go_ret
              exact ⟨by first | rfl | (simp [*]; done), HE.out⟩

end Go.Proofs.Ytifgkmaaglaffaa.Sg
