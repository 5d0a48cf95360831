/-
  SegRows.
-/
import Derived.Test.YtifgkmaaglaffaaSgBegs
namespace Go.Proofs.Ytifgkmaaglaffaa.Sg
open Go.RowKit
set_option linter.unusedVariables false
variable {B C : Nat}

theorem cat_at {ls : List (List UInt8)} {k : Nat} (hk : k < ls.length) : catR ls = catR (ls.take k) ++ ((be 2 ls[k].length ++ be 4 (sumF ls[k])) ++ (ls[k] ++ catR (ls.drop (k + 1)))) := by
  have e : ls = ls.take k ++ (ls[k] :: ls.drop (k + 1)) := by rw [List.getElem_cons_drop, List.take_append_drop]
  conv => lhs; rw [e]
  rw [catR_append, catR_cons]
  unfold recF
  simp
/-- where the r-th byte of the k-th record's own lies. -/
def plcF (ls : List (List UInt8)) (k r : Nat) : Nat := (catR (ls.take k)).length + 6 + r
theorem plc_lt {ls : List (List UInt8)} {k r : Nat} (hk : k < ls.length) (hr : r < ls[k].length) : plcF ls k r < (catR ls).length := by
  rw [cat_at hk]
  unfold plcF
  simp
  omega
/-- a byte turned within a record's own ends the reading there. -/
theorem row_turn {ls : List (List UInt8)} (h : ∀ d ∈ ls, Fit d) {k r : Nat} (hk : k < ls.length) (hr : r < ls[k].length) {c : UInt8} (hc : c ≠ 0) (hp : plcF ls k r < (catR ls).length) :
    rdL ((catR ls).set (plcF ls k r) ((catR ls)[plcF ls k r] ^^^ c)) = ls.take k := by
  have hd : Fit ls[k] := h _ (List.getElem_mem hk)
  have e := cat_at hk
  obtain ⟨X, hX⟩ : ∃ X, X = catR (ls.take k) := ⟨_, rfl⟩
  obtain ⟨Y, hY⟩ : ∃ Y, Y = catR (ls.drop (k + 1)) := ⟨_, rfl⟩
  obtain ⟨d, hdd⟩ : ∃ d, d = ls[k] := ⟨_, rfl⟩
  obtain ⟨P, hP⟩ : ∃ P, P = be 2 d.length ++ be 4 (sumF d) := ⟨_, rfl⟩
  rw [← hX, ← hY, ← hdd, ← hP] at e
  have hPl : P.length = 6 := by rw [hP]; simp
  have hpl : plcF ls k r = X.length + (6 + r) := by unfold plcF; rw [← hX]; omega
  rw [← hdd] at hd hr
  have hget : (catR ls)[plcF ls k r] = d[r] := by
    have h1 : (catR ls)[plcF ls k r]? = some d[r] := by
      rw [e, hpl, List.getElem?_append_right (by omega), Nat.add_sub_cancel_left, List.getElem?_append_right (by omega), hPl, Nat.add_sub_cancel_left, List.getElem?_append_left hr, List.getElem?_eq_getElem hr]
    rw [List.getElem?_eq_getElem hp] at h1
    exact Option.some.inj h1
  rw [hget, e, hpl]
  rw [List.set_append_right _ _ (by omega), Nat.add_sub_cancel_left, List.set_append_right _ _ (by omega), hPl, Nat.add_sub_cancel_left, List.set_append_left _ _ hr]
  rw [hX, rd_cat (fun x hx => (h x (List.mem_of_mem_take hx)).may)]
  have hs : sumF (d.set r (d[r] ^^^ c)) ≠ sumF d := fun he => hc ((sum_turn hr c).1 he)
  have := first_turned (d := d) (e := d.set r (d[r] ^^^ c)) (by simp) hd.may hs Y
  rw [hP, List.append_assoc, rdL_nil this, List.append_nil]

def plcAt (ls : List (List UInt8)) (k r i : Nat) : Nat := if i ≤ k then 0 else plcF ls k r
def rowRel (W : World) (ls : List (List UInt8)) (k r : Nat) (m : Nat) (v u i' : Value) (wr : World) : Prop :=
  ∃ i : Nat, i ≤ ls.length ∧ u = .int .i64 (plcAt ls k r i : Nat) ∧ i' = .int .i64 i ∧ m = ls.length - i ∧ (∀ d ∈ ls.take i, Fit d) ∧ Below W.heap.size W wr ∧ Buf wr W.heap.size v (catR (ls.take i))

set_option maxRecDepth 100000 in
set_option maxHeartbeats 1000000 in
theorem rows_any (a : Option Addr) (cap : Nat) (l : List (List UInt8)) (p1 p2 p3 : Int) (w : World) (w0 : BbsAt w.heap.size w a cap l) (w3 : (Lit.int .u8 p3).wf = true) :
    Calls Try.prog 8 #[.slice a l.length cap, .int .i64 p1, .int .i64 p2, .int .u8 p3] w fun e w' => e = .returned (.bool true) ∧ Below w.heap.size w w' := by
  obtain ⟨c, rfl⟩ := byte_of (in_u8 w3)
  have HBB := Lib.hid w0
  have hlc := w0.len
  have hcm := w0.max
  unfold maxLen at hcm
  have HR : Hid (Below w.heap.size w w) := Lib.hid (Below.refl _ _)
  clear w0 w3
  by_cases c1 : l.length < 1
  · have hi : (l.length : Int) < 1 := by omega
    clear c1
    go_enter Try.func8, Try.ntmps8
    go_wp2_with fail
    refine (told_any w).mono ?_
    rintro e w9 ⟨rfl, hb9⟩
    have HB9 := Lib.hid (HR.out.trans (hb9.mono HR.out.size))
    clear hb9
    go_wp2_with fail
    go_ret
    exact ⟨rfl, HB9.out⟩
  have hi : ¬ (l.length : Int) < 1 := by omega
  by_cases c2 : 8 < l.length
  · have hi2 : (8 : Int) < (l.length : Int) := by omega
    clear c1 c2
    go_enter Try.func8, Try.ntmps8
    go_wp2_with fail
    refine (told_any w).mono ?_
    rintro e w9 ⟨rfl, hb9⟩
    have HB9 := Lib.hid (HR.out.trans (hb9.mono HR.out.size))
    clear hb9
    go_wp2_with fail
    go_ret
    exact ⟨rfl, HB9.out⟩
  have hi2 : ¬ (8 : Int) < (l.length : Int) := by omega
  by_cases c3 : (c.toNat : Int) = 0
  · have hi3 : ((c.toNat : Int) == 0) = true := by rw [c3]; rfl
    clear c1 c2 c3
    go_enter Try.func8, Try.ntmps8
    go_wp2_with fail
    refine (told_any w).mono ?_
    rintro e w9 ⟨rfl, hb9⟩
    have HB9 := Lib.hid (HR.out.trans (hb9.mono HR.out.size))
    clear hb9
    go_wp2_with fail
    go_ret
    exact ⟨rfl, HB9.out⟩
  have hi3 : ((c.toNat : Int) == 0) = false := by rw [beq_eq_false_iff_ne]; exact c3
  have HC0 : Hid (c ≠ 0) := Lib.hid (fun e => c3 (by rw [e]; rfl))
  obtain ⟨k, hk, hkl⟩ := u64_rem p1 l.length (by omega)
  have hlw : IntKind.u64.wrap (l.length : Int) = (l.length : Int) := by rw [IntKind.wrap_u64]; omega
  have hl0 : ¬ (l.length : Int) = 0 := by omega
  have hwk : IntKind.i64.wrap (k : Int) = (k : Int) := IntWalk.i64_in _ (by omega)
  obtain ⟨nk, hnk⟩ : ∃ nk, nk = l[k].length := ⟨_, rfl⟩
  have HNK := Lib.hid hnk
  obtain ⟨r, hr⟩ : ∃ r, r = ((IntKind.u64.wrap p2).tmod (nk : Nat)).toNat := ⟨_, rfl⟩
  have HRR := Lib.hid hr
  have HKL := Lib.hid hkl
  clear hr hnk c1 c2 c3
  go_enter Try.func8, Try.ntmps8
  go_wp2_with fail
  clear hk hlw hl0 hwk
  go_loopg [10, 11, 12] l.length (rowRel w l k r)
  case atStart => exact ⟨0, Nat.zero_le _, by rw [show plcAt l k r 0 = 0 from if_pos (Nat.zero_le _)]; rfl, rfl, rfl, fun d hd => by simp at hd, Below.refl _ _, Buf.nil _ _⟩
  case round =>
    obtain ⟨i, hil, rfl, rfl, rfl, hfit, hbw, hbuf⟩ := hrel
    have HFIT := Lib.hid hfit
    have HBW := Lib.hid hbw
    have HBUF := Lib.hid hbuf
    obtain ⟨NV, va, vc, hNV, rfl, hvc, hvm⟩ := hbuf.form2
    have HNV := Lib.hid hNV
    have hcb := catR_bound hfit (show l.length ≤ 8 by omega)
    have hNVb : NV ≤ 8 * 66 := by rw [hNV]; exact hcb
    clear hfit hbw hbuf hNV
    by_cases hlt : i < l.length
    · have hlti : (i : Int) < (l.length : Int) := by omega
      have h0i : (0 : Int) ≤ (i : Int) := by omega
      obtain ⟨b', o, da, dc, rfl, hbl, c0, hdl, hdm, hdat⟩ := (HBB.out.under HBW.out).get i hlt
      have HDAT := Lib.hid hdat
      have HDL := Lib.hid hdl
      have HDM := Lib.hid hdm
      obtain ⟨d, hd⟩ : ∃ d, d = l[i] := ⟨_, rfl⟩
      have HD := Lib.hid hd
      rw [← hd] at c0 HDAT HDL
      obtain ⟨n, hn⟩ : ∃ n, n = d.length := ⟨_, rfl⟩
      rw [← hn] at c0 HDL
      have HN := Lib.hid hn
      have HBL := Lib.hid hbl
      clear hdat hdl hdm hbl hd hn
      by_cases hf1 : n < 1
      · have hfi : (n : Int) < 1 := by omega
        clear hf1
        go_wp2_with fail
        clear c0
        refine (told_any wr).mono ?_
        rintro e w9 ⟨rfl, hb9⟩
        have HB9 := Lib.hid (HBW.out.trans (hb9.mono HBW.out.size))
        clear hb9
        go_wp2_with fail
        go_ret
        exact ⟨rfl, HB9.out⟩
      have hfi : ¬ (n : Int) < 1 := by omega
      by_cases hf2 : 60 < n
      · have hfi2 : (60 : Int) < (n : Int) := by omega
        clear hf1 hf2
        go_wp2_with fail
        clear c0
        refine (told_any wr).mono ?_
        rintro e w9 ⟨rfl, hb9⟩
        have HB9 := Lib.hid (HBW.out.trans (hb9.mono HBW.out.size))
        clear hb9
        go_wp2_with fail
        go_ret
        exact ⟨rfl, HB9.out⟩
      have hfi2 : ¬ (60 : Int) < (n : Int) := by omega
      have HFD : Hid (Fit d) := Lib.hid (by unfold Fit; rw [← HN.out]; omega)
      have hrec := record_any (B := w.heap.size) da dc d (by rw [← HN.out]; exact HDL.out) HDM.out wr HDAT.out
      unfold RecR at hrec
      rw [recC_may HFD.out.may, recL_may HFD.out.may, ← HN.out] at hrec
      have HREC := Lib.hid hrec
      have HSZ : Hid ((catR (l.take i)).length + (recF d).length ≤ 1000000) := Lib.hid (by have := HFD.out.2; rw [recF_length]; omega)
      obtain ⟨s, hs, hs9⟩ := u64_rem p2 n (by omega)
      have hwn : IntKind.u64.wrap (n : Int) = (n : Int) := by rw [IntKind.wrap_u64]; omega
      have hn0 : ¬ (n : Int) = 0 := by omega
      have hws : IntKind.i64.wrap (s : Int) = (s : Int) := IntWalk.i64_in _ (by omega)
      clear hrec hf1 hf2 hvc hvm
      by_cases hik : i = k
      · have hiki : ((i : Int) == (k : Int)) = true := by rw [hik]; simp
        have HS : Hid (s = r) := Lib.hid (by
          have e1 : nk = n := by
            rw [HNK.out, HN.out, HD.out]
            simp only [hik]
          rw [HRR.out, e1, hs]
          omega)
        have HIK := Lib.hid hik
        have hw6 : IntKind.i64.wrap ((NV : Int) + 6) = (NV : Int) + 6 := IntWalk.i64_in _ (by omega)
        have hw7 : IntKind.i64.wrap ((NV : Int) + 6 + (s : Int)) = (NV : Int) + 6 + (s : Int) := IntWalk.i64_in _ (by omega)
        clear hik
        go_wp2_with fail
        refine HREC.out.mono ?_
        rintro e w5 ⟨v5, rfl, hbf5, hb5⟩
        obtain ⟨a5, c5, rfl, -, -, hat5⟩ := hbf5.bytes
        have HAT5 := Lib.hid hat5
        have HB5 := Lib.hid (HBW.out.trans (hb5.mono HBW.out.size))
        have HBUF5 := Lib.hid (HBUF.out.stay fun q e => hb5.block q (HBUF.out.lt q e))
        clear hbf5 hb5 hat5 c0
        go_wp2_with (at_builtin; refine put_bytes (base := w.heap.size) (l := catR (l.take i)) (m := recF d) rfl (.tmp 88) (.tmp 89) rfl HBUF5.out HB5.out.size HAT5.out HSZ.out rfl rfl rfl ?_; intro v6 w6 hb6 hon6; have HB6 := Lib.hid (HB5.out.trans (hon6.below HBUF5.out HB5.out.size)); have HBUF6 := Lib.hid hb6; clear hb6 hon6)
        go_roundg (l.length - (i + 1))
        case measure => omega
        case rel =>
          refine ⟨i + 1, by omega, ?_, by simp, rfl, fit_next HFIT.out hlt (by rw [← HD.out]; exact HFD.out), HB6.out, ?_⟩
          · rw [show plcAt l k r (i + 1) = plcF l k r from if_neg (by have := HIK.out; omega)]
            congr 1
            unfold plcF
            rw [← HIK.out, ← HNV.out, ← HS.out]
            omega
          · rw [catR_snoc hlt, ← HD.out]; exact HBUF6.out
      · have hiki : ((i : Int) == (k : Int)) = false := by rw [beq_eq_false_iff_ne]; omega
        have HIK := Lib.hid hik
        clear hik
        go_wp2_with fail
        refine HREC.out.mono ?_
        rintro e w5 ⟨v5, rfl, hbf5, hb5⟩
        obtain ⟨a5, c5, rfl, -, -, hat5⟩ := hbf5.bytes
        have HAT5 := Lib.hid hat5
        have HB5 := Lib.hid (HBW.out.trans (hb5.mono HBW.out.size))
        have HBUF5 := Lib.hid (HBUF.out.stay fun q e => hb5.block q (HBUF.out.lt q e))
        clear hbf5 hb5 hat5 c0
        go_wp2_with (at_builtin; refine put_bytes (base := w.heap.size) (l := catR (l.take i)) (m := recF d) rfl (.tmp 88) (.tmp 89) rfl HBUF5.out HB5.out.size HAT5.out HSZ.out rfl rfl rfl ?_; intro v6 w6 hb6 hon6; have HB6 := Lib.hid (HB5.out.trans (hon6.below HBUF5.out HB5.out.size)); have HBUF6 := Lib.hid hb6; clear hb6 hon6)
        go_roundg (l.length - (i + 1))
        case measure => omega
        case rel =>
          refine ⟨i + 1, by omega, ?_, by simp, rfl, fit_next HFIT.out hlt (by rw [← HD.out]; exact HFD.out), HB6.out, ?_⟩
          · congr 2
            unfold plcAt
            by_cases h9 : i ≤ k
            · rw [if_pos h9, if_pos (by have := HIK.out; omega)]
            · rw [if_neg h9, if_neg (by omega)]
          · rw [catR_snoc hlt, ← HD.out]; exact HBUF6.out
    · obtain rfl : i = l.length := by omega
      rw [List.take_length] at HFIT HNV HBUF hcb
      have hfk : Fit l[k] := HFIT.out _ (List.getElem_mem HKL.out)
      have hrk : r < l[k].length := by
        have h1 := hfk.1
        have hnkl : nk = l[k].length := HNK.out
        rw [← hnkl] at h1 ⊢
        obtain ⟨s, hs, hs9⟩ := u64_rem p2 nk (by omega)
        rw [HRR.out, hs]
        omega
      have hpl := plc_lt HKL.out hrk
      have hturn := row_turn HFIT.out HKL.out hrk HC0.out hpl
      obtain ⟨P, hP⟩ : ∃ P, P = plcAt l k r l.length := ⟨_, rfl⟩
      have hPf : plcF l k r = P := by rw [hP]; unfold plcAt; rw [if_neg (by have := HKL.out; omega)]
      rw [← hP]
      have hall : rdL (catR l) = l := rd_all fun d hd => (HFIT.out d hd).may
      have hnum : rdN (catR l) = (catR l).length := by unfold rdN; rw [hall]
      obtain ⟨L, hL⟩ : ∃ L, L = catR l := ⟨_, rfl⟩
      rw [← hL] at HNV HBUF hcb hpl hall hnum
      simp only [← hL, hPf] at hturn
      rw [hPf] at hpl
      have hL0 : 0 < L.length := by omega
      obtain ⟨g, cb, he, hg, hb1⟩ := HBUF.out.bytes1 hL0
      obtain ⟨rfl, -, rfl⟩ := Value.slice.inj he
      have hrd := read_any (B := wr.heap.size) (some ⟨g, 0, none⟩) vc L hb1.len hb1.max (fun h => by cases h) wr hb1.at (by omega) (Nat.le_refl _)
      unfold ReadR at hrd
      rw [hall, hnum, ← HNV.out] at hrd
      have HRD := Lib.hid hrd
      have HB1 := Lib.hid hb1
      have HG := Lib.hid hg
      obtain ⟨x, hx⟩ : ∃ x, x = L[P] := ⟨_, rfl⟩
      rw [← hx] at hturn
      have HX := Lib.hid hx
      have HTURN := Lib.hid hturn
      have hPN : ¬ (NV : Int) ≤ (P : Int) := by rw [HNV.out]; omega
      have hPN2 : (P : Int) < (NV : Int) := by omega
      have hP0 : (0 : Int) ≤ (P : Int) := by omega
      have HPL := Lib.hid hpl
      have HL0 := Lib.hid hL0
      have hlen1 := hb1.len
      have hxor := xor_byte x c
      clear hfk hrk hP hPf hall hnum hL he hg hb1 hrd hx hturn hL0 hcb
      go_wp2_with fail
      refine HRD.out.mono ?_
      rintro e w1 ⟨ra, rc, rfl, -, hb2⟩
      have HB2 := Lib.hid (HBW.out.trans (hb2.mono HBW.out.size))
      have hbb1 := HB1.out.below hb2
      have hc1 := hbb1.cell HPL.out
      rw [← HX.out] at hc1
      have hf1 := hbb1.frozen P
      have HBB1 := Lib.hid hbb1
      clear hb2 hbb1
      go_wp2_with fail
      have hb3 : Bytes1 (w1.setCell ⟨g, P, none⟩ (.int .u8 ((x.toNat ^^^ c.toNat : Nat) : Int))) g vc (L.set P (x ^^^ c)) := by
        have := HBB1.out.set P (x ^^^ c)
        rwa [UInt8.toNat_xor] at this
      have hbel : Below w.heap.size w (w1.setCell ⟨g, P, none⟩ (.int .u8 ((x.toNat ^^^ c.toNat : Nat) : Int))) := HB2.out.setCell HG.out _
      generalize w1.setCell ⟨g, P, none⟩ (.int .u8 ((x.toNat ^^^ c.toNat : Nat) : Int)) = w2 at *
      have hTl : (L.set P (x ^^^ c)).length = NV := by rw [HNV.out]; simp
      obtain ⟨T, hT⟩ : ∃ T, T = L.set P (x ^^^ c) := ⟨_, rfl⟩
      rw [← hT] at hb3 hTl HTURN
      have hrd := read_any (B := w2.heap.size) (some ⟨g, 0, none⟩) vc T hb3.len hb3.max (fun h => by cases h) w2 hb3.at (by omega) (Nat.le_refl _)
      unfold ReadR at hrd
      rw [HTURN.out, hTl] at hrd
      obtain ⟨xs, hxs⟩ : ∃ xs, xs = l.take k := ⟨_, rfl⟩
      have hxl : xs.length = k := by rw [hxs, List.length_take]; have := HKL.out; omega
      rw [← hxs, hxl] at hrd
      have HXS := Lib.hid hxs
      have HXL := Lib.hid hxl
      have HRD2 := Lib.hid hrd
      have HB3 := Lib.hid hbel
      clear hb3 hbel hTl hT hrd hxs hxl hc1 hf1 hxor
      refine HRD2.out.mono ?_
      rintro e w6 ⟨xa6, xc6, rfl, hbb6, hb6⟩
      have HB6 := Lib.hid (HB3.out.trans (hb6.mono HB3.out.size))
      have hxm := hbb6.max
      have hxlen := hbb6.len
      unfold maxLen at hxm
      rw [HXL.out] at hxlen
      have HBB6 := Lib.hid hbb6
      obtain ⟨C6, hC6⟩ : ∃ C6, C6 = w6.heap.size := ⟨_, rfl⟩
      rw [← hC6] at HBB6
      clear hbb6 hb6 hC6
      go_wp2_with fail
      go_loopg [19] k (cmpRel w w6 C6 xa6 xc6 xs k)
      case atStart => exact ⟨0, Nat.zero_le _, rfl, rfl, HB6.out, HBB6.out⟩
      case round =>
        obtain ⟨i, hil, rfl, rfl, hbw, hbx⟩ := hrel
        have HBW2 := Lib.hid hbw
        have HBX := Lib.hid hbx
        clear hbw hbx
        have hkl2 := HKL.out
        by_cases hlt : i < k
        · have hlti : (i : Int) < (k : Int) := by omega
          have hltl : (i : Int) < (l.length : Int) := by omega
          have h0i : (0 : Int) ≤ (i : Int) := by omega
          obtain ⟨b, o, da, dc, rfl, hbl, x0, hdl, hdm, hdat⟩ := HBX.out.get i (by rw [HXL.out]; exact hlt)
          obtain ⟨b2, o2, da2, dc2, rfl, hbl2, y0, hdl2, hdm2, hdat2⟩ := (HBB.out.under HBW2.out).get i (by omega)
          have hcv1 := fun nq => conv_str (w := wr.drewN nq) dc (hdat.keep fun _ _ => rfl)
          have hcv2 := fun nq => conv_str (w := wr.drewN nq) dc2 (hdat2.keep fun _ _ => rfl)
          have hsame : xs[i]'(by rw [HXL.out]; exact hlt) = l[i] := by
            simp only [HXS.out, List.getElem_take]
          rw [hsame] at x0 hcv1
          obtain ⟨d, hd⟩ : ∃ d, d = l[i] := ⟨_, rfl⟩
          rw [← hd] at x0 y0 hcv1 hcv2
          obtain ⟨n, hn⟩ : ∃ n, n = d.length := ⟨_, rfl⟩
          rw [← hn] at x0 y0 hcv1 hcv2
          clear hsame hd hn hdl hdl2 hdm hdm2 hdat hdat2
          go_wp2_with fail
          go_quiet (fail)
          obtain ⟨w7, hw7⟩ : ∃ w7, w7 = wr.drewN nq := ⟨_, rfl⟩
          have hb7 : Below wr.heap.size wr w7 := by rw [hw7]; exact below_drewN _ wr nq
          have hbx7 : BbsAt C6 w7 (some ⟨b, o, none⟩) xc6 xs := HBX.out.under (by rw [hw7]; exact below_drewN _ wr nq)
          rw [← hw7]
          have HB7 := Lib.hid (HBW2.out.trans (hb7.mono HBW2.out.size))
          have HBX7 := Lib.hid hbx7
          clear hb7 hbx7 hw7 x0 y0 hcv1 hcv2
          go_wp2_with fail
          go_roundg (k - (i + 1))
          case measure => omega
          case rel => exact ⟨i + 1, by omega, by simp, rfl, HB7.out, HBX7.out⟩
        · obtain rfl : i = k := by omega
          go_wp2_with fail
          refine (told_any wr).mono ?_
          rintro e w8 ⟨rfl, hb8⟩
          have HB8 := Lib.hid (HBW2.out.trans (hb8.mono HBW2.out.size))
          clear hb8
          go_wp2_with fail
          go_ret
          exact ⟨by first | rfl | (simp [*]; done), HB8.out⟩

end Go.Proofs.Ytifgkmaaglaffaa.Sg
