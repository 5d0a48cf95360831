/-
  SegAsks.
-/
import Derived.Test.YtifgkmaaglaffaaSgTexts
import Derived.Test.YtifgkmaaglaffaaConvB
import Derived.Test.YtifgkmaaglaffaaUp
import Derived.Deep.RegionHeld3
namespace Go.Proofs.Ytifgkmaaglaffaa.Sg
open Go.RowKit
set_option linter.unusedVariables false
variable {B C : Nat}

/-- the records of the first i that may be, one behind the other. -/
def frS (ls : List (List UInt8)) (i : Nat) : List UInt8 := catR ((ls.take i).filter fun d => decide (MayL d.length))
theorem frS_yes {ls : List (List UInt8)} {i : Nat} (h : i < ls.length) (hm : MayL ls[i].length) : frS ls (i + 1) = frS ls i ++ recF ls[i] := by
  unfold frS
  rw [List.take_succ_eq_append_getElem h, List.filter_append, catR_append]
  congr 1
  simp [hm, catR]
theorem frS_no {ls : List (List UInt8)} {i : Nat} (h : i < ls.length) (hm : ¬ MayL ls[i].length) : frS ls (i + 1) = frS ls i := by
  unfold frS
  rw [List.take_succ_eq_append_getElem h, List.filter_append]
  simp [hm]
theorem frS_le {ls : List (List UInt8)} {i : Nat} (h : ∀ d ∈ ls.take i, d.length ≤ 200) (hl : ls.length ≤ 4) : (frS ls i).length ≤ 824 := by
  have h2 := catR_small (ls := (ls.take i).filter fun d => decide (MayL d.length)) (n := 200) fun d hd => h d (List.mem_filter.1 hd).1
  have h3 : ((ls.take i).filter fun d => decide (MayL d.length)).length ≤ 4 := Nat.le_trans (List.length_filter_le _ _) (by simp; omega)
  exact Nat.le_trans h2 (Nat.mul_le_mul_right 206 h3)
theorem few_next {ls : List (List UInt8)} {i k : Nat} (h : ∀ d ∈ ls.take i, d.length ≤ k) (hlt : i < ls.length) (hd : ls[i].length ≤ k) : ∀ d ∈ ls.take (i + 1), d.length ≤ k := by
  intro x hx
  rw [List.take_succ_eq_append_getElem hlt] at hx
  rcases List.mem_append.1 hx with hx | hx
  · exact h x hx
  · simp only [List.mem_cons, List.not_mem_nil, or_false] at hx
    rw [hx]
    exact hd
def askRel (W : World) (ls : List (List UInt8)) (m : Nat) (u v : Value) (wr : World) : Prop :=
  ∃ i : Nat, i ≤ ls.length ∧ u = .string ⟨(frS ls i).toArray⟩ ∧ v = .int .i64 i ∧ m = ls.length - i ∧ (∀ d ∈ ls.take i, d.length ≤ 200) ∧ Below W.heap.size W wr

set_option maxRecDepth 100000 in
set_option maxHeartbeats 4000000 in
theorem asks_any (ba : Option Addr) (blen bcap : Nat) (bz : List Int) (a : Option Addr) (cap : Nat) (l : List (List UInt8)) (w : World) (w0 : IsRow .u8 w ba blen bcap bz) (w1 : BbsAt w.heap.size w a cap l) :
    Calls Try.prog 3 #[.slice ba blen bcap, .slice a l.length cap] w fun e w' => e = .returned (.bool true) ∧ Below w.heap.size w w' := by
  obtain ⟨b, rfl, a', cap', he, hbl, hbm, hbat⟩ := bytes_of_row w0
  obtain ⟨rfl, -, rfl⟩ := Value.slice.inj he
  have HBB := Lib.hid w1
  have hlc := w1.len
  have hcm := w1.max
  unfold maxLen at hcm
  have HBAT := Lib.hid hbat
  have HBL := Lib.hid hbl
  have HBM := Lib.hid hbm
  have HR : Hid (Below w.heap.size w w) := Lib.hid (Below.refl _ _)
  clear w0 w1 he hbl hbm hbat
  by_cases c1 : 600 < b.length
  · have hi : (600 : Int) < (b.length : Int) := by omega
    clear c1
    go_enter Try.func3, Try.ntmps3
    go_wp2_with fail
    refine (told_any w).mono ?_
    rintro e w9 ⟨rfl, hb9⟩
    have HB9 := Lib.hid (HR.out.trans (hb9.mono HR.out.size))
    clear hb9
    go_wp2_with fail
    go_ret
    exact ⟨rfl, HB9.out⟩
  have hi : ¬ (600 : Int) < (b.length : Int) := by omega
  by_cases c2 : 4 < l.length
  · have hi2 : (4 : Int) < (l.length : Int) := by omega
    clear c1 c2
    go_enter Try.func3, Try.ntmps3
    go_wp2_with fail
    refine (told_any w).mono ?_
    rintro e w9 ⟨rfl, hb9⟩
    have HB9 := Lib.hid (HR.out.trans (hb9.mono HR.out.size))
    clear hb9
    go_wp2_with fail
    go_ret
    exact ⟨rfl, HB9.out⟩
  have hi2 : ¬ (4 : Int) < (l.length : Int) := by omega
  have HB6 : Hid (b.length ≤ 600) := Lib.hid (by omega)
  have HL4 : Hid (l.length ≤ 4) := Lib.hid (by omega)
  clear c1 c2
  go_enter Try.func3, Try.ntmps3
  go_wp2_with fail
  go_loopg [5, 6] l.length (askRel w l)
  case atStart => exact ⟨0, Nat.zero_le _, rfl, rfl, rfl, fun d hd => by simp at hd, Below.refl _ _⟩
  case round =>
    obtain ⟨i, hil, rfl, rfl, rfl, hfew, hbw⟩ := hrel
    have HFEW := Lib.hid hfew
    have HBW := Lib.hid hbw
    have hsl := frS_le hfew HL4.out
    clear hfew hbw
    by_cases hlt : i < l.length
    · have hlti : (i : Int) < (l.length : Int) := by omega
      have h0i : (0 : Int) ≤ (i : Int) := by omega
      obtain ⟨b', o, da, dc, rfl, hbl, c0, hdl, hdm, hdat⟩ := (HBB.out.under HBW.out).get i hlt
      have HDAT := Lib.hid hdat
      have HDL := Lib.hid hdl
      have HDM := Lib.hid hdm
      have HBL2 := Lib.hid hbl
      obtain ⟨d, hd⟩ : ∃ d, d = l[i] := ⟨_, rfl⟩
      have HD := Lib.hid hd
      rw [← hd] at c0 HDAT HDL
      obtain ⟨n, hn⟩ : ∃ n, n = d.length := ⟨_, rfl⟩
      rw [← hn] at c0 HDL
      have HN := Lib.hid hn
      clear hdat hdl hdm hbl hd hn
      by_cases hf1 : 200 < n
      · have hfi : (200 : Int) < (n : Int) := by omega
        clear hf1
        go_wp2_with fail
        clear c0
        refine (told_any wr).mono ?_
        rintro e w9 ⟨rfl, hb9⟩
        have HB9 := Lib.hid (HBW.out.trans (hb9.mono HBW.out.size))
        clear hb9
        go_wp2_with fail
        go_ret
        exact ⟨rfl, HB9.out⟩
      have hfi : ¬ (200 : Int) < (n : Int) := by omega
      have HN2 : Hid (d.length ≤ 200) := Lib.hid (by rw [← HN.out]; omega)
      have hrec := record_any (B := w.heap.size) da dc d (by rw [← HN.out]; exact HDL.out) HDM.out wr HDAT.out
      unfold RecR recC recL at hrec
      rw [← HN.out] at hrec
      have HREC := Lib.hid hrec
      clear hrec hf1
      by_cases hm : MayL n
      case neg =>
        rw [if_neg hm, if_neg hm] at HREC
        have HNM : Hid (¬ MayL l[i].length) := Lib.hid (by rw [← HD.out, ← HN.out]; exact hm)
        have HRM := Lib.hid fun wx => rmayl_any d (by have := HN2.out; unfold maxLen; omega) wx
        rw [← HN.out, decide_eq_false hm] at HRM
        clear hm
        go_wp2_with fail
        refine HREC.out.mono ?_
        rintro e w5 ⟨v5, rfl, hbf5, hb5⟩
        obtain ⟨a5, c5, rfl, -, -⟩ := hbf5.form
        have HB5 := Lib.hid (HBW.out.trans (hb5.mono HBW.out.size))
        have d0 : w5.cell? ⟨b', o + i, none⟩ = some (.slice da n dc) := (hb5.cell (p := ⟨b', o + i, none⟩) (Nat.lt_of_lt_of_le HBL2.out HBW.out.size)).trans c0
        have hcv := conv_str dc (HDAT.out.under (hb5.mono HBW.out.size))
        rw [← HN.out] at hcv
        clear hbf5 hb5 c0
        go_wp2_with fail
        refine (HRM.out w5).mono ?_
        rintro e wx ⟨rfl, rfl⟩
        go_wp2_with fail
        go_roundg (l.length - (i + 1))
        case measure => omega
        case rel => exact ⟨i + 1, by omega, by rw [frS_no hlt HNM.out], by simp, rfl, few_next HFEW.out hlt (by rw [← HD.out]; exact HN2.out), HB5.out⟩
      rw [if_pos hm, if_pos hm] at HREC
      have HMA : Hid (MayL l[i].length) := Lib.hid (by rw [← HD.out, ← HN.out]; exact hm)
      have HRM := Lib.hid fun wx => rmayl_any d (by have := HN2.out; unfold maxLen; omega) wx
      rw [← HN.out, decide_eq_true hm] at HRM
      have HRR := Lib.hid fun wx => rrec_any d (by have := HN2.out; omega) wx
      clear hm
      go_wp2_with fail
      refine HREC.out.mono ?_
      rintro e w5 ⟨v5, rfl, hbf5, hb5⟩
      obtain ⟨a5, c5, rfl, -, -, hat5⟩ := hbf5.bytes
      have HB5 := Lib.hid (HBW.out.trans (hb5.mono HBW.out.size))
      have d0 : w5.cell? ⟨b', o + i, none⟩ = some (.slice da n dc) := (hb5.cell (p := ⟨b', o + i, none⟩) (Nat.lt_of_lt_of_le HBL2.out HBW.out.size)).trans c0
      have hcv := conv_str dc (HDAT.out.under (hb5.mono HBW.out.size))
      rw [← HN.out] at hcv
      have HKEEP := Lib.hid (show ∀ wx, Below w5.heap.size w5 wx → (wx.cell? ⟨b', o + i, none⟩ = some (.slice da n dc) ∧ (convert 22 9 (.slice da n dc)).run Try.prog wx = .ok (.string ⟨d.toArray⟩) wx ∧ (convert 22 9 (.slice a5 (recF d).length c5)).run Try.prog wx = .ok (.string ⟨(recF d).toArray⟩) wx) ∧ Below w5.heap.size w5 wx from
        fun wx h => ⟨⟨(h.cell (p := ⟨b', o + i, none⟩) (Nat.lt_of_lt_of_le HBL2.out HB5.out.size)).trans d0, by have := conv_str dc (HDAT.out.under ((hb5.trans (h.mono hb5.size)).mono HBW.out.size)); rwa [← HN.out] at this, conv_str c5 (hat5.below h)⟩, h⟩)
      have hlr : (recF d).length = n + 6 := by rw [recF_length, ← HN.out]
      rw [hlr] at HKEEP ⊢
      have hsum : ¬ 9223372036854775807 < (frS l i).length + (n + 6) := by omega
      have hsum2 : ¬ 9223372036854775807 < (frS l i).length + (recF d).length := by rw [hlr]; omega
      clear hbf5 hb5 c0 hat5 hlr
      go_wp2_with fail
      refine (HRM.out w5).mono ?_
      rintro e wx ⟨rfl, rfl⟩
      clear d0 hcv
      go_wp2_with fail
      go_region_held3 (fun wx => (wx.cell? ⟨b', o + i, none⟩ = some (.slice da n dc) ∧ (convert 22 9 (.slice da n dc)).run Try.prog wx = .ok (.string ⟨d.toArray⟩) wx ∧ (convert 22 9 (.slice a5 (n + 6) c5)).run Try.prog wx = .ok (.string ⟨(recF d).toArray⟩) wx) ∧ Below w5.heap.size w5 wx)
        (first | exact HKEEP.out _ (Below.refl _ _).drew | exact HKEEP.out _ (Below.refl _ _) | exact HKEEP.out _ HB13.out | assumption)
        (first
          | (go_at_call 13; have hbx := (by assumption : _ ∧ Below _ _ _).2; refine (HRR.out _).mono ?_; rintro e w13 ⟨rfl, hb13⟩; have HB13 := Lib.hid (hbx.trans (hb13.mono hbx.size)); clear hb13 hbx))
      all_goals
        rename_i hHeld
        obtain ⟨⟨-, -, hcx⟩, hbx⟩ := hHeld
        have HB14 := Lib.hid (HB5.out.trans (hbx.mono HB5.out.size))
        clear hbx
        go_wp2_with fail
        go_roundg (l.length - (i + 1))
        case measure => omega
        case rel => exact ⟨i + 1, by omega, by rw [frS_yes hlt HMA.out, ← HD.out, ← cat_list], by simp, rfl, few_next HFEW.out hlt (by rw [← HD.out]; exact HN2.out), HB14.out⟩
    · obtain rfl : i = l.length := by omega
      rw [List.take_length] at HFEW
      obtain ⟨F, hF⟩ : ∃ F, F = frS l l.length := ⟨_, rfl⟩
      rw [← hF] at hsl ⊢
      have hcvb := conv_str bcap (HBAT.out.under HBW.out)
      obtain ⟨s, hs⟩ : ∃ s, s = F ++ b := ⟨_, rfl⟩
      have hb6 := HB6.out
      have hsl2 : s.length ≤ 2000 := by rw [hs]; simp; omega
      have hsum : ¬ 9223372036854775807 < F.length + b.length := by omega
      have hcat : (⟨F.toArray⟩ : ByteArray) ++ ⟨b.toArray⟩ = ⟨s.toArray⟩ := by rw [cat_list, hs]
      obtain ⟨sc, w1, hcv1, hsc, hscm, hsat, hsb, -⟩ := conv_bytes s (by omega) wr
      have HSL := Lib.hid hsl2
      clear hs hF hsl hb6
      go_wp2_with fail
      have hrd := read_any (B := w1.heap.size) (some ⟨wr.heap.size, 0, none⟩) sc s hsc hscm (fun h => by cases h) w1 hsat (by have := HSL.out; omega) (Nat.le_refl _)
      unfold ReadR at hrd
      have HB1 := Lib.hid (HBW.out.trans (hsb.mono HBW.out.size))
      have hto := str_to s (rdN s) (rd_le s)
      rw [show s.take (rdN s) = catR (rdL s) from rd_take s] at hto
      have HRR := Lib.hid fun wx => rread_any s (by have := HSL.out; omega) wx
      unfold RReadR at HRR
      have hop := fun (cc : Nat) (h1 : s.length ≤ cc) (h2 : cc ≤ maxLen) (xx : Nat) (wx : World) (h3 : BytesAt wx.heap.size wx (some ⟨xx, 0, none⟩) s) => open_any (B := wx.heap.size) (some ⟨xx, 0, none⟩) cc s h1 h2 (fun h => by cases h) wx h3 (by have := HSL.out; omega) (Nat.le_refl _)
      unfold OpenR at hop
      have hcl : (catR (rdL s)).length ≤ 2000 := by have := rd_le s; have := HSL.out; omega
      have hN : (rdN s : Int) ≤ (s.length : Int) := by have := rd_le s; unfold rdN; omega
      obtain ⟨N, hNN⟩ : ∃ N, N = rdN s := ⟨_, rfl⟩
      obtain ⟨L, hLL⟩ : ∃ L, L = rdL s := ⟨_, rfl⟩
      rw [← hNN, ← hLL] at hrd hto
      simp only [← hNN, ← hLL] at HRR
      simp only [← hLL] at hop
      rw [← hLL] at hcl
      rw [← hNN] at hN
      have HOP := Lib.hid hop
      have HCL := Lib.hid hcl
      have HRD := Lib.hid hrd
      have HTO := Lib.hid hto
      clear hrd hto hop hcl hNN hLL hsb hsat hsc hscm hcvb hcv1 hsum hcat hsl2
      refine HRD.out.mono ?_
      rintro e w2 ⟨la, lc, rfl, hbb2, hb2⟩
      have HBB2 := Lib.hid hbb2
      have HB2 := Lib.hid (HB1.out.trans (hb2.mono HB1.out.size))
      clear hbb2 hb2
      go_wp2_with fail
      refine (HRR.out w2).mono ?_
      rintro e w3 ⟨ka, kc, rfl, hkc, hst3, hb3⟩
      have HB3 := Lib.hid (HB2.out.trans (hb3.mono HB2.out.size))
      have hBB3 := HBB2.out.under hb3
      have hC2 : w2.heap.size ≤ w3.heap.size := hb3.size
      obtain ⟨sc4, w4, hcv4, hsc4, hscm4, hsat4, hsb4, -⟩ := conv_bytes s (by have := HSL.out; omega) w3
      have hop4 := HOP.out sc4 hsc4 hscm4 w3.heap.size w4 hsat4
      have HOP4 := Lib.hid hop4
      have HB4 := Lib.hid (HB3.out.trans (hsb4.mono HB3.out.size))
      have HBB4 := Lib.hid (hBB3.under (hsb4.mono hC2))
      have HST4 := Lib.hid (hst3.below hsb4)
      have HC4 : Hid (w2.heap.size ≤ w4.heap.size) := Lib.hid (Nat.le_trans hC2 hsb4.size)
      have HKC := Lib.hid hkc
      clear hb3 hBB3 hC2 hsc4 hscm4 hsat4 hsb4 hop4 hst3
      go_wp2_with fail
      clear hcv4
      refine HOP4.out.mono ?_
      rintro e w5 ⟨g, xa, xc, vs, C5, rfl, hbb5, hlog5, hC5, hb5⟩
      have HB5 := Lib.hid (HB4.out.trans (hb5.mono HB4.out.size))
      have HBB5 := Lib.hid (HBB4.out.under (hb5.mono HC4.out))
      have HC5 : Hid (w2.heap.size ≤ w5.heap.size) := Lib.hid (Nat.le_trans HC4.out hb5.size)
      have HST5 := Lib.hid (HST4.out.below hb5)
      have HXX5 := Lib.hid hbb5
      have HLOG5 := Lib.hid hlog5
      have HCX : Hid (C5 ≤ w5.heap.size) := Lib.hid (Nat.le_trans hlog5.ge (Nat.le_of_lt hlog5.lt))
      clear hbb5 hlog5 hC5 hb5
      have HT1 := Lib.hid fun (wx : World) (h : Below w5.heap.size w5 wx) => texts_any (C := w2.heap.size) la lc ka kc L wx (HBB5.out.under (h.mono HC5.out)) (Nat.le_trans HC5.out h.size) (HST5.out.below h) HKC.out
      have HT2 := Lib.hid fun (wx : World) (h : Below w5.heap.size w5 wx) => texts_any (C := C5) xa xc ka kc L wx (HXX5.out.under (h.mono HCX.out)) (Nat.le_trans HCX.out h.size) (HST5.out.below h) HKC.out
      have HBY := Lib.hid fun (wx : World) (h : Below w5.heap.size w5 wx) => bytes_any wx (HLOG5.out.below h) (by have := HCL.out; omega)
      have HWA := Lib.hid fun (wx : World) (h : Below w5.heap.size w5 wx) => waits_any wx (HLOG5.out.below h)
      have HSUM := Lib.hid fun (wx : World) (h : Below w5.heap.size w5 wx) => sum_any (B := w.heap.size) ba bcap b HBL.out HBM.out wx (HBAT.out.under (HB5.out.trans (h.mono HB5.out.size)))
      have HRSU := Lib.hid fun (wx : World) => rsuml_any b (by have := HB6.out; unfold maxLen; omega) wx
      have HKEEP := Lib.hid (show ∀ wx, Below w5.heap.size w5 wx → ((convert 22 9 (.slice ba b.length bcap)).run Try.prog wx = .ok (.string ⟨b.toArray⟩) wx) ∧ Below w5.heap.size w5 wx from
        fun wx h => ⟨conv_str bcap (HBAT.out.under (HB5.out.trans (h.mono HB5.out.size))), h⟩)
      have hto := HTO.out
      generalize sumF b = z at *
      clear HRD HRR HOP HOP4 HBB HL4
      go_wp2_with fail
      refine wp_region_noPanic ?_
      refine wp_region_held_drew (S := (fun wx => ((convert 22 9 (.slice ba b.length bcap)).run Try.prog wx = .ok (.string ⟨b.toArray⟩) wx) ∧ Below w5.heap.size w5 wx)) (by kernel_rfl) ?_ (fun hHeld => ?_)
      · exact HKEEP.out _ (below_drew _)
      refine wpAnyH_ready (rs := [0]) (by kernel_rfl) (by simp) ?_
      refine AllReadyH.cons (o := ⟨some 97, _, _, _, _, _⟩) rfl (fun K hK => ?_) AllReadyH.nil
      go_simp
      go_at_call 10
      refine (told_any _).mono ?_
      rintro e w13 ⟨rfl, hb13⟩
      have hE1 := hHeld.2.trans (hb13.mono hHeld.2.size)
      clear hb13 hHeld
      refine hK.out _ _ ?_ (fun hHeld => ?_)
      · exact HKEEP.out _ hE1
      clear hK K
      try simp only [Act.put, List.setIfInBounds_toArray, List.set_cons_zero, List.set_cons_succ]
      refine wpAnyH_take (i := 1) (oi := ⟨some 98, _, _, _, _, _⟩) (v := ?_) rfl (by kernel_rfl) (by kernel_rfl) (by kernel_rfl) (fun _ _ _ h => h) (Or.inl ⟨by rfl, ?_⟩) (by assumption) ?_
      rotate_left
      · intro w' hSw
        (try dsimp only at hSw)
        go_simp
        try with_reducible rfl
      simp only [Act.put, List.setIfInBounds_toArray, List.set_cons_zero, List.set_cons_succ]
      refine wpAnyH_take (i := 2) (oi := ⟨some 99, _, _, _, _, _⟩) (v := ?_) rfl (by kernel_rfl) (by kernel_rfl) (by kernel_rfl) (fun _ _ _ h => h) (Or.inl ⟨by rfl, ?_⟩) (by assumption) ?_
      rotate_left
      · intro w' hSw
        (try dsimp only at hSw)
        go_simp
        try with_reducible rfl
      simp only [Act.put, List.setIfInBounds_toArray, List.set_cons_zero, List.set_cons_succ]
      refine wpAnyH_take (i := 4) (oi := ⟨some 101, _, _, _, _, _⟩) (v := ?_) rfl (by kernel_rfl) (by kernel_rfl) (by kernel_rfl) (fun _ _ _ h => h) (Or.inl ⟨by rfl, ?_⟩) (by assumption) ?_
      rotate_left
      · intro w' hSw
        (try dsimp only at hSw)
        go_simp
        try with_reducible rfl
      simp only [Act.put, List.setIfInBounds_toArray, List.set_cons_zero, List.set_cons_succ]
      refine wpAnyH_take (i := 5) (oi := ⟨some 102, _, _, _, _, _⟩) (v := ?_) rfl (by kernel_rfl) (by kernel_rfl) (by kernel_rfl) (fun _ _ _ h => h) (Or.inl ⟨by rfl, ?_⟩) (by assumption) ?_
      rotate_left
      · intro w' hSw
        (try dsimp only at hSw)
        go_simp
        try with_reducible rfl
      simp only [Act.put, List.setIfInBounds_toArray, List.set_cons_zero, List.set_cons_succ]
      refine wpAnyH_ready (rs := [3]) (by kernel_rfl) (by simp) ?_
      refine AllReadyH.cons (o := ⟨some 100, _, _, _, _, _⟩) rfl (fun K hK => ?_) AllReadyH.nil
      go_simp
      go_at_call 17
      refine (HSUM.out _ hHeld.2).mono ?_
      rintro e wx ⟨rfl, rfl⟩
      refine hK.out _ _ ?_ (fun hHeld => ?_)
      · exact hHeld
      clear hK K
      try simp only [Act.put, List.setIfInBounds_toArray, List.set_cons_zero, List.set_cons_succ]
      refine wpAnyH_ready (rs := [6]) (by kernel_rfl) (by simp) ?_
      refine AllReadyH.cons (o := ⟨some 103, _, _, _, _, _⟩) rfl (fun K hK => ?_) AllReadyH.nil
      go_simp
      go_at_call 18
      refine (HRSU.out _).mono ?_
      rintro e wx ⟨rfl, rfl⟩
      refine hK.out _ _ ?_ (fun hHeld => ?_)
      · exact hHeld
      clear hK K
      try simp only [Act.put, List.setIfInBounds_toArray, List.set_cons_zero, List.set_cons_succ]
      refine wpAnyH_take (i := 7) (oi := ⟨some 104, _, _, _, _, _⟩) (v := ?_) rfl (by kernel_rfl) (by kernel_rfl) (by kernel_rfl) (fun _ _ _ h => h) (Or.inl ⟨by rfl, ?_⟩) (by assumption) ?_
      rotate_left
      · intro w' hSw
        (try dsimp only at hSw)
        go_simp
        try with_reducible rfl
      simp only [Act.put, List.setIfInBounds_toArray, List.set_cons_zero, List.set_cons_succ]
      refine wpAnyH_take (i := 8) (oi := ⟨some 105, _, _, _, _, _⟩) (v := ?_) rfl (by kernel_rfl) (by kernel_rfl) (by kernel_rfl) (fun _ _ _ h => h) (Or.inl ⟨by rfl, ?_⟩) (by assumption) ?_
      rotate_left
      · intro w' hSw
        (try dsimp only at hSw)
        go_simp
        try with_reducible rfl
      simp only [Act.put, List.setIfInBounds_toArray, List.set_cons_zero, List.set_cons_succ]
      refine wpAnyH_take (i := 9) (oi := ⟨some 106, _, _, _, _, _⟩) (v := ?_) rfl (by kernel_rfl) (by kernel_rfl) (by kernel_rfl) (fun _ _ _ h => h) (Or.inl ⟨by rfl, ?_⟩) (by assumption) ?_
      rotate_left
      · intro w' hSw
        (try dsimp only at hSw)
        go_simp
        try with_reducible rfl
      simp only [Act.put, List.setIfInBounds_toArray, List.set_cons_zero, List.set_cons_succ]
      refine wpAnyH_take (i := 10) (oi := ⟨some 107, _, _, _, _, _⟩) (v := ?_) rfl (by kernel_rfl) (by kernel_rfl) (by kernel_rfl) (fun _ _ _ h => h) (Or.inl ⟨by rfl, ?_⟩) (by assumption) ?_
      rotate_left
      · intro w' hSw
        (try dsimp only at hSw)
        go_simp
        try with_reducible rfl
      simp only [Act.put, List.setIfInBounds_toArray, List.set_cons_zero, List.set_cons_succ]
      refine wpAnyH_take (i := 11) (oi := ⟨some 108, _, _, _, _, _⟩) (v := ?_) rfl (by kernel_rfl) (by kernel_rfl) (by kernel_rfl) (fun _ _ _ h => h) (Or.inl ⟨by rfl, ?_⟩) (by assumption) ?_
      rotate_left
      · intro w' hSw
        (try dsimp only at hSw)
        go_simp
        try with_reducible rfl
      simp only [Act.put, List.setIfInBounds_toArray, List.set_cons_zero, List.set_cons_succ]
      refine wpAnyH_take (i := 12) (oi := ⟨some 109, _, _, _, _, _⟩) (v := ?_) rfl (by kernel_rfl) (by kernel_rfl) (by kernel_rfl) (fun _ _ _ h => h) (Or.inl ⟨by rfl, ?_⟩) (by assumption) ?_
      rotate_left
      · intro w' hSw
        (try dsimp only at hSw)
        go_simp
        try with_reducible rfl
      simp only [Act.put, List.setIfInBounds_toArray, List.set_cons_zero, List.set_cons_succ]
      refine wpAnyH_take (i := 13) (oi := ⟨some 110, _, _, _, _, _⟩) (v := ?_) rfl (by kernel_rfl) (by kernel_rfl) (by kernel_rfl) (fun _ _ _ h => h) (Or.inl ⟨by rfl, ?_⟩) (by assumption) ?_
      rotate_left
      · intro w' hSw
        (try dsimp only at hSw)
        go_simp
        try with_reducible rfl
      simp only [Act.put, List.setIfInBounds_toArray, List.set_cons_zero, List.set_cons_succ]
      refine wpAnyH_take (i := 14) (oi := ⟨some 111, _, _, _, _, _⟩) (v := ?_) rfl (by kernel_rfl) (by kernel_rfl) (by kernel_rfl) (fun _ _ _ h => h) (Or.inl ⟨by rfl, ?_⟩) (by assumption) ?_
      rotate_left
      · intro w' hSw
        (try dsimp only at hSw)
        go_simp
        try with_reducible rfl
      simp only [Act.put, List.setIfInBounds_toArray, List.set_cons_zero, List.set_cons_succ]
      refine wpAnyH_take (i := 15) (oi := ⟨some 112, _, _, _, _, _⟩) (v := ?_) rfl (by kernel_rfl) (by kernel_rfl) (by kernel_rfl) (fun _ _ _ h => h) (Or.inl ⟨by rfl, ?_⟩) (by assumption) ?_
      rotate_left
      · intro w' hSw
        (try dsimp only at hSw)
        go_simp
        try with_reducible rfl
      simp only [Act.put, List.setIfInBounds_toArray, List.set_cons_zero, List.set_cons_succ]
      refine wpAnyH_take (i := 16) (oi := ⟨some 113, _, _, _, _, _⟩) (v := ?_) rfl (by kernel_rfl) (by kernel_rfl) (by kernel_rfl) (fun _ _ _ h => h) (Or.inl ⟨by rfl, ?_⟩) (by assumption) ?_
      rotate_left
      · intro w' hSw
        (try dsimp only at hSw)
        go_simp
        try with_reducible rfl
      simp only [Act.put, List.setIfInBounds_toArray, List.set_cons_zero, List.set_cons_succ]
      refine wpAnyH_ready (rs := [17]) (by kernel_rfl) (by simp) ?_
      refine AllReadyH.cons (o := ⟨some 114, _, _, _, _, _⟩) rfl (fun K hK => ?_) AllReadyH.nil
      go_simp
      go_at_call 19
      refine (HT1.out _ hHeld.2).mono ?_
      rintro e w14 ⟨rfl, hb14⟩
      have hE2 := hHeld.2.trans (hb14.mono hHeld.2.size)
      clear hb14 hHeld
      refine hK.out _ _ ?_ (fun hHeld => ?_)
      · exact HKEEP.out _ hE2
      clear hK K
      try simp only [Act.put, List.setIfInBounds_toArray, List.set_cons_zero, List.set_cons_succ]
      refine wpAnyH_take (i := 18) (oi := ⟨some 115, _, _, _, _, _⟩) (v := ?_) rfl (by kernel_rfl) (by kernel_rfl) (by kernel_rfl) (fun _ _ _ h => h) (Or.inl ⟨by rfl, ?_⟩) (by assumption) ?_
      rotate_left
      · intro w' hSw
        (try dsimp only at hSw)
        go_simp
        try with_reducible rfl
      simp only [Act.put, List.setIfInBounds_toArray, List.set_cons_zero, List.set_cons_succ]
      refine wpAnyH_take (i := 19) (oi := ⟨some 116, _, _, _, _, _⟩) (v := ?_) rfl (by kernel_rfl) (by kernel_rfl) (by kernel_rfl) (fun _ _ _ h => h) (Or.inl ⟨by rfl, ?_⟩) (by assumption) ?_
      rotate_left
      · intro w' hSw
        (try dsimp only at hSw)
        go_simp
        try with_reducible rfl
      simp only [Act.put, List.setIfInBounds_toArray, List.set_cons_zero, List.set_cons_succ]
      refine wpAnyH_take (i := 20) (oi := ⟨some 117, _, _, _, _, _⟩) (v := ?_) rfl (by kernel_rfl) (by kernel_rfl) (by kernel_rfl) (fun _ _ _ h => h) (Or.inl ⟨by rfl, ?_⟩) (by assumption) ?_
      rotate_left
      · intro w' hSw
        (try dsimp only at hSw)
        go_simp
        try with_reducible rfl
      simp only [Act.put, List.setIfInBounds_toArray, List.set_cons_zero, List.set_cons_succ]
      refine wpAnyH_take (i := 21) (oi := ⟨some 118, _, _, _, _, _⟩) (v := ?_) rfl (by kernel_rfl) (by kernel_rfl) (by kernel_rfl) (fun _ _ _ h => h) (Or.inl ⟨by rfl, ?_⟩) (by assumption) ?_
      rotate_left
      · intro w' hSw
        (try dsimp only at hSw)
        go_simp
        try with_reducible rfl
      simp only [Act.put, List.setIfInBounds_toArray, List.set_cons_zero, List.set_cons_succ]
      refine wpAnyH_take (i := 22) (oi := ⟨some 119, _, _, _, _, _⟩) (v := ?_) rfl (by kernel_rfl) (by kernel_rfl) (by kernel_rfl) (fun _ _ _ h => h) (Or.inl ⟨by rfl, ?_⟩) (by assumption) ?_
      rotate_left
      · intro w' hSw
        (try dsimp only at hSw)
        go_simp
        try with_reducible rfl
      simp only [Act.put, List.setIfInBounds_toArray, List.set_cons_zero, List.set_cons_succ]
      refine wpAnyH_take (i := 23) (oi := ⟨some 120, _, _, _, _, _⟩) (v := ?_) rfl (by kernel_rfl) (by kernel_rfl) (by kernel_rfl) (fun _ _ _ h => h) (Or.inl ⟨by rfl, ?_⟩) (by assumption) ?_
      rotate_left
      · intro w' hSw
        (try dsimp only at hSw)
        go_simp
        try with_reducible rfl
      simp only [Act.put, List.setIfInBounds_toArray, List.set_cons_zero, List.set_cons_succ]
      refine wpAnyH_take (i := 24) (oi := ⟨some 121, _, _, _, _, _⟩) (v := ?_) rfl (by kernel_rfl) (by kernel_rfl) (by kernel_rfl) (fun _ _ _ h => h) (Or.inl ⟨by rfl, ?_⟩) (by assumption) ?_
      rotate_left
      · intro w' hSw
        (try dsimp only at hSw)
        go_simp
        try with_reducible rfl
      simp only [Act.put, List.setIfInBounds_toArray, List.set_cons_zero, List.set_cons_succ]
      refine wpAnyH_take (i := 25) (oi := ⟨some 122, _, _, _, _, _⟩) (v := ?_) rfl (by kernel_rfl) (by kernel_rfl) (by kernel_rfl) (fun _ _ _ h => h) (Or.inl ⟨by rfl, ?_⟩) (by assumption) ?_
      rotate_left
      · intro w' hSw
        (try dsimp only at hSw)
        go_simp
        try with_reducible rfl
      simp only [Act.put, List.setIfInBounds_toArray, List.set_cons_zero, List.set_cons_succ]
      refine wpAnyH_ready (rs := [26]) (by kernel_rfl) (by simp) ?_
      refine AllReadyH.cons (o := ⟨some 123, _, _, _, _, _⟩) rfl (fun K hK => ?_) AllReadyH.nil
      go_simp
      go_at_call 19
      refine (HT2.out _ hHeld.2).mono ?_
      rintro e w15 ⟨rfl, hb15⟩
      have hE3 := hHeld.2.trans (hb15.mono hHeld.2.size)
      clear hb15 hHeld
      refine hK.out _ _ ?_ (fun hHeld => ?_)
      · exact HKEEP.out _ hE3
      clear hK K
      try simp only [Act.put, List.setIfInBounds_toArray, List.set_cons_zero, List.set_cons_succ]
      refine wpAnyH_take (i := 27) (oi := ⟨some 124, _, _, _, _, _⟩) (v := ?_) rfl (by kernel_rfl) (by kernel_rfl) (by kernel_rfl) (fun _ _ _ h => h) (Or.inl ⟨by rfl, ?_⟩) (by assumption) ?_
      rotate_left
      · intro w' hSw
        (try dsimp only at hSw)
        go_simp
        try with_reducible rfl
      simp only [Act.put, List.setIfInBounds_toArray, List.set_cons_zero, List.set_cons_succ]
      refine wpAnyH_take (i := 28) (oi := ⟨some 125, _, _, _, _, _⟩) (v := ?_) rfl (by kernel_rfl) (by kernel_rfl) (by kernel_rfl) (fun _ _ _ h => h) (Or.inl ⟨by rfl, ?_⟩) (by assumption) ?_
      rotate_left
      · intro w' hSw
        (try dsimp only at hSw)
        go_simp
        try with_reducible rfl
      simp only [Act.put, List.setIfInBounds_toArray, List.set_cons_zero, List.set_cons_succ]
      refine wpAnyH_take (i := 29) (oi := ⟨some 126, _, _, _, _, _⟩) (v := ?_) rfl (by kernel_rfl) (by kernel_rfl) (by kernel_rfl) (fun _ _ _ h => h) (Or.inl ⟨by rfl, ?_⟩) (by assumption) ?_
      rotate_left
      · intro w' hSw
        (try dsimp only at hSw)
        go_simp
        try with_reducible rfl
      simp only [Act.put, List.setIfInBounds_toArray, List.set_cons_zero, List.set_cons_succ]
      refine wpAnyH_take (i := 32) (oi := ⟨some 129, _, _, _, _, _⟩) (v := ?_) rfl (by kernel_rfl) (by kernel_rfl) (by kernel_rfl) (fun _ _ _ h => h) (Or.inl ⟨by rfl, ?_⟩) (by assumption) ?_
      rotate_left
      · intro w' hSw
        (try dsimp only at hSw)
        go_simp
        try with_reducible rfl
      simp only [Act.put, List.setIfInBounds_toArray, List.set_cons_zero, List.set_cons_succ]
      refine wpAnyH_take (i := 33) (oi := ⟨some 130, _, _, _, _, _⟩) (v := ?_) rfl (by kernel_rfl) (by kernel_rfl) (by kernel_rfl) (fun _ _ _ h => h) (Or.inl ⟨by rfl, ?_⟩) (by assumption) ?_
      rotate_left
      · intro w' hSw
        (try dsimp only at hSw)
        go_simp
        try with_reducible rfl
      simp only [Act.put, List.setIfInBounds_toArray, List.set_cons_zero, List.set_cons_succ]
      refine wpAnyH_take (i := 34) (oi := ⟨some 131, _, _, _, _, _⟩) (v := ?_) rfl (by kernel_rfl) (by kernel_rfl) (by kernel_rfl) (fun _ _ _ h => h) (Or.inl ⟨by rfl, ?_⟩) (by assumption) ?_
      rotate_left
      · intro w' hSw
        (try dsimp only at hSw)
        go_simp
        try with_reducible rfl
      simp only [Act.put, List.setIfInBounds_toArray, List.set_cons_zero, List.set_cons_succ]
      refine wpAnyH_ready (rs := [30]) (by kernel_rfl) (by simp) ?_
      refine AllReadyH.cons (o := ⟨some 127, _, _, _, _, _⟩) rfl (fun K hK => ?_) AllReadyH.nil
      go_simp
      go_at_call 20
      refine (HBY.out _ hHeld.2).mono ?_
      rintro e w16 ⟨v16, rfl, hbf16, hb16⟩
      obtain ⟨a16, c16, rfl, -, -, hat16⟩ := hbf16.bytes
      have hcv16 := conv_str c16 hat16
      have hE4 := hHeld.2.trans (hb16.mono hHeld.2.size)
      clear hb16 hbf16 hat16 hHeld
      refine hK.out _ _ ?_ (fun hHeld => ?_)
      · exact HKEEP.out _ hE4
      clear hK K
      try simp only [Act.put, List.setIfInBounds_toArray, List.set_cons_zero, List.set_cons_succ]
      refine wpAnyH_up (S' := (fun wx => (((convert 22 9 (.slice ba b.length bcap)).run Try.prog wx = .ok (.string ⟨b.toArray⟩) wx) ∧ Below w5.heap.size w5 wx) ∧ (convert 22 9 (.slice a16 (catR L).length c16)).run Try.prog wx = .ok (.string ⟨(catR L).toArray⟩) wx)) (fun wx h => h.1) _ _ _ _ ?_
      have hHeld2 := And.intro hHeld hcv16
      clear hHeld
      have hHeld := hHeld2
      clear hHeld2
      refine wpAnyH_take (i := 31) (oi := ⟨some 128, _, _, _, _, _⟩) (v := ?_) rfl (by kernel_rfl) (by kernel_rfl) (by kernel_rfl) (fun _ _ _ h => h) (Or.inl ⟨by rfl, ?_⟩) (by assumption) ?_
      rotate_left
      · intro w' hSw
        (try dsimp only at hSw)
        go_simp
        try with_reducible rfl
      simp only [Act.put, List.setIfInBounds_toArray, List.set_cons_zero, List.set_cons_succ]
      refine wpAnyH_take (i := 35) (oi := ⟨some 132, _, _, _, _, _⟩) (v := ?_) rfl (by kernel_rfl) (by kernel_rfl) (by kernel_rfl) (fun _ _ _ h => h) (Or.inl ⟨by rfl, ?_⟩) (by assumption) ?_
      rotate_left
      · intro w' hSw
        (try dsimp only at hSw)
        go_simp
        try with_reducible rfl
      simp only [Act.put, List.setIfInBounds_toArray, List.set_cons_zero, List.set_cons_succ]
      refine wpAnyH_take (i := 36) (oi := ⟨some 133, _, _, _, _, _⟩) (v := ?_) rfl (by kernel_rfl) (by kernel_rfl) (by kernel_rfl) (fun _ _ _ h => h) (Or.inl ⟨by rfl, ?_⟩) (by assumption) ?_
      rotate_left
      · intro w' hSw
        (try dsimp only at hSw)
        go_simp
        try with_reducible rfl
      simp only [Act.put, List.setIfInBounds_toArray, List.set_cons_zero, List.set_cons_succ]
      refine wpAnyH_take (i := 37) (oi := ⟨some 134, _, _, _, _, _⟩) (v := ?_) rfl (by kernel_rfl) (by kernel_rfl) (by kernel_rfl) (fun _ _ _ h => h) (Or.inl ⟨by rfl, ?_⟩) (by assumption) ?_
      rotate_left
      · intro w' hSw
        (try dsimp only at hSw)
        go_simp
        try with_reducible rfl
      simp only [Act.put, List.setIfInBounds_toArray, List.set_cons_zero, List.set_cons_succ]
      refine wpAnyH_take (i := 38) (oi := ⟨some 135, _, _, _, _, _⟩) (v := ?_) rfl (by kernel_rfl) (by kernel_rfl) (by kernel_rfl) (fun _ _ _ h => h) (Or.inl ⟨by rfl, ?_⟩) (by assumption) ?_
      rotate_left
      · intro w' hSw
        (try dsimp only at hSw)
        go_simp
        try with_reducible rfl
      simp only [Act.put, List.setIfInBounds_toArray, List.set_cons_zero, List.set_cons_succ]
      refine wpAnyH_ready (rs := [39]) (by kernel_rfl) (by simp) ?_
      refine AllReadyH.cons (o := ⟨some 136, _, _, _, _, _⟩) rfl (fun K hK => ?_) AllReadyH.nil
      go_simp
      go_at_call 21
      refine (HWA.out _ hE4).mono ?_
      rintro e wx ⟨rfl, rfl⟩
      refine hK.out _ _ ?_ (fun hHeld => ?_)
      · exact hHeld
      clear hK K
      try simp only [Act.put, List.setIfInBounds_toArray, List.set_cons_zero, List.set_cons_succ]
      refine wpAnyH_take (i := 40) (oi := ⟨some 137, _, _, _, _, _⟩) (v := ?_) rfl (by kernel_rfl) (by kernel_rfl) (by kernel_rfl) (fun _ _ _ h => h) (Or.inl ⟨by rfl, ?_⟩) (by assumption) ?_
      rotate_left
      · intro w' hSw
        (try dsimp only at hSw)
        go_simp
        try with_reducible rfl
      simp only [Act.put, List.setIfInBounds_toArray, List.set_cons_zero, List.set_cons_succ]
      refine wpAnyH_take (i := 41) (oi := ⟨some 138, _, _, _, _, _⟩) (v := ?_) rfl (by kernel_rfl) (by kernel_rfl) (by kernel_rfl) (fun _ _ _ h => h) (Or.inl ⟨by rfl, ?_⟩) (by assumption) ?_
      rotate_left
      · intro w' hSw
        (try dsimp only at hSw)
        go_simp
        try with_reducible rfl
      simp only [Act.put, List.setIfInBounds_toArray, List.set_cons_zero, List.set_cons_succ]
      refine wpAnyH_take (i := 42) (oi := ⟨some 4, _, _, _, _, _⟩) (v := ?_) rfl (by kernel_rfl) (by kernel_rfl) (by kernel_rfl) (fun _ _ _ h => h) (Or.inl ⟨by rfl, ?_⟩) (by assumption) ?_
      rotate_left
      · intro w' hSw
        (try dsimp only at hSw)
        go_simp
        try with_reducible rfl
      simp only [Act.put, List.setIfInBounds_toArray, List.set_cons_zero, List.set_cons_succ]
      refine wpAnyH_done (by kernel_rfl) ?_ _
      refine NoPanic.normal ?_
      have HE := Lib.hid (HB5.out.trans (hE4.mono HB5.out.size))
      clear hHeld hcv16
      go_wp2_with fail
      go_ret
      exact ⟨by first | rfl | (simp [*]; done), HE.out⟩

end Go.Proofs.Ytifgkmaaglaffaa.Sg
