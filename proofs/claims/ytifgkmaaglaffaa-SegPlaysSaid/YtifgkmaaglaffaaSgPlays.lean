/-
  SegPlays.
-/
import Derived.Test.YtifgkmaaglaffaaSgPlayD
import Derived.Test.YtifgkmaaglaffaaSgKeep
import Derived.Test.YtifgkmaaglaffaaUp
import Derived.Deep.RegionHeld3
namespace Go.Proofs.Ytifgkmaaglaffaa.Sg
open Go.RowKit
set_option linter.unusedVariables false
variable {B C : Nat}

theorem six (k : Int) : ∃ q : Nat, (k.tmod 6 + 6).tmod 6 = (q : Int) ∧ q < 6 ∧ -6 < k.tmod 6 ∧ k.tmod 6 < 6 := by
  have h1 : -6 < k.tmod 6 ∧ k.tmod 6 < 6 := by
    rcases Int.le_total 0 k with h | h
    · rw [Int.tmod_eq_emod_of_nonneg h]
      have := Int.emod_nonneg k (show (6 : Int) ≠ 0 by decide)
      have := Int.emod_lt_of_pos k (show (0 : Int) < 6 by decide)
      omega
    · obtain ⟨m, rfl⟩ : ∃ m, k = -m := ⟨-k, by omega⟩
      rw [Int.neg_tmod, Int.tmod_eq_emod_of_nonneg (by omega)]
      have := Int.emod_nonneg m (show (6 : Int) ≠ 0 by decide)
      have := Int.emod_lt_of_pos m (show (0 : Int) < 6 by decide)
      omega
  generalize k.tmod 6 = t at *
  have h2 : (t + 6).tmod 6 = (t + 6) % 6 := Int.tmod_eq_emod_of_nonneg (by omega)
  have h3 := Int.emod_nonneg (t + 6) (show (6 : Int) ≠ 0 by decide)
  have h4 := Int.emod_lt_of_pos (t + 6) (show (0 : Int) < 6 by decide)
  exact ⟨((t + 6) % 6).toNat, by omega, by omega, h1⟩
def playRel (W : World) (l : List StepD) (m : Nat) (v3 v5 v7 : Value) (wr : World) : Prop :=
  ∃ (i g gm : Nat) (sy wa : List UInt8) (bg : Bool), i ≤ l.length ∧ v3 = .pointer (some ⟨g, 0, none⟩) ∧ v5 = .pointer (some ⟨gm, 0, none⟩) ∧ v7 = .int .i64 i ∧ m = l.length - i ∧ (∃ vs vw, LogAt W.heap.size wr g vs vw sy wa bg) ∧ RLogAt wr gm sy wa bg ∧ W.heap.size ≤ gm ∧ sy.length + wa.length ≤ i * 206 ∧ Below W.heap.size W wr

set_option maxRecDepth 100000 in
set_option maxHeartbeats 4000000 in
theorem plays_any (a : Option Addr) (cap : Nat) (l : List StepD) (w : World) (w0 : StepsAt w.heap.size w a cap l) :
    Calls Try.prog 4 #[.slice a l.length cap] w fun e w' => e = .returned (.bool true) ∧ Below w.heap.size w w' := by
  have HST := Lib.hid w0
  have hlc := w0.len
  have hcm := w0.max
  unfold maxLen at hcm
  have HRO := Lib.hid (fun wx => ropen_any [] (by decide) wx)
  unfold ROpenR at HRO
  simp only [rdL_nil first_nil] at HRO
  clear w0
  go_enter Try.func4, Try.ntmps4
  go_wp2_with fail
  refine (open_nil w).mono ?_
  rintro e w1 ⟨g, xa, xc, vs, C, rfl, hlog1, hC, hb1⟩
  have HLOG1 := Lib.hid (hlog1.mono hC)
  have HB1 := Lib.hid hb1
  clear hlog1 hC hb1
  go_wp2_with fail
  refine (HRO.out w1).mono ?_
  rintro e w2 ⟨gm, ya, yc, rfl, -, -, hr2, hgm, hb2⟩
  have HLOG2 := Lib.hid (HLOG1.out.below hb2)
  have HR2 := Lib.hid hr2
  have HB2 := Lib.hid (HB1.out.trans (hb2.mono HB1.out.size))
  have HGM := Lib.hid (Nat.le_trans HB1.out.size hgm)
  clear hr2 hb2 hgm
  by_cases h80 : 80 < l.length
  · have hi : (80 : Int) < (l.length : Int) := by omega
    clear h80
    go_wp2_with fail
    refine (told_any w2).mono ?_
    rintro e w9 ⟨rfl, hb9⟩
    have HB9 := Lib.hid (HB2.out.trans (hb9.mono HB2.out.size))
    clear hb9
    go_wp2_with fail
    go_ret
    exact ⟨rfl, HB9.out⟩
  have hi : ¬ (80 : Int) < (l.length : Int) := by omega
  go_wp2_with fail
  go_loopg [3, 5, 7] l.length (playRel w l)
  case atStart => exact ⟨0, g, gm, [], [], false, Nat.zero_le _, rfl, rfl, rfl, rfl, ⟨vs, _, HLOG2.out⟩, HR2.out, HGM.out, by simp, HB2.out⟩
  case round =>
    clear HLOG1 HB1 HLOG2 HR2 HB2 HGM HRO
    obtain ⟨i, g, gm, sy, wa, bg, hil, rfl, rfl, rfl, rfl, ⟨vs, vw, hlog⟩, href, hgm, hsz, hbw⟩ := hrel
    have HBW := Lib.hid hbw
    have HGM := Lib.hid hgm
    have HSZ := Lib.hid hsz
    have HLOG := Lib.hid hlog
    have HREF := Lib.hid href
    clear hbw hgm hsz hlog href
    by_cases hlt : i < l.length
    case neg =>
      obtain rfl : i = l.length := by omega
      go_wp2_with fail
      refine (told_any wr).mono ?_
      rintro e w9 ⟨rfl, hb9⟩
      have HB9 := Lib.hid (HBW.out.trans (hb9.mono HBW.out.size))
      clear hb9
      go_wp2_with fail
      go_ret
      exact ⟨rfl, HB9.out⟩
    have hlti : (i : Int) < (l.length : Int) := by omega
    have h0i : (0 : Int) ≤ (i : Int) := by omega
    have HI80 : Hid (i < 80) := Lib.hid (by omega)
    obtain ⟨b, o, da, dc, rfl, hbl, k0', k1', k2', hdl, hdm, hdat, hk1, hk2⟩ := HST.out.get i hlt
    have k0 := (HBW.out.cell (p := ⟨b, o + i * 3, none⟩) hbl).trans k0'
    have k1 := (HBW.out.cell (p := ⟨b, o + i * 3 + 1, none⟩) hbl).trans k1'
    have k2 := (HBW.out.cell (p := ⟨b, o + i * 3 + 2, none⟩) hbl).trans k2'
    clear k0' k1' k2'
    generalize l[i].kind = kd at *
    generalize l[i].num = nm at *
    obtain ⟨d, hd⟩ : ∃ d, d = l[i].b := ⟨_, rfl⟩
    rw [← hd] at k2 hdl hdat
    obtain ⟨n, hn⟩ : ∃ n, n = d.length := ⟨_, rfl⟩
    rw [← hn] at k2
    have HN := Lib.hid hn
    have HDL := Lib.hid hdl
    have HDM := Lib.hid hdm
    have HDAT := Lib.hid hdat
    obtain ⟨w1, hw1⟩ : ∃ w1, w1 = wr.alloc (.cells #[.int .i64 kd, .int .i64 nm, .slice da n dc] 49) := ⟨_, rfl⟩
    obtain ⟨ob, hob⟩ : ∃ ob, ob = wr.heap.size := ⟨_, rfl⟩
    have hal : Below wr.heap.size wr w1 := by rw [hw1]; exact below_alloc _ _
    have htw : Two w w1 g gm ob vs kd nm da n dc sy wa sy wa bg bg := ⟨⟨vw, HLOG.out.below hal⟩, HREF.out.below hal, by rw [hw1, hob]; exact heap_alloc_new _ _, HBW.out.trans (hal.mono HBW.out.size)⟩
    have HTW := Lib.hid htw
    obtain ⟨⟨x0, x1, x2⟩, -⟩ := box3 htw.box
    have HW1 := Lib.hid hw1
    have HOB := Lib.hid hob
    obtain ⟨q, hq, hq6, ht1, ht2⟩ := six kd
    have hwt : IntKind.i64.wrap (kd.tmod 6 + 6) = kd.tmod 6 + 6 := IntWalk.i64_in _ (by omega)
    clear hdl hdm hdat hd hn hal htw hw1 hob
    by_cases hlen : 200 < n
    · have hli : (200 : Int) < (n : Int) := by omega
      clear hlen
      go_wp2_with fail
      rw [← HOB.out, ← HW1.out]
      refine (told_any w1).mono ?_
      rintro e w9 ⟨rfl, hb9⟩
      have HB9 := Lib.hid (HTW.out.bel.trans (hb9.mono HTW.out.bel.size))
      clear hb9 x0 x1 x2 k0 k1 k2
      go_wp2_with fail
      go_ret
      exact ⟨rfl, HB9.out⟩
    have hli : ¬ (200 : Int) < (n : Int) := by omega
    have HN2 : Hid (d.length ≤ 200) := Lib.hid (by rw [← HN.out]; omega)
    clear hlen
    have HK1 := Lib.hid (And.intro hk1 hk2)
    have HKEEP := Lib.hid (show ∀ wx, OBox wx ob kd nm da n dc → Below w.heap.size w wx → (wx.cell? ⟨ob, 2, none⟩ = some (.slice da n dc) ∧ (convert 22 9 (.slice da n dc)).run Try.prog wx = .ok (.string ⟨d.toArray⟩) wx) ∧ Below w.heap.size w wx from
      fun wx h1 h2 => ⟨⟨(box3 h1).1.2.2, by have := conv_str dc (HDAT.out.under h2); rwa [← HN.out] at this⟩, h2⟩)
    have hqs : q = 0 ∨ q = 1 ∨ q = 2 ∨ q = 3 ∨ q = 4 ∨ q = 5 := by omega
    rcases hqs with rfl | rfl | rfl | rfl | rfl | rfl
    · have hq0 : (kd.tmod 6 + 6).tmod 6 = 0 := by rw [hq]; rfl
      clear hq
      go_wp2_with fail
      rw [← HOB.out, ← HW1.out]
      clear k0 k1 k2
      have HTW0 := Lib.hid (HTW.out.same (below_drew w1))
      have HL1 : Hid (wa.length ≤ 900000 ∧ wa.length ≤ 1000000 ∧ d.length ≤ 1000000) := Lib.hid (by have := HSZ.out; have := HI80.out; have := HN2.out; omega)
      go_region_held3 (fun wx => (wx.cell? ⟨ob, 2, none⟩ = some (.slice da n dc) ∧ (convert 22 9 (.slice da n dc)).run Try.prog wx = .ok (.string ⟨d.toArray⟩) wx) ∧ Below w.heap.size w wx)
        (first | exact HKEEP.out _ HTW0.out.box HTW0.out.bel | exact HKEEP.out _ HTW.out.box HTW.out.bel | exact HKEEP.out _ HT2.out.box HT2.out.bel | exact HKEEP.out _ HT1.out.box HT1.out.bel | assumption)
        (first
          | (go_at_call 23; refine (HTW0.out.put HN.out HDL.out HDM.out HDAT.out HL1.out.1).mono ?_; rintro e w13 ⟨rfl, ht1⟩; have HT1 := Lib.hid ht1; clear ht1)
          | (go_at_call 24; refine (HT1.out.rput HL1.out.2.2 HL1.out.2.1 HGM.out).mono ?_; rintro e w14 ⟨rfl, ht2⟩; have HT2 := Lib.hid ht2; clear ht2))
      all_goals
        rename_i hHeld
        clear hHeld
        have HSN : Hid (sy.length + ((wa ++ recL d)).length ≤ (i + 1) * 206) := Lib.hid (by
          have h1 : (recL d).length ≤ 206 := by
            unfold recL
            split
            · rw [recF_length]; have := HN2.out; omega
            · simp
          rw [List.length_append]
          have := HSZ.out
          omega)
        have HTN := HT2
        obtain ⟨vwn, hln⟩ := HTN.out.log
        have HLN := Lib.hid hln
        have HRN := Lib.hid HTN.out.ref
        have HBN := Lib.hid HTN.out.bel
        clear hln
        have HKN := Lib.hid (show ∀ wx, Below w14.heap.size w14 wx → (wx.cell? ⟨gm, 0, none⟩ = some (.string ⟨(sy).toArray⟩) ∧ wx.cell? ⟨gm, 1, none⟩ = some (.string ⟨((wa ++ recL d)).toArray⟩)) ∧ Below w14.heap.size w14 wx from
          fun wx h => ⟨⟨(box3 (HRN.out.below h)).1.1, (box3 (HRN.out.below h)).1.2.1⟩, h⟩)
        have HBYN := Lib.hid fun (wx : World) (h : Below w14.heap.size w14 wx) => bytes_any wx (HLN.out.below h) (by have := HSN.out; have := HI80.out; omega)
        have HWAN := Lib.hid fun (wx : World) (h : Below w14.heap.size w14 wx) => waits_any wx (HLN.out.below h)
        have HSN2 := Lib.hid HSN.out
        obtain ⟨SY, hSY⟩ : ∃ SY, SY = sy := ⟨_, rfl⟩
        obtain ⟨WA, hWA⟩ : ∃ WA, WA = (wa ++ recL d) := ⟨_, rfl⟩
        obtain ⟨BG, hBG⟩ : ∃ BG, BG = bg := ⟨_, rfl⟩
        rw [← hSY, ← hWA] at HKN HSN2
        rw [← hSY, ← hWA, ← hBG] at HLN HRN
        rw [← hSY] at HBYN
        rw [← hWA] at HWAN
        clear hSY hWA hBG
        go_wp2_with fail
        refine wp_region_noPanic ?_
        refine wp_region_held_drew (S := (fun wx => (wx.cell? ⟨gm, 0, none⟩ = some (.string ⟨SY.toArray⟩) ∧ wx.cell? ⟨gm, 1, none⟩ = some (.string ⟨WA.toArray⟩)) ∧ Below w14.heap.size w14 wx)) (by kernel_rfl) ?_ (fun hHeld => ?_)
        · exact HKN.out _ (below_drew _)
        refine wpAnyH_take (i := 0) (oi := ⟨some 113, _, _, _, _, _⟩) (v := ?_) rfl (by kernel_rfl) (by kernel_rfl) (by kernel_rfl) (fun _ _ _ h => h) (Or.inl ⟨by rfl, ?_⟩) (by assumption) ?_
        rotate_left
        · intro w' hSw
          (try dsimp only at hSw)
          go_simp
          try with_reducible rfl
        simp only [Act.put, List.setIfInBounds_toArray, List.set_cons_zero, List.set_cons_succ]
        refine wpAnyH_take (i := 3) (oi := ⟨some 116, _, _, _, _, _⟩) (v := ?_) rfl (by kernel_rfl) (by kernel_rfl) (by kernel_rfl) (fun _ _ _ h => h) (Or.inl ⟨by rfl, ?_⟩) (by assumption) ?_
        rotate_left
        · intro w' hSw
          (try dsimp only at hSw)
          go_simp
          try with_reducible rfl
        simp only [Act.put, List.setIfInBounds_toArray, List.set_cons_zero, List.set_cons_succ]
        refine wpAnyH_take (i := 4) (oi := ⟨some 117, _, _, _, _, _⟩) (v := ?_) rfl (by kernel_rfl) (by kernel_rfl) (by kernel_rfl) (fun _ _ _ h => h) (Or.inl ⟨by rfl, ?_⟩) (by assumption) ?_
        rotate_left
        · intro w' hSw
          (try dsimp only at hSw)
          go_simp
          try with_reducible rfl
        simp only [Act.put, List.setIfInBounds_toArray, List.set_cons_zero, List.set_cons_succ]
        refine wpAnyH_take (i := 5) (oi := ⟨some 118, _, _, _, _, _⟩) (v := ?_) rfl (by kernel_rfl) (by kernel_rfl) (by kernel_rfl) (fun _ _ _ h => h) (Or.inl ⟨by rfl, ?_⟩) (by assumption) ?_
        rotate_left
        · intro w' hSw
          (try dsimp only at hSw)
          go_simp
          try with_reducible rfl
        simp only [Act.put, List.setIfInBounds_toArray, List.set_cons_zero, List.set_cons_succ]
        refine wpAnyH_take (i := 6) (oi := ⟨some 119, _, _, _, _, _⟩) (v := ?_) rfl (by kernel_rfl) (by kernel_rfl) (by kernel_rfl) (fun _ _ _ h => h) (Or.inl ⟨by rfl, ?_⟩) (by assumption) ?_
        rotate_left
        · intro w' hSw
          (try dsimp only at hSw)
          go_simp
          try with_reducible rfl
        simp only [Act.put, List.setIfInBounds_toArray, List.set_cons_zero, List.set_cons_succ]
        refine wpAnyH_ready (rs := [1]) (by kernel_rfl) (by simp) ?_
        refine AllReadyH.cons (o := ⟨some 114, _, _, _, _, _⟩) rfl (fun K hK => ?_) AllReadyH.nil
        go_simp
        go_at_call 20
        refine (HBYN.out _ hHeld.2).mono ?_
        rintro e w16 ⟨v16, rfl, hbf16, hb16⟩
        obtain ⟨a16, c16, rfl, -, -, hat16⟩ := hbf16.bytes
        have hcv16 := conv_str c16 hat16
        have hEN := hHeld.2.trans (hb16.mono hHeld.2.size)
        clear hb16 hbf16 hat16 hHeld
        refine hK.out _ _ ?_ (fun hHeld => ?_)
        · exact HKN.out _ hEN
        clear hK K
        try simp only [Act.put, List.setIfInBounds_toArray, List.set_cons_zero, List.set_cons_succ]
        refine wpAnyH_up (S' := (fun wx => ((wx.cell? ⟨gm, 0, none⟩ = some (.string ⟨SY.toArray⟩) ∧ wx.cell? ⟨gm, 1, none⟩ = some (.string ⟨WA.toArray⟩)) ∧ Below w14.heap.size w14 wx) ∧ (convert 22 9 (.slice a16 SY.length c16)).run Try.prog wx = .ok (.string ⟨SY.toArray⟩) wx)) (fun wx h => h.1) _ _ _ _ ?_
        have hHeld2 := And.intro hHeld hcv16
        clear hHeld
        have hHeld := hHeld2
        clear hHeld2
        refine wpAnyH_take (i := 2) (oi := ⟨some 115, _, _, _, _, _⟩) (v := ?_) rfl (by kernel_rfl) (by kernel_rfl) (by kernel_rfl) (fun _ _ _ h => h) (Or.inl ⟨by rfl, ?_⟩) (by assumption) ?_
        rotate_left
        · intro w' hSw
          (try dsimp only at hSw)
          go_simp
          try with_reducible rfl
        simp only [Act.put, List.setIfInBounds_toArray, List.set_cons_zero, List.set_cons_succ]
        refine wpAnyH_take (i := 7) (oi := ⟨some 120, _, _, _, _, _⟩) (v := ?_) rfl (by kernel_rfl) (by kernel_rfl) (by kernel_rfl) (fun _ _ _ h => h) (Or.inl ⟨by rfl, ?_⟩) (by assumption) ?_
        rotate_left
        · intro w' hSw
          (try dsimp only at hSw)
          go_simp
          try with_reducible rfl
        simp only [Act.put, List.setIfInBounds_toArray, List.set_cons_zero, List.set_cons_succ]
        refine wpAnyH_take (i := 8) (oi := ⟨some 121, _, _, _, _, _⟩) (v := ?_) rfl (by kernel_rfl) (by kernel_rfl) (by kernel_rfl) (fun _ _ _ h => h) (Or.inl ⟨by rfl, ?_⟩) (by assumption) ?_
        rotate_left
        · intro w' hSw
          (try dsimp only at hSw)
          go_simp
          try with_reducible rfl
        simp only [Act.put, List.setIfInBounds_toArray, List.set_cons_zero, List.set_cons_succ]
        refine wpAnyH_take (i := 9) (oi := ⟨some 122, _, _, _, _, _⟩) (v := ?_) rfl (by kernel_rfl) (by kernel_rfl) (by kernel_rfl) (fun _ _ _ h => h) (Or.inl ⟨by rfl, ?_⟩) (by assumption) ?_
        rotate_left
        · intro w' hSw
          (try dsimp only at hSw)
          go_simp
          try with_reducible rfl
        simp only [Act.put, List.setIfInBounds_toArray, List.set_cons_zero, List.set_cons_succ]
        refine wpAnyH_take (i := 11) (oi := ⟨some 124, _, _, _, _, _⟩) (v := ?_) rfl (by kernel_rfl) (by kernel_rfl) (by kernel_rfl) (fun _ _ _ h => h) (Or.inl ⟨by rfl, ?_⟩) (by assumption) ?_
        rotate_left
        · intro w' hSw
          (try dsimp only at hSw)
          go_simp
          try with_reducible rfl
        simp only [Act.put, List.setIfInBounds_toArray, List.set_cons_zero, List.set_cons_succ]
        refine wpAnyH_take (i := 12) (oi := ⟨some 125, _, _, _, _, _⟩) (v := ?_) rfl (by kernel_rfl) (by kernel_rfl) (by kernel_rfl) (fun _ _ _ h => h) (Or.inl ⟨by rfl, ?_⟩) (by assumption) ?_
        rotate_left
        · intro w' hSw
          (try dsimp only at hSw)
          go_simp
          try with_reducible rfl
        simp only [Act.put, List.setIfInBounds_toArray, List.set_cons_zero, List.set_cons_succ]
        refine wpAnyH_take (i := 13) (oi := ⟨some 126, _, _, _, _, _⟩) (v := ?_) rfl (by kernel_rfl) (by kernel_rfl) (by kernel_rfl) (fun _ _ _ h => h) (Or.inl ⟨by rfl, ?_⟩) (by assumption) ?_
        rotate_left
        · intro w' hSw
          (try dsimp only at hSw)
          go_simp
          try with_reducible rfl
        simp only [Act.put, List.setIfInBounds_toArray, List.set_cons_zero, List.set_cons_succ]
        refine wpAnyH_take (i := 14) (oi := ⟨some 127, _, _, _, _, _⟩) (v := ?_) rfl (by kernel_rfl) (by kernel_rfl) (by kernel_rfl) (fun _ _ _ h => h) (Or.inl ⟨by rfl, ?_⟩) (by assumption) ?_
        rotate_left
        · intro w' hSw
          (try dsimp only at hSw)
          go_simp
          try with_reducible rfl
        simp only [Act.put, List.setIfInBounds_toArray, List.set_cons_zero, List.set_cons_succ]
        refine wpAnyH_take (i := 15) (oi := ⟨some 128, _, _, _, _, _⟩) (v := ?_) rfl (by kernel_rfl) (by kernel_rfl) (by kernel_rfl) (fun _ _ _ h => h) (Or.inl ⟨by rfl, ?_⟩) (by assumption) ?_
        rotate_left
        · intro w' hSw
          (try dsimp only at hSw)
          go_simp
          try with_reducible rfl
        simp only [Act.put, List.setIfInBounds_toArray, List.set_cons_zero, List.set_cons_succ]
        refine wpAnyH_ready (rs := [10]) (by kernel_rfl) (by simp) ?_
        refine AllReadyH.cons (o := ⟨some 123, _, _, _, _, _⟩) rfl (fun K hK => ?_) AllReadyH.nil
        go_simp
        go_at_call 21
        refine (HWAN.out _ hEN).mono ?_
        rintro e wx ⟨rfl, rfl⟩
        refine hK.out _ _ ?_ (fun hHeld => ?_)
        · exact hHeld
        clear hK K
        try simp only [Act.put, List.setIfInBounds_toArray, List.set_cons_zero, List.set_cons_succ]
        refine wpAnyH_take (i := 16) (oi := ⟨some 129, _, _, _, _, _⟩) (v := ?_) rfl (by kernel_rfl) (by kernel_rfl) (by kernel_rfl) (fun _ _ _ h => h) (Or.inl ⟨by rfl, ?_⟩) (by assumption) ?_
        rotate_left
        · intro w' hSw
          (try dsimp only at hSw)
          go_simp
          try with_reducible rfl
        simp only [Act.put, List.setIfInBounds_toArray, List.set_cons_zero, List.set_cons_succ]
        refine wpAnyH_take (i := 17) (oi := ⟨some 130, _, _, _, _, _⟩) (v := ?_) rfl (by kernel_rfl) (by kernel_rfl) (by kernel_rfl) (fun _ _ _ h => h) (Or.inl ⟨by rfl, ?_⟩) (by assumption) ?_
        rotate_left
        · intro w' hSw
          (try dsimp only at hSw)
          go_simp
          try with_reducible rfl
        simp only [Act.put, List.setIfInBounds_toArray, List.set_cons_zero, List.set_cons_succ]
        refine wpAnyH_done (by kernel_rfl) ?_ _
        refine NoPanic.normal ?_

        have HEN := Lib.hid hEN
        try clear hcv16
        go_wp2_with fail
        go_roundg (l.length - (i + 1))
        case measure => omega
        case rel => exact ⟨i + 1, g, gm, SY, WA, BG, by omega, rfl, rfl, by simp, rfl, ⟨vs, vwn, HLN.out.below HEN.out⟩, HRN.out.below HEN.out, HGM.out, HSN2.out, HBN.out.trans (HEN.out.mono HBN.out.size)⟩
    · have hq0 : (kd.tmod 6 + 6).tmod 6 = 1 := by rw [hq]; rfl
      clear hq
      go_wp2_with fail
      rw [← HOB.out, ← HW1.out]
      clear k0 k1 k2
      have HTW0 := Lib.hid (HTW.out.same (below_drew w1))
      have HL1 : Hid (wa.length ≤ 900000 ∧ wa.length ≤ 1000000 ∧ d.length ≤ 1000000) := Lib.hid (by have := HSZ.out; have := HI80.out; have := HN2.out; omega)
      go_region_held3 (fun wx => (wx.cell? ⟨ob, 2, none⟩ = some (.slice da n dc) ∧ (convert 22 9 (.slice da n dc)).run Try.prog wx = .ok (.string ⟨d.toArray⟩) wx) ∧ Below w.heap.size w wx)
        (first | exact HKEEP.out _ HTW0.out.box HTW0.out.bel | exact HKEEP.out _ HTW.out.box HTW.out.bel | exact HKEEP.out _ HT2.out.box HT2.out.bel | exact HKEEP.out _ HT1.out.box HT1.out.bel | assumption)
        (first
          | (go_at_call 23; refine (HTW0.out.put HN.out HDL.out HDM.out HDAT.out HL1.out.1).mono ?_; rintro e w13 ⟨rfl, ht1⟩; have HT1 := Lib.hid ht1; clear ht1)
          | (go_at_call 24; refine (HT1.out.rput HL1.out.2.2 HL1.out.2.1 HGM.out).mono ?_; rintro e w14 ⟨rfl, ht2⟩; have HT2 := Lib.hid ht2; clear ht2))
      all_goals
        rename_i hHeld
        clear hHeld
        have HSN : Hid (sy.length + ((wa ++ recL d)).length ≤ (i + 1) * 206) := Lib.hid (by
          have h1 : (recL d).length ≤ 206 := by
            unfold recL
            split
            · rw [recF_length]; have := HN2.out; omega
            · simp
          rw [List.length_append]
          have := HSZ.out
          omega)
        have HTN := HT2
        obtain ⟨vwn, hln⟩ := HTN.out.log
        have HLN := Lib.hid hln
        have HRN := Lib.hid HTN.out.ref
        have HBN := Lib.hid HTN.out.bel
        clear hln
        have HKN := Lib.hid (show ∀ wx, Below w14.heap.size w14 wx → (wx.cell? ⟨gm, 0, none⟩ = some (.string ⟨(sy).toArray⟩) ∧ wx.cell? ⟨gm, 1, none⟩ = some (.string ⟨((wa ++ recL d)).toArray⟩)) ∧ Below w14.heap.size w14 wx from
          fun wx h => ⟨⟨(box3 (HRN.out.below h)).1.1, (box3 (HRN.out.below h)).1.2.1⟩, h⟩)
        have HBYN := Lib.hid fun (wx : World) (h : Below w14.heap.size w14 wx) => bytes_any wx (HLN.out.below h) (by have := HSN.out; have := HI80.out; omega)
        have HWAN := Lib.hid fun (wx : World) (h : Below w14.heap.size w14 wx) => waits_any wx (HLN.out.below h)
        have HSN2 := Lib.hid HSN.out
        obtain ⟨SY, hSY⟩ : ∃ SY, SY = sy := ⟨_, rfl⟩
        obtain ⟨WA, hWA⟩ : ∃ WA, WA = (wa ++ recL d) := ⟨_, rfl⟩
        obtain ⟨BG, hBG⟩ : ∃ BG, BG = bg := ⟨_, rfl⟩
        rw [← hSY, ← hWA] at HKN HSN2
        rw [← hSY, ← hWA, ← hBG] at HLN HRN
        rw [← hSY] at HBYN
        rw [← hWA] at HWAN
        clear hSY hWA hBG
        go_wp2_with fail
        refine wp_region_noPanic ?_
        refine wp_region_held_drew (S := (fun wx => (wx.cell? ⟨gm, 0, none⟩ = some (.string ⟨SY.toArray⟩) ∧ wx.cell? ⟨gm, 1, none⟩ = some (.string ⟨WA.toArray⟩)) ∧ Below w14.heap.size w14 wx)) (by kernel_rfl) ?_ (fun hHeld => ?_)
        · exact HKN.out _ (below_drew _)
        refine wpAnyH_take (i := 0) (oi := ⟨some 113, _, _, _, _, _⟩) (v := ?_) rfl (by kernel_rfl) (by kernel_rfl) (by kernel_rfl) (fun _ _ _ h => h) (Or.inl ⟨by rfl, ?_⟩) (by assumption) ?_
        rotate_left
        · intro w' hSw
          (try dsimp only at hSw)
          go_simp
          try with_reducible rfl
        simp only [Act.put, List.setIfInBounds_toArray, List.set_cons_zero, List.set_cons_succ]
        refine wpAnyH_take (i := 3) (oi := ⟨some 116, _, _, _, _, _⟩) (v := ?_) rfl (by kernel_rfl) (by kernel_rfl) (by kernel_rfl) (fun _ _ _ h => h) (Or.inl ⟨by rfl, ?_⟩) (by assumption) ?_
        rotate_left
        · intro w' hSw
          (try dsimp only at hSw)
          go_simp
          try with_reducible rfl
        simp only [Act.put, List.setIfInBounds_toArray, List.set_cons_zero, List.set_cons_succ]
        refine wpAnyH_take (i := 4) (oi := ⟨some 117, _, _, _, _, _⟩) (v := ?_) rfl (by kernel_rfl) (by kernel_rfl) (by kernel_rfl) (fun _ _ _ h => h) (Or.inl ⟨by rfl, ?_⟩) (by assumption) ?_
        rotate_left
        · intro w' hSw
          (try dsimp only at hSw)
          go_simp
          try with_reducible rfl
        simp only [Act.put, List.setIfInBounds_toArray, List.set_cons_zero, List.set_cons_succ]
        refine wpAnyH_take (i := 5) (oi := ⟨some 118, _, _, _, _, _⟩) (v := ?_) rfl (by kernel_rfl) (by kernel_rfl) (by kernel_rfl) (fun _ _ _ h => h) (Or.inl ⟨by rfl, ?_⟩) (by assumption) ?_
        rotate_left
        · intro w' hSw
          (try dsimp only at hSw)
          go_simp
          try with_reducible rfl
        simp only [Act.put, List.setIfInBounds_toArray, List.set_cons_zero, List.set_cons_succ]
        refine wpAnyH_take (i := 6) (oi := ⟨some 119, _, _, _, _, _⟩) (v := ?_) rfl (by kernel_rfl) (by kernel_rfl) (by kernel_rfl) (fun _ _ _ h => h) (Or.inl ⟨by rfl, ?_⟩) (by assumption) ?_
        rotate_left
        · intro w' hSw
          (try dsimp only at hSw)
          go_simp
          try with_reducible rfl
        simp only [Act.put, List.setIfInBounds_toArray, List.set_cons_zero, List.set_cons_succ]
        refine wpAnyH_ready (rs := [1]) (by kernel_rfl) (by simp) ?_
        refine AllReadyH.cons (o := ⟨some 114, _, _, _, _, _⟩) rfl (fun K hK => ?_) AllReadyH.nil
        go_simp
        go_at_call 20
        refine (HBYN.out _ hHeld.2).mono ?_
        rintro e w16 ⟨v16, rfl, hbf16, hb16⟩
        obtain ⟨a16, c16, rfl, -, -, hat16⟩ := hbf16.bytes
        have hcv16 := conv_str c16 hat16
        have hEN := hHeld.2.trans (hb16.mono hHeld.2.size)
        clear hb16 hbf16 hat16 hHeld
        refine hK.out _ _ ?_ (fun hHeld => ?_)
        · exact HKN.out _ hEN
        clear hK K
        try simp only [Act.put, List.setIfInBounds_toArray, List.set_cons_zero, List.set_cons_succ]
        refine wpAnyH_up (S' := (fun wx => ((wx.cell? ⟨gm, 0, none⟩ = some (.string ⟨SY.toArray⟩) ∧ wx.cell? ⟨gm, 1, none⟩ = some (.string ⟨WA.toArray⟩)) ∧ Below w14.heap.size w14 wx) ∧ (convert 22 9 (.slice a16 SY.length c16)).run Try.prog wx = .ok (.string ⟨SY.toArray⟩) wx)) (fun wx h => h.1) _ _ _ _ ?_
        have hHeld2 := And.intro hHeld hcv16
        clear hHeld
        have hHeld := hHeld2
        clear hHeld2
        refine wpAnyH_take (i := 2) (oi := ⟨some 115, _, _, _, _, _⟩) (v := ?_) rfl (by kernel_rfl) (by kernel_rfl) (by kernel_rfl) (fun _ _ _ h => h) (Or.inl ⟨by rfl, ?_⟩) (by assumption) ?_
        rotate_left
        · intro w' hSw
          (try dsimp only at hSw)
          go_simp
          try with_reducible rfl
        simp only [Act.put, List.setIfInBounds_toArray, List.set_cons_zero, List.set_cons_succ]
        refine wpAnyH_take (i := 7) (oi := ⟨some 120, _, _, _, _, _⟩) (v := ?_) rfl (by kernel_rfl) (by kernel_rfl) (by kernel_rfl) (fun _ _ _ h => h) (Or.inl ⟨by rfl, ?_⟩) (by assumption) ?_
        rotate_left
        · intro w' hSw
          (try dsimp only at hSw)
          go_simp
          try with_reducible rfl
        simp only [Act.put, List.setIfInBounds_toArray, List.set_cons_zero, List.set_cons_succ]
        refine wpAnyH_take (i := 8) (oi := ⟨some 121, _, _, _, _, _⟩) (v := ?_) rfl (by kernel_rfl) (by kernel_rfl) (by kernel_rfl) (fun _ _ _ h => h) (Or.inl ⟨by rfl, ?_⟩) (by assumption) ?_
        rotate_left
        · intro w' hSw
          (try dsimp only at hSw)
          go_simp
          try with_reducible rfl
        simp only [Act.put, List.setIfInBounds_toArray, List.set_cons_zero, List.set_cons_succ]
        refine wpAnyH_take (i := 9) (oi := ⟨some 122, _, _, _, _, _⟩) (v := ?_) rfl (by kernel_rfl) (by kernel_rfl) (by kernel_rfl) (fun _ _ _ h => h) (Or.inl ⟨by rfl, ?_⟩) (by assumption) ?_
        rotate_left
        · intro w' hSw
          (try dsimp only at hSw)
          go_simp
          try with_reducible rfl
        simp only [Act.put, List.setIfInBounds_toArray, List.set_cons_zero, List.set_cons_succ]
        refine wpAnyH_take (i := 11) (oi := ⟨some 124, _, _, _, _, _⟩) (v := ?_) rfl (by kernel_rfl) (by kernel_rfl) (by kernel_rfl) (fun _ _ _ h => h) (Or.inl ⟨by rfl, ?_⟩) (by assumption) ?_
        rotate_left
        · intro w' hSw
          (try dsimp only at hSw)
          go_simp
          try with_reducible rfl
        simp only [Act.put, List.setIfInBounds_toArray, List.set_cons_zero, List.set_cons_succ]
        refine wpAnyH_take (i := 12) (oi := ⟨some 125, _, _, _, _, _⟩) (v := ?_) rfl (by kernel_rfl) (by kernel_rfl) (by kernel_rfl) (fun _ _ _ h => h) (Or.inl ⟨by rfl, ?_⟩) (by assumption) ?_
        rotate_left
        · intro w' hSw
          (try dsimp only at hSw)
          go_simp
          try with_reducible rfl
        simp only [Act.put, List.setIfInBounds_toArray, List.set_cons_zero, List.set_cons_succ]
        refine wpAnyH_take (i := 13) (oi := ⟨some 126, _, _, _, _, _⟩) (v := ?_) rfl (by kernel_rfl) (by kernel_rfl) (by kernel_rfl) (fun _ _ _ h => h) (Or.inl ⟨by rfl, ?_⟩) (by assumption) ?_
        rotate_left
        · intro w' hSw
          (try dsimp only at hSw)
          go_simp
          try with_reducible rfl
        simp only [Act.put, List.setIfInBounds_toArray, List.set_cons_zero, List.set_cons_succ]
        refine wpAnyH_take (i := 14) (oi := ⟨some 127, _, _, _, _, _⟩) (v := ?_) rfl (by kernel_rfl) (by kernel_rfl) (by kernel_rfl) (fun _ _ _ h => h) (Or.inl ⟨by rfl, ?_⟩) (by assumption) ?_
        rotate_left
        · intro w' hSw
          (try dsimp only at hSw)
          go_simp
          try with_reducible rfl
        simp only [Act.put, List.setIfInBounds_toArray, List.set_cons_zero, List.set_cons_succ]
        refine wpAnyH_take (i := 15) (oi := ⟨some 128, _, _, _, _, _⟩) (v := ?_) rfl (by kernel_rfl) (by kernel_rfl) (by kernel_rfl) (fun _ _ _ h => h) (Or.inl ⟨by rfl, ?_⟩) (by assumption) ?_
        rotate_left
        · intro w' hSw
          (try dsimp only at hSw)
          go_simp
          try with_reducible rfl
        simp only [Act.put, List.setIfInBounds_toArray, List.set_cons_zero, List.set_cons_succ]
        refine wpAnyH_ready (rs := [10]) (by kernel_rfl) (by simp) ?_
        refine AllReadyH.cons (o := ⟨some 123, _, _, _, _, _⟩) rfl (fun K hK => ?_) AllReadyH.nil
        go_simp
        go_at_call 21
        refine (HWAN.out _ hEN).mono ?_
        rintro e wx ⟨rfl, rfl⟩
        refine hK.out _ _ ?_ (fun hHeld => ?_)
        · exact hHeld
        clear hK K
        try simp only [Act.put, List.setIfInBounds_toArray, List.set_cons_zero, List.set_cons_succ]
        refine wpAnyH_take (i := 16) (oi := ⟨some 129, _, _, _, _, _⟩) (v := ?_) rfl (by kernel_rfl) (by kernel_rfl) (by kernel_rfl) (fun _ _ _ h => h) (Or.inl ⟨by rfl, ?_⟩) (by assumption) ?_
        rotate_left
        · intro w' hSw
          (try dsimp only at hSw)
          go_simp
          try with_reducible rfl
        simp only [Act.put, List.setIfInBounds_toArray, List.set_cons_zero, List.set_cons_succ]
        refine wpAnyH_take (i := 17) (oi := ⟨some 130, _, _, _, _, _⟩) (v := ?_) rfl (by kernel_rfl) (by kernel_rfl) (by kernel_rfl) (fun _ _ _ h => h) (Or.inl ⟨by rfl, ?_⟩) (by assumption) ?_
        rotate_left
        · intro w' hSw
          (try dsimp only at hSw)
          go_simp
          try with_reducible rfl
        simp only [Act.put, List.setIfInBounds_toArray, List.set_cons_zero, List.set_cons_succ]
        refine wpAnyH_done (by kernel_rfl) ?_ _
        refine NoPanic.normal ?_

        have HEN := Lib.hid hEN
        try clear hcv16
        go_wp2_with fail
        go_roundg (l.length - (i + 1))
        case measure => omega
        case rel => exact ⟨i + 1, g, gm, SY, WA, BG, by omega, rfl, rfl, by simp, rfl, ⟨vs, vwn, HLN.out.below HEN.out⟩, HRN.out.below HEN.out, HGM.out, HSN2.out, HBN.out.trans (HEN.out.mono HBN.out.size)⟩
    · have hq0 : (kd.tmod 6 + 6).tmod 6 = 2 := by rw [hq]; rfl
      clear hq
      go_wp2_with fail
      rw [← HOB.out, ← HW1.out]
      clear k0 k1 k2
      have HTW0 := Lib.hid (HTW.out.same (below_drew w1))
      have HL1 : Hid (wa.length ≤ 900000 ∧ wa.length ≤ 1000000 ∧ d.length ≤ 1000000) := Lib.hid (by have := HSZ.out; have := HI80.out; have := HN2.out; omega)
      go_region_held3 (fun wx => (wx.cell? ⟨ob, 2, none⟩ = some (.slice da n dc) ∧ (convert 22 9 (.slice da n dc)).run Try.prog wx = .ok (.string ⟨d.toArray⟩) wx) ∧ Below w.heap.size w wx)
        (first | exact HKEEP.out _ HTW0.out.box HTW0.out.bel | exact HKEEP.out _ HTW.out.box HTW.out.bel | exact HKEEP.out _ HT2.out.box HT2.out.bel | exact HKEEP.out _ HT1.out.box HT1.out.bel | assumption)
        (first
          | (go_at_call 23; refine (HTW0.out.put HN.out HDL.out HDM.out HDAT.out HL1.out.1).mono ?_; rintro e w13 ⟨rfl, ht1⟩; have HT1 := Lib.hid ht1; clear ht1)
          | (go_at_call 24; refine (HT1.out.rput HL1.out.2.2 HL1.out.2.1 HGM.out).mono ?_; rintro e w14 ⟨rfl, ht2⟩; have HT2 := Lib.hid ht2; clear ht2))
      all_goals
        rename_i hHeld
        clear hHeld
        have HSN : Hid (sy.length + ((wa ++ recL d)).length ≤ (i + 1) * 206) := Lib.hid (by
          have h1 : (recL d).length ≤ 206 := by
            unfold recL
            split
            · rw [recF_length]; have := HN2.out; omega
            · simp
          rw [List.length_append]
          have := HSZ.out
          omega)
        have HTN := HT2
        obtain ⟨vwn, hln⟩ := HTN.out.log
        have HLN := Lib.hid hln
        have HRN := Lib.hid HTN.out.ref
        have HBN := Lib.hid HTN.out.bel
        clear hln
        have HKN := Lib.hid (show ∀ wx, Below w14.heap.size w14 wx → (wx.cell? ⟨gm, 0, none⟩ = some (.string ⟨(sy).toArray⟩) ∧ wx.cell? ⟨gm, 1, none⟩ = some (.string ⟨((wa ++ recL d)).toArray⟩)) ∧ Below w14.heap.size w14 wx from
          fun wx h => ⟨⟨(box3 (HRN.out.below h)).1.1, (box3 (HRN.out.below h)).1.2.1⟩, h⟩)
        have HBYN := Lib.hid fun (wx : World) (h : Below w14.heap.size w14 wx) => bytes_any wx (HLN.out.below h) (by have := HSN.out; have := HI80.out; omega)
        have HWAN := Lib.hid fun (wx : World) (h : Below w14.heap.size w14 wx) => waits_any wx (HLN.out.below h)
        have HSN2 := Lib.hid HSN.out
        obtain ⟨SY, hSY⟩ : ∃ SY, SY = sy := ⟨_, rfl⟩
        obtain ⟨WA, hWA⟩ : ∃ WA, WA = (wa ++ recL d) := ⟨_, rfl⟩
        obtain ⟨BG, hBG⟩ : ∃ BG, BG = bg := ⟨_, rfl⟩
        rw [← hSY, ← hWA] at HKN HSN2
        rw [← hSY, ← hWA, ← hBG] at HLN HRN
        rw [← hSY] at HBYN
        rw [← hWA] at HWAN
        clear hSY hWA hBG
        go_wp2_with fail
        refine wp_region_noPanic ?_
        refine wp_region_held_drew (S := (fun wx => (wx.cell? ⟨gm, 0, none⟩ = some (.string ⟨SY.toArray⟩) ∧ wx.cell? ⟨gm, 1, none⟩ = some (.string ⟨WA.toArray⟩)) ∧ Below w14.heap.size w14 wx)) (by kernel_rfl) ?_ (fun hHeld => ?_)
        · exact HKN.out _ (below_drew _)
        refine wpAnyH_take (i := 0) (oi := ⟨some 113, _, _, _, _, _⟩) (v := ?_) rfl (by kernel_rfl) (by kernel_rfl) (by kernel_rfl) (fun _ _ _ h => h) (Or.inl ⟨by rfl, ?_⟩) (by assumption) ?_
        rotate_left
        · intro w' hSw
          (try dsimp only at hSw)
          go_simp
          try with_reducible rfl
        simp only [Act.put, List.setIfInBounds_toArray, List.set_cons_zero, List.set_cons_succ]
        refine wpAnyH_take (i := 3) (oi := ⟨some 116, _, _, _, _, _⟩) (v := ?_) rfl (by kernel_rfl) (by kernel_rfl) (by kernel_rfl) (fun _ _ _ h => h) (Or.inl ⟨by rfl, ?_⟩) (by assumption) ?_
        rotate_left
        · intro w' hSw
          (try dsimp only at hSw)
          go_simp
          try with_reducible rfl
        simp only [Act.put, List.setIfInBounds_toArray, List.set_cons_zero, List.set_cons_succ]
        refine wpAnyH_take (i := 4) (oi := ⟨some 117, _, _, _, _, _⟩) (v := ?_) rfl (by kernel_rfl) (by kernel_rfl) (by kernel_rfl) (fun _ _ _ h => h) (Or.inl ⟨by rfl, ?_⟩) (by assumption) ?_
        rotate_left
        · intro w' hSw
          (try dsimp only at hSw)
          go_simp
          try with_reducible rfl
        simp only [Act.put, List.setIfInBounds_toArray, List.set_cons_zero, List.set_cons_succ]
        refine wpAnyH_take (i := 5) (oi := ⟨some 118, _, _, _, _, _⟩) (v := ?_) rfl (by kernel_rfl) (by kernel_rfl) (by kernel_rfl) (fun _ _ _ h => h) (Or.inl ⟨by rfl, ?_⟩) (by assumption) ?_
        rotate_left
        · intro w' hSw
          (try dsimp only at hSw)
          go_simp
          try with_reducible rfl
        simp only [Act.put, List.setIfInBounds_toArray, List.set_cons_zero, List.set_cons_succ]
        refine wpAnyH_take (i := 6) (oi := ⟨some 119, _, _, _, _, _⟩) (v := ?_) rfl (by kernel_rfl) (by kernel_rfl) (by kernel_rfl) (fun _ _ _ h => h) (Or.inl ⟨by rfl, ?_⟩) (by assumption) ?_
        rotate_left
        · intro w' hSw
          (try dsimp only at hSw)
          go_simp
          try with_reducible rfl
        simp only [Act.put, List.setIfInBounds_toArray, List.set_cons_zero, List.set_cons_succ]
        refine wpAnyH_ready (rs := [1]) (by kernel_rfl) (by simp) ?_
        refine AllReadyH.cons (o := ⟨some 114, _, _, _, _, _⟩) rfl (fun K hK => ?_) AllReadyH.nil
        go_simp
        go_at_call 20
        refine (HBYN.out _ hHeld.2).mono ?_
        rintro e w16 ⟨v16, rfl, hbf16, hb16⟩
        obtain ⟨a16, c16, rfl, -, -, hat16⟩ := hbf16.bytes
        have hcv16 := conv_str c16 hat16
        have hEN := hHeld.2.trans (hb16.mono hHeld.2.size)
        clear hb16 hbf16 hat16 hHeld
        refine hK.out _ _ ?_ (fun hHeld => ?_)
        · exact HKN.out _ hEN
        clear hK K
        try simp only [Act.put, List.setIfInBounds_toArray, List.set_cons_zero, List.set_cons_succ]
        refine wpAnyH_up (S' := (fun wx => ((wx.cell? ⟨gm, 0, none⟩ = some (.string ⟨SY.toArray⟩) ∧ wx.cell? ⟨gm, 1, none⟩ = some (.string ⟨WA.toArray⟩)) ∧ Below w14.heap.size w14 wx) ∧ (convert 22 9 (.slice a16 SY.length c16)).run Try.prog wx = .ok (.string ⟨SY.toArray⟩) wx)) (fun wx h => h.1) _ _ _ _ ?_
        have hHeld2 := And.intro hHeld hcv16
        clear hHeld
        have hHeld := hHeld2
        clear hHeld2
        refine wpAnyH_take (i := 2) (oi := ⟨some 115, _, _, _, _, _⟩) (v := ?_) rfl (by kernel_rfl) (by kernel_rfl) (by kernel_rfl) (fun _ _ _ h => h) (Or.inl ⟨by rfl, ?_⟩) (by assumption) ?_
        rotate_left
        · intro w' hSw
          (try dsimp only at hSw)
          go_simp
          try with_reducible rfl
        simp only [Act.put, List.setIfInBounds_toArray, List.set_cons_zero, List.set_cons_succ]
        refine wpAnyH_take (i := 7) (oi := ⟨some 120, _, _, _, _, _⟩) (v := ?_) rfl (by kernel_rfl) (by kernel_rfl) (by kernel_rfl) (fun _ _ _ h => h) (Or.inl ⟨by rfl, ?_⟩) (by assumption) ?_
        rotate_left
        · intro w' hSw
          (try dsimp only at hSw)
          go_simp
          try with_reducible rfl
        simp only [Act.put, List.setIfInBounds_toArray, List.set_cons_zero, List.set_cons_succ]
        refine wpAnyH_take (i := 8) (oi := ⟨some 121, _, _, _, _, _⟩) (v := ?_) rfl (by kernel_rfl) (by kernel_rfl) (by kernel_rfl) (fun _ _ _ h => h) (Or.inl ⟨by rfl, ?_⟩) (by assumption) ?_
        rotate_left
        · intro w' hSw
          (try dsimp only at hSw)
          go_simp
          try with_reducible rfl
        simp only [Act.put, List.setIfInBounds_toArray, List.set_cons_zero, List.set_cons_succ]
        refine wpAnyH_take (i := 9) (oi := ⟨some 122, _, _, _, _, _⟩) (v := ?_) rfl (by kernel_rfl) (by kernel_rfl) (by kernel_rfl) (fun _ _ _ h => h) (Or.inl ⟨by rfl, ?_⟩) (by assumption) ?_
        rotate_left
        · intro w' hSw
          (try dsimp only at hSw)
          go_simp
          try with_reducible rfl
        simp only [Act.put, List.setIfInBounds_toArray, List.set_cons_zero, List.set_cons_succ]
        refine wpAnyH_take (i := 11) (oi := ⟨some 124, _, _, _, _, _⟩) (v := ?_) rfl (by kernel_rfl) (by kernel_rfl) (by kernel_rfl) (fun _ _ _ h => h) (Or.inl ⟨by rfl, ?_⟩) (by assumption) ?_
        rotate_left
        · intro w' hSw
          (try dsimp only at hSw)
          go_simp
          try with_reducible rfl
        simp only [Act.put, List.setIfInBounds_toArray, List.set_cons_zero, List.set_cons_succ]
        refine wpAnyH_take (i := 12) (oi := ⟨some 125, _, _, _, _, _⟩) (v := ?_) rfl (by kernel_rfl) (by kernel_rfl) (by kernel_rfl) (fun _ _ _ h => h) (Or.inl ⟨by rfl, ?_⟩) (by assumption) ?_
        rotate_left
        · intro w' hSw
          (try dsimp only at hSw)
          go_simp
          try with_reducible rfl
        simp only [Act.put, List.setIfInBounds_toArray, List.set_cons_zero, List.set_cons_succ]
        refine wpAnyH_take (i := 13) (oi := ⟨some 126, _, _, _, _, _⟩) (v := ?_) rfl (by kernel_rfl) (by kernel_rfl) (by kernel_rfl) (fun _ _ _ h => h) (Or.inl ⟨by rfl, ?_⟩) (by assumption) ?_
        rotate_left
        · intro w' hSw
          (try dsimp only at hSw)
          go_simp
          try with_reducible rfl
        simp only [Act.put, List.setIfInBounds_toArray, List.set_cons_zero, List.set_cons_succ]
        refine wpAnyH_take (i := 14) (oi := ⟨some 127, _, _, _, _, _⟩) (v := ?_) rfl (by kernel_rfl) (by kernel_rfl) (by kernel_rfl) (fun _ _ _ h => h) (Or.inl ⟨by rfl, ?_⟩) (by assumption) ?_
        rotate_left
        · intro w' hSw
          (try dsimp only at hSw)
          go_simp
          try with_reducible rfl
        simp only [Act.put, List.setIfInBounds_toArray, List.set_cons_zero, List.set_cons_succ]
        refine wpAnyH_take (i := 15) (oi := ⟨some 128, _, _, _, _, _⟩) (v := ?_) rfl (by kernel_rfl) (by kernel_rfl) (by kernel_rfl) (fun _ _ _ h => h) (Or.inl ⟨by rfl, ?_⟩) (by assumption) ?_
        rotate_left
        · intro w' hSw
          (try dsimp only at hSw)
          go_simp
          try with_reducible rfl
        simp only [Act.put, List.setIfInBounds_toArray, List.set_cons_zero, List.set_cons_succ]
        refine wpAnyH_ready (rs := [10]) (by kernel_rfl) (by simp) ?_
        refine AllReadyH.cons (o := ⟨some 123, _, _, _, _, _⟩) rfl (fun K hK => ?_) AllReadyH.nil
        go_simp
        go_at_call 21
        refine (HWAN.out _ hEN).mono ?_
        rintro e wx ⟨rfl, rfl⟩
        refine hK.out _ _ ?_ (fun hHeld => ?_)
        · exact hHeld
        clear hK K
        try simp only [Act.put, List.setIfInBounds_toArray, List.set_cons_zero, List.set_cons_succ]
        refine wpAnyH_take (i := 16) (oi := ⟨some 129, _, _, _, _, _⟩) (v := ?_) rfl (by kernel_rfl) (by kernel_rfl) (by kernel_rfl) (fun _ _ _ h => h) (Or.inl ⟨by rfl, ?_⟩) (by assumption) ?_
        rotate_left
        · intro w' hSw
          (try dsimp only at hSw)
          go_simp
          try with_reducible rfl
        simp only [Act.put, List.setIfInBounds_toArray, List.set_cons_zero, List.set_cons_succ]
        refine wpAnyH_take (i := 17) (oi := ⟨some 130, _, _, _, _, _⟩) (v := ?_) rfl (by kernel_rfl) (by kernel_rfl) (by kernel_rfl) (fun _ _ _ h => h) (Or.inl ⟨by rfl, ?_⟩) (by assumption) ?_
        rotate_left
        · intro w' hSw
          (try dsimp only at hSw)
          go_simp
          try with_reducible rfl
        simp only [Act.put, List.setIfInBounds_toArray, List.set_cons_zero, List.set_cons_succ]
        refine wpAnyH_done (by kernel_rfl) ?_ _
        refine NoPanic.normal ?_

        have HEN := Lib.hid hEN
        try clear hcv16
        go_wp2_with fail
        go_roundg (l.length - (i + 1))
        case measure => omega
        case rel => exact ⟨i + 1, g, gm, SY, WA, BG, by omega, rfl, rfl, by simp, rfl, ⟨vs, vwn, HLN.out.below HEN.out⟩, HRN.out.below HEN.out, HGM.out, HSN2.out, HBN.out.trans (HEN.out.mono HBN.out.size)⟩
    · have hq0 : (kd.tmod 6 + 6).tmod 6 = 3 := by rw [hq]; rfl
      clear hq
      go_wp2_with fail
      rw [← HOB.out, ← HW1.out]
      clear k0 k1 k2
      have HTW0 := Lib.hid (HTW.out.same (below_drew w1))
      have HL1 : Hid (wa.length ≤ 900000 ∧ wa.length ≤ 1000000 ∧ d.length ≤ 1000000) := Lib.hid (by have := HSZ.out; have := HI80.out; have := HN2.out; omega)
      go_region_held3 (fun wx => (wx.cell? ⟨ob, 2, none⟩ = some (.slice da n dc) ∧ (convert 22 9 (.slice da n dc)).run Try.prog wx = .ok (.string ⟨d.toArray⟩) wx) ∧ Below w.heap.size w wx)
        (first | exact HKEEP.out _ HTW0.out.box HTW0.out.bel | exact HKEEP.out _ HTW.out.box HTW.out.bel | exact HKEEP.out _ HT2.out.box HT2.out.bel | exact HKEEP.out _ HT1.out.box HT1.out.bel | assumption)
        (first
          | (go_at_call 25; refine (HTW0.out.begin HN.out HDL.out HDM.out HDAT.out).mono ?_; rintro e w13 ⟨rfl, ht1⟩; have HT1 := Lib.hid ht1; clear ht1)
          | (go_at_call 26; refine (HT1.out.rbegin HL1.out.2.2 HGM.out).mono ?_; rintro e w14 ⟨rfl, ht2⟩; have HT2 := Lib.hid ht2; clear ht2))
      all_goals
        rename_i hHeld
        clear hHeld
        have HSN : Hid (sy.length + ((begW d wa)).length ≤ (i + 1) * 206) := Lib.hid (by
          have h1 : (begW d wa).length ≤ 206 ∨ (begW d wa).length = wa.length := by
            unfold begW
            split
            · rw [recF_length]; have := HN2.out; exact .inl (by omega)
            · exact .inr rfl
          rw [Nat.add_mul, Nat.one_mul]
          have := HSZ.out
          omega)
        have HTN := HT2
        obtain ⟨vwn, hln⟩ := HTN.out.log
        have HLN := Lib.hid hln
        have HRN := Lib.hid HTN.out.ref
        have HBN := Lib.hid HTN.out.bel
        clear hln
        have HKN := Lib.hid (show ∀ wx, Below w14.heap.size w14 wx → (wx.cell? ⟨gm, 0, none⟩ = some (.string ⟨(sy).toArray⟩) ∧ wx.cell? ⟨gm, 1, none⟩ = some (.string ⟨((begW d wa)).toArray⟩)) ∧ Below w14.heap.size w14 wx from
          fun wx h => ⟨⟨(box3 (HRN.out.below h)).1.1, (box3 (HRN.out.below h)).1.2.1⟩, h⟩)
        have HBYN := Lib.hid fun (wx : World) (h : Below w14.heap.size w14 wx) => bytes_any wx (HLN.out.below h) (by have := HSN.out; have := HI80.out; omega)
        have HWAN := Lib.hid fun (wx : World) (h : Below w14.heap.size w14 wx) => waits_any wx (HLN.out.below h)
        have HSN2 := Lib.hid HSN.out
        obtain ⟨SY, hSY⟩ : ∃ SY, SY = sy := ⟨_, rfl⟩
        obtain ⟨WA, hWA⟩ : ∃ WA, WA = (begW d wa) := ⟨_, rfl⟩
        obtain ⟨BG, hBG⟩ : ∃ BG, BG = (begB d bg) := ⟨_, rfl⟩
        rw [← hSY, ← hWA] at HKN HSN2
        rw [← hSY, ← hWA, ← hBG] at HLN HRN
        rw [← hSY] at HBYN
        rw [← hWA] at HWAN
        clear hSY hWA hBG
        go_wp2_with fail
        refine wp_region_noPanic ?_
        refine wp_region_held_drew (S := (fun wx => (wx.cell? ⟨gm, 0, none⟩ = some (.string ⟨SY.toArray⟩) ∧ wx.cell? ⟨gm, 1, none⟩ = some (.string ⟨WA.toArray⟩)) ∧ Below w14.heap.size w14 wx)) (by kernel_rfl) ?_ (fun hHeld => ?_)
        · exact HKN.out _ (below_drew _)
        refine wpAnyH_take (i := 0) (oi := ⟨some 113, _, _, _, _, _⟩) (v := ?_) rfl (by kernel_rfl) (by kernel_rfl) (by kernel_rfl) (fun _ _ _ h => h) (Or.inl ⟨by rfl, ?_⟩) (by assumption) ?_
        rotate_left
        · intro w' hSw
          (try dsimp only at hSw)
          go_simp
          try with_reducible rfl
        simp only [Act.put, List.setIfInBounds_toArray, List.set_cons_zero, List.set_cons_succ]
        refine wpAnyH_take (i := 3) (oi := ⟨some 116, _, _, _, _, _⟩) (v := ?_) rfl (by kernel_rfl) (by kernel_rfl) (by kernel_rfl) (fun _ _ _ h => h) (Or.inl ⟨by rfl, ?_⟩) (by assumption) ?_
        rotate_left
        · intro w' hSw
          (try dsimp only at hSw)
          go_simp
          try with_reducible rfl
        simp only [Act.put, List.setIfInBounds_toArray, List.set_cons_zero, List.set_cons_succ]
        refine wpAnyH_take (i := 4) (oi := ⟨some 117, _, _, _, _, _⟩) (v := ?_) rfl (by kernel_rfl) (by kernel_rfl) (by kernel_rfl) (fun _ _ _ h => h) (Or.inl ⟨by rfl, ?_⟩) (by assumption) ?_
        rotate_left
        · intro w' hSw
          (try dsimp only at hSw)
          go_simp
          try with_reducible rfl
        simp only [Act.put, List.setIfInBounds_toArray, List.set_cons_zero, List.set_cons_succ]
        refine wpAnyH_take (i := 5) (oi := ⟨some 118, _, _, _, _, _⟩) (v := ?_) rfl (by kernel_rfl) (by kernel_rfl) (by kernel_rfl) (fun _ _ _ h => h) (Or.inl ⟨by rfl, ?_⟩) (by assumption) ?_
        rotate_left
        · intro w' hSw
          (try dsimp only at hSw)
          go_simp
          try with_reducible rfl
        simp only [Act.put, List.setIfInBounds_toArray, List.set_cons_zero, List.set_cons_succ]
        refine wpAnyH_take (i := 6) (oi := ⟨some 119, _, _, _, _, _⟩) (v := ?_) rfl (by kernel_rfl) (by kernel_rfl) (by kernel_rfl) (fun _ _ _ h => h) (Or.inl ⟨by rfl, ?_⟩) (by assumption) ?_
        rotate_left
        · intro w' hSw
          (try dsimp only at hSw)
          go_simp
          try with_reducible rfl
        simp only [Act.put, List.setIfInBounds_toArray, List.set_cons_zero, List.set_cons_succ]
        refine wpAnyH_ready (rs := [1]) (by kernel_rfl) (by simp) ?_
        refine AllReadyH.cons (o := ⟨some 114, _, _, _, _, _⟩) rfl (fun K hK => ?_) AllReadyH.nil
        go_simp
        go_at_call 20
        refine (HBYN.out _ hHeld.2).mono ?_
        rintro e w16 ⟨v16, rfl, hbf16, hb16⟩
        obtain ⟨a16, c16, rfl, -, -, hat16⟩ := hbf16.bytes
        have hcv16 := conv_str c16 hat16
        have hEN := hHeld.2.trans (hb16.mono hHeld.2.size)
        clear hb16 hbf16 hat16 hHeld
        refine hK.out _ _ ?_ (fun hHeld => ?_)
        · exact HKN.out _ hEN
        clear hK K
        try simp only [Act.put, List.setIfInBounds_toArray, List.set_cons_zero, List.set_cons_succ]
        refine wpAnyH_up (S' := (fun wx => ((wx.cell? ⟨gm, 0, none⟩ = some (.string ⟨SY.toArray⟩) ∧ wx.cell? ⟨gm, 1, none⟩ = some (.string ⟨WA.toArray⟩)) ∧ Below w14.heap.size w14 wx) ∧ (convert 22 9 (.slice a16 SY.length c16)).run Try.prog wx = .ok (.string ⟨SY.toArray⟩) wx)) (fun wx h => h.1) _ _ _ _ ?_
        have hHeld2 := And.intro hHeld hcv16
        clear hHeld
        have hHeld := hHeld2
        clear hHeld2
        refine wpAnyH_take (i := 2) (oi := ⟨some 115, _, _, _, _, _⟩) (v := ?_) rfl (by kernel_rfl) (by kernel_rfl) (by kernel_rfl) (fun _ _ _ h => h) (Or.inl ⟨by rfl, ?_⟩) (by assumption) ?_
        rotate_left
        · intro w' hSw
          (try dsimp only at hSw)
          go_simp
          try with_reducible rfl
        simp only [Act.put, List.setIfInBounds_toArray, List.set_cons_zero, List.set_cons_succ]
        refine wpAnyH_take (i := 7) (oi := ⟨some 120, _, _, _, _, _⟩) (v := ?_) rfl (by kernel_rfl) (by kernel_rfl) (by kernel_rfl) (fun _ _ _ h => h) (Or.inl ⟨by rfl, ?_⟩) (by assumption) ?_
        rotate_left
        · intro w' hSw
          (try dsimp only at hSw)
          go_simp
          try with_reducible rfl
        simp only [Act.put, List.setIfInBounds_toArray, List.set_cons_zero, List.set_cons_succ]
        refine wpAnyH_take (i := 8) (oi := ⟨some 121, _, _, _, _, _⟩) (v := ?_) rfl (by kernel_rfl) (by kernel_rfl) (by kernel_rfl) (fun _ _ _ h => h) (Or.inl ⟨by rfl, ?_⟩) (by assumption) ?_
        rotate_left
        · intro w' hSw
          (try dsimp only at hSw)
          go_simp
          try with_reducible rfl
        simp only [Act.put, List.setIfInBounds_toArray, List.set_cons_zero, List.set_cons_succ]
        refine wpAnyH_take (i := 9) (oi := ⟨some 122, _, _, _, _, _⟩) (v := ?_) rfl (by kernel_rfl) (by kernel_rfl) (by kernel_rfl) (fun _ _ _ h => h) (Or.inl ⟨by rfl, ?_⟩) (by assumption) ?_
        rotate_left
        · intro w' hSw
          (try dsimp only at hSw)
          go_simp
          try with_reducible rfl
        simp only [Act.put, List.setIfInBounds_toArray, List.set_cons_zero, List.set_cons_succ]
        refine wpAnyH_take (i := 11) (oi := ⟨some 124, _, _, _, _, _⟩) (v := ?_) rfl (by kernel_rfl) (by kernel_rfl) (by kernel_rfl) (fun _ _ _ h => h) (Or.inl ⟨by rfl, ?_⟩) (by assumption) ?_
        rotate_left
        · intro w' hSw
          (try dsimp only at hSw)
          go_simp
          try with_reducible rfl
        simp only [Act.put, List.setIfInBounds_toArray, List.set_cons_zero, List.set_cons_succ]
        refine wpAnyH_take (i := 12) (oi := ⟨some 125, _, _, _, _, _⟩) (v := ?_) rfl (by kernel_rfl) (by kernel_rfl) (by kernel_rfl) (fun _ _ _ h => h) (Or.inl ⟨by rfl, ?_⟩) (by assumption) ?_
        rotate_left
        · intro w' hSw
          (try dsimp only at hSw)
          go_simp
          try with_reducible rfl
        simp only [Act.put, List.setIfInBounds_toArray, List.set_cons_zero, List.set_cons_succ]
        refine wpAnyH_take (i := 13) (oi := ⟨some 126, _, _, _, _, _⟩) (v := ?_) rfl (by kernel_rfl) (by kernel_rfl) (by kernel_rfl) (fun _ _ _ h => h) (Or.inl ⟨by rfl, ?_⟩) (by assumption) ?_
        rotate_left
        · intro w' hSw
          (try dsimp only at hSw)
          go_simp
          try with_reducible rfl
        simp only [Act.put, List.setIfInBounds_toArray, List.set_cons_zero, List.set_cons_succ]
        refine wpAnyH_take (i := 14) (oi := ⟨some 127, _, _, _, _, _⟩) (v := ?_) rfl (by kernel_rfl) (by kernel_rfl) (by kernel_rfl) (fun _ _ _ h => h) (Or.inl ⟨by rfl, ?_⟩) (by assumption) ?_
        rotate_left
        · intro w' hSw
          (try dsimp only at hSw)
          go_simp
          try with_reducible rfl
        simp only [Act.put, List.setIfInBounds_toArray, List.set_cons_zero, List.set_cons_succ]
        refine wpAnyH_take (i := 15) (oi := ⟨some 128, _, _, _, _, _⟩) (v := ?_) rfl (by kernel_rfl) (by kernel_rfl) (by kernel_rfl) (fun _ _ _ h => h) (Or.inl ⟨by rfl, ?_⟩) (by assumption) ?_
        rotate_left
        · intro w' hSw
          (try dsimp only at hSw)
          go_simp
          try with_reducible rfl
        simp only [Act.put, List.setIfInBounds_toArray, List.set_cons_zero, List.set_cons_succ]
        refine wpAnyH_ready (rs := [10]) (by kernel_rfl) (by simp) ?_
        refine AllReadyH.cons (o := ⟨some 123, _, _, _, _, _⟩) rfl (fun K hK => ?_) AllReadyH.nil
        go_simp
        go_at_call 21
        refine (HWAN.out _ hEN).mono ?_
        rintro e wx ⟨rfl, rfl⟩
        refine hK.out _ _ ?_ (fun hHeld => ?_)
        · exact hHeld
        clear hK K
        try simp only [Act.put, List.setIfInBounds_toArray, List.set_cons_zero, List.set_cons_succ]
        refine wpAnyH_take (i := 16) (oi := ⟨some 129, _, _, _, _, _⟩) (v := ?_) rfl (by kernel_rfl) (by kernel_rfl) (by kernel_rfl) (fun _ _ _ h => h) (Or.inl ⟨by rfl, ?_⟩) (by assumption) ?_
        rotate_left
        · intro w' hSw
          (try dsimp only at hSw)
          go_simp
          try with_reducible rfl
        simp only [Act.put, List.setIfInBounds_toArray, List.set_cons_zero, List.set_cons_succ]
        refine wpAnyH_take (i := 17) (oi := ⟨some 130, _, _, _, _, _⟩) (v := ?_) rfl (by kernel_rfl) (by kernel_rfl) (by kernel_rfl) (fun _ _ _ h => h) (Or.inl ⟨by rfl, ?_⟩) (by assumption) ?_
        rotate_left
        · intro w' hSw
          (try dsimp only at hSw)
          go_simp
          try with_reducible rfl
        simp only [Act.put, List.setIfInBounds_toArray, List.set_cons_zero, List.set_cons_succ]
        refine wpAnyH_done (by kernel_rfl) ?_ _
        refine NoPanic.normal ?_

        have HEN := Lib.hid hEN
        try clear hcv16
        go_wp2_with fail
        go_roundg (l.length - (i + 1))
        case measure => omega
        case rel => exact ⟨i + 1, g, gm, SY, WA, BG, by omega, rfl, rfl, by simp, rfl, ⟨vs, vwn, HLN.out.below HEN.out⟩, HRN.out.below HEN.out, HGM.out, HSN2.out, HBN.out.trans (HEN.out.mono HBN.out.size)⟩
    · have hq0 : (kd.tmod 6 + 6).tmod 6 = 4 := by rw [hq]; rfl
      clear hq
      go_wp2_with fail
      rw [← HOB.out, ← HW1.out]
      clear k0 k1 k2
      have HL1 : Hid (sy.length + wa.length ≤ 1000000) := Lib.hid (by have := HSZ.out; have := HI80.out; omega)
      refine (HTW.out.sync HL1.out).mono ?_
      rintro e w13 ⟨vs13, rfl, ht1⟩
      have HT1 := Lib.hid ht1
      clear ht1 x0 x1 x2
      go_wp2_with fail
      refine (HT1.out.rsync HL1.out HGM.out).mono ?_
      rintro e w14 ⟨rfl, ht2⟩
      have HTN := Lib.hid ht2
      clear ht2
      have HSN : Hid ((synF sy wa bg).length + ([] : List UInt8).length ≤ (i + 1) * 206) := Lib.hid (by
        have h1 : (synF sy wa bg).length ≤ sy.length + wa.length := by
          unfold synF
          cases bg <;> simp
        have := HSZ.out
        simp only [List.length_nil]
        omega)
      obtain ⟨vwn, hln⟩ := HTN.out.log
      have HLN := Lib.hid hln
      have HRN := Lib.hid HTN.out.ref
      have HBN := Lib.hid HTN.out.bel
      clear hln
      have HKN := Lib.hid (show ∀ wx, Below w14.heap.size w14 wx → (wx.cell? ⟨gm, 0, none⟩ = some (.string ⟨((synF sy wa bg)).toArray⟩) ∧ wx.cell? ⟨gm, 1, none⟩ = some (.string ⟨(([] : List UInt8)).toArray⟩)) ∧ Below w14.heap.size w14 wx from
        fun wx h => ⟨⟨(box3 (HRN.out.below h)).1.1, (box3 (HRN.out.below h)).1.2.1⟩, h⟩)
      have HBYN := Lib.hid fun (wx : World) (h : Below w14.heap.size w14 wx) => bytes_any wx (HLN.out.below h) (by have := HSN.out; have := HI80.out; omega)
      have HWAN := Lib.hid fun (wx : World) (h : Below w14.heap.size w14 wx) => waits_any wx (HLN.out.below h)
      have HSN2 := Lib.hid HSN.out
      obtain ⟨SY, hSY⟩ : ∃ SY, SY = (synF sy wa bg) := ⟨_, rfl⟩
      obtain ⟨WA, hWA⟩ : ∃ WA, WA = ([] : List UInt8) := ⟨_, rfl⟩
      obtain ⟨BG, hBG⟩ : ∃ BG, BG = false := ⟨_, rfl⟩
      rw [← hSY, ← hWA] at HKN HSN2
      rw [← hSY, ← hWA, ← hBG] at HLN HRN
      rw [← hSY] at HBYN
      rw [← hWA] at HWAN
      clear hSY hWA hBG
      go_wp2_with fail
      refine wp_region_noPanic ?_
      refine wp_region_held_drew (S := (fun wx => (wx.cell? ⟨gm, 0, none⟩ = some (.string ⟨SY.toArray⟩) ∧ wx.cell? ⟨gm, 1, none⟩ = some (.string ⟨WA.toArray⟩)) ∧ Below w14.heap.size w14 wx)) (by kernel_rfl) ?_ (fun hHeld => ?_)
      · exact HKN.out _ (below_drew _)
      refine wpAnyH_take (i := 0) (oi := ⟨some 113, _, _, _, _, _⟩) (v := ?_) rfl (by kernel_rfl) (by kernel_rfl) (by kernel_rfl) (fun _ _ _ h => h) (Or.inl ⟨by rfl, ?_⟩) (by assumption) ?_
      rotate_left
      · intro w' hSw
        (try dsimp only at hSw)
        go_simp
        try with_reducible rfl
      simp only [Act.put, List.setIfInBounds_toArray, List.set_cons_zero, List.set_cons_succ]
      refine wpAnyH_take (i := 3) (oi := ⟨some 116, _, _, _, _, _⟩) (v := ?_) rfl (by kernel_rfl) (by kernel_rfl) (by kernel_rfl) (fun _ _ _ h => h) (Or.inl ⟨by rfl, ?_⟩) (by assumption) ?_
      rotate_left
      · intro w' hSw
        (try dsimp only at hSw)
        go_simp
        try with_reducible rfl
      simp only [Act.put, List.setIfInBounds_toArray, List.set_cons_zero, List.set_cons_succ]
      refine wpAnyH_take (i := 4) (oi := ⟨some 117, _, _, _, _, _⟩) (v := ?_) rfl (by kernel_rfl) (by kernel_rfl) (by kernel_rfl) (fun _ _ _ h => h) (Or.inl ⟨by rfl, ?_⟩) (by assumption) ?_
      rotate_left
      · intro w' hSw
        (try dsimp only at hSw)
        go_simp
        try with_reducible rfl
      simp only [Act.put, List.setIfInBounds_toArray, List.set_cons_zero, List.set_cons_succ]
      refine wpAnyH_take (i := 5) (oi := ⟨some 118, _, _, _, _, _⟩) (v := ?_) rfl (by kernel_rfl) (by kernel_rfl) (by kernel_rfl) (fun _ _ _ h => h) (Or.inl ⟨by rfl, ?_⟩) (by assumption) ?_
      rotate_left
      · intro w' hSw
        (try dsimp only at hSw)
        go_simp
        try with_reducible rfl
      simp only [Act.put, List.setIfInBounds_toArray, List.set_cons_zero, List.set_cons_succ]
      refine wpAnyH_take (i := 6) (oi := ⟨some 119, _, _, _, _, _⟩) (v := ?_) rfl (by kernel_rfl) (by kernel_rfl) (by kernel_rfl) (fun _ _ _ h => h) (Or.inl ⟨by rfl, ?_⟩) (by assumption) ?_
      rotate_left
      · intro w' hSw
        (try dsimp only at hSw)
        go_simp
        try with_reducible rfl
      simp only [Act.put, List.setIfInBounds_toArray, List.set_cons_zero, List.set_cons_succ]
      refine wpAnyH_ready (rs := [1]) (by kernel_rfl) (by simp) ?_
      refine AllReadyH.cons (o := ⟨some 114, _, _, _, _, _⟩) rfl (fun K hK => ?_) AllReadyH.nil
      go_simp
      go_at_call 20
      refine (HBYN.out _ hHeld.2).mono ?_
      rintro e w16 ⟨v16, rfl, hbf16, hb16⟩
      obtain ⟨a16, c16, rfl, -, -, hat16⟩ := hbf16.bytes
      have hcv16 := conv_str c16 hat16
      have hEN := hHeld.2.trans (hb16.mono hHeld.2.size)
      clear hb16 hbf16 hat16 hHeld
      refine hK.out _ _ ?_ (fun hHeld => ?_)
      · exact HKN.out _ hEN
      clear hK K
      try simp only [Act.put, List.setIfInBounds_toArray, List.set_cons_zero, List.set_cons_succ]
      refine wpAnyH_up (S' := (fun wx => ((wx.cell? ⟨gm, 0, none⟩ = some (.string ⟨SY.toArray⟩) ∧ wx.cell? ⟨gm, 1, none⟩ = some (.string ⟨WA.toArray⟩)) ∧ Below w14.heap.size w14 wx) ∧ (convert 22 9 (.slice a16 SY.length c16)).run Try.prog wx = .ok (.string ⟨SY.toArray⟩) wx)) (fun wx h => h.1) _ _ _ _ ?_
      have hHeld2 := And.intro hHeld hcv16
      clear hHeld
      have hHeld := hHeld2
      clear hHeld2
      refine wpAnyH_take (i := 2) (oi := ⟨some 115, _, _, _, _, _⟩) (v := ?_) rfl (by kernel_rfl) (by kernel_rfl) (by kernel_rfl) (fun _ _ _ h => h) (Or.inl ⟨by rfl, ?_⟩) (by assumption) ?_
      rotate_left
      · intro w' hSw
        (try dsimp only at hSw)
        go_simp
        try with_reducible rfl
      simp only [Act.put, List.setIfInBounds_toArray, List.set_cons_zero, List.set_cons_succ]
      refine wpAnyH_take (i := 7) (oi := ⟨some 120, _, _, _, _, _⟩) (v := ?_) rfl (by kernel_rfl) (by kernel_rfl) (by kernel_rfl) (fun _ _ _ h => h) (Or.inl ⟨by rfl, ?_⟩) (by assumption) ?_
      rotate_left
      · intro w' hSw
        (try dsimp only at hSw)
        go_simp
        try with_reducible rfl
      simp only [Act.put, List.setIfInBounds_toArray, List.set_cons_zero, List.set_cons_succ]
      refine wpAnyH_take (i := 8) (oi := ⟨some 121, _, _, _, _, _⟩) (v := ?_) rfl (by kernel_rfl) (by kernel_rfl) (by kernel_rfl) (fun _ _ _ h => h) (Or.inl ⟨by rfl, ?_⟩) (by assumption) ?_
      rotate_left
      · intro w' hSw
        (try dsimp only at hSw)
        go_simp
        try with_reducible rfl
      simp only [Act.put, List.setIfInBounds_toArray, List.set_cons_zero, List.set_cons_succ]
      refine wpAnyH_take (i := 9) (oi := ⟨some 122, _, _, _, _, _⟩) (v := ?_) rfl (by kernel_rfl) (by kernel_rfl) (by kernel_rfl) (fun _ _ _ h => h) (Or.inl ⟨by rfl, ?_⟩) (by assumption) ?_
      rotate_left
      · intro w' hSw
        (try dsimp only at hSw)
        go_simp
        try with_reducible rfl
      simp only [Act.put, List.setIfInBounds_toArray, List.set_cons_zero, List.set_cons_succ]
      refine wpAnyH_take (i := 11) (oi := ⟨some 124, _, _, _, _, _⟩) (v := ?_) rfl (by kernel_rfl) (by kernel_rfl) (by kernel_rfl) (fun _ _ _ h => h) (Or.inl ⟨by rfl, ?_⟩) (by assumption) ?_
      rotate_left
      · intro w' hSw
        (try dsimp only at hSw)
        go_simp
        try with_reducible rfl
      simp only [Act.put, List.setIfInBounds_toArray, List.set_cons_zero, List.set_cons_succ]
      refine wpAnyH_take (i := 12) (oi := ⟨some 125, _, _, _, _, _⟩) (v := ?_) rfl (by kernel_rfl) (by kernel_rfl) (by kernel_rfl) (fun _ _ _ h => h) (Or.inl ⟨by rfl, ?_⟩) (by assumption) ?_
      rotate_left
      · intro w' hSw
        (try dsimp only at hSw)
        go_simp
        try with_reducible rfl
      simp only [Act.put, List.setIfInBounds_toArray, List.set_cons_zero, List.set_cons_succ]
      refine wpAnyH_take (i := 13) (oi := ⟨some 126, _, _, _, _, _⟩) (v := ?_) rfl (by kernel_rfl) (by kernel_rfl) (by kernel_rfl) (fun _ _ _ h => h) (Or.inl ⟨by rfl, ?_⟩) (by assumption) ?_
      rotate_left
      · intro w' hSw
        (try dsimp only at hSw)
        go_simp
        try with_reducible rfl
      simp only [Act.put, List.setIfInBounds_toArray, List.set_cons_zero, List.set_cons_succ]
      refine wpAnyH_take (i := 14) (oi := ⟨some 127, _, _, _, _, _⟩) (v := ?_) rfl (by kernel_rfl) (by kernel_rfl) (by kernel_rfl) (fun _ _ _ h => h) (Or.inl ⟨by rfl, ?_⟩) (by assumption) ?_
      rotate_left
      · intro w' hSw
        (try dsimp only at hSw)
        go_simp
        try with_reducible rfl
      simp only [Act.put, List.setIfInBounds_toArray, List.set_cons_zero, List.set_cons_succ]
      refine wpAnyH_take (i := 15) (oi := ⟨some 128, _, _, _, _, _⟩) (v := ?_) rfl (by kernel_rfl) (by kernel_rfl) (by kernel_rfl) (fun _ _ _ h => h) (Or.inl ⟨by rfl, ?_⟩) (by assumption) ?_
      rotate_left
      · intro w' hSw
        (try dsimp only at hSw)
        go_simp
        try with_reducible rfl
      simp only [Act.put, List.setIfInBounds_toArray, List.set_cons_zero, List.set_cons_succ]
      refine wpAnyH_ready (rs := [10]) (by kernel_rfl) (by simp) ?_
      refine AllReadyH.cons (o := ⟨some 123, _, _, _, _, _⟩) rfl (fun K hK => ?_) AllReadyH.nil
      go_simp
      go_at_call 21
      refine (HWAN.out _ hEN).mono ?_
      rintro e wx ⟨rfl, rfl⟩
      refine hK.out _ _ ?_ (fun hHeld => ?_)
      · exact hHeld
      clear hK K
      try simp only [Act.put, List.setIfInBounds_toArray, List.set_cons_zero, List.set_cons_succ]
      refine wpAnyH_take (i := 16) (oi := ⟨some 129, _, _, _, _, _⟩) (v := ?_) rfl (by kernel_rfl) (by kernel_rfl) (by kernel_rfl) (fun _ _ _ h => h) (Or.inl ⟨by rfl, ?_⟩) (by assumption) ?_
      rotate_left
      · intro w' hSw
        (try dsimp only at hSw)
        go_simp
        try with_reducible rfl
      simp only [Act.put, List.setIfInBounds_toArray, List.set_cons_zero, List.set_cons_succ]
      refine wpAnyH_take (i := 17) (oi := ⟨some 130, _, _, _, _, _⟩) (v := ?_) rfl (by kernel_rfl) (by kernel_rfl) (by kernel_rfl) (fun _ _ _ h => h) (Or.inl ⟨by rfl, ?_⟩) (by assumption) ?_
      rotate_left
      · intro w' hSw
        (try dsimp only at hSw)
        go_simp
        try with_reducible rfl
      simp only [Act.put, List.setIfInBounds_toArray, List.set_cons_zero, List.set_cons_succ]
      refine wpAnyH_done (by kernel_rfl) ?_ _
      refine NoPanic.normal ?_

      have HEN := Lib.hid hEN
      try clear hcv16
      go_wp2_with fail
      go_roundg (l.length - (i + 1))
      case measure => omega
      case rel => exact ⟨i + 1, g, gm, SY, WA, BG, by omega, rfl, rfl, by simp, rfl, ⟨vs13, vwn, HLN.out.below HEN.out⟩, HRN.out.below HEN.out, HGM.out, HSN2.out, HBN.out.trans (HEN.out.mono HBN.out.size)⟩
    · have hq0 : (kd.tmod 6 + 6).tmod 6 = 5 := by rw [hq]; rfl
      clear hq
      go_wp2_with fail
      rw [← HOB.out, ← HW1.out]
      clear k0 k1 k2
      have HL1 : Hid (sy.length + wa.length ≤ 1000000) := Lib.hid (by have := HSZ.out; have := HI80.out; omega)
      obtain ⟨vw1, hl1⟩ := HTW.out.log
      have HCR := Lib.hid fun (wx : World) (h : Below w1.heap.size w1 wx) => crash_any nm wx (hl1.below h) HL1.out
      have HRCR := Lib.hid fun (wx : World) (h : Below w1.heap.size w1 wx) => rcrash_any sy wa bg nm gm HL1.out wx (HTW.out.ref.below h)
      unfold CrashR at HCR
      unfold RCrashR at HRCR
      have hfl : (crF sy wa bg nm).length ≤ i * 206 := by
        rw [crF_length]
        have := keepF_le nm wa.length
        have := HSZ.out
        split <;> omega
      obtain ⟨F, hF⟩ : ∃ F, F = crF sy wa bg nm := ⟨_, rfl⟩
      rw [← hF] at HCR HRCR hfl
      have HFL := Lib.hid hfl
      have HKC := Lib.hid (show ∀ wx, Below w1.heap.size w1 wx → wx.cell? ⟨ob, 1, none⟩ = some (.int .i64 nm) ∧ Below w1.heap.size w1 wx from
        fun wx h => ⟨(box3 (HTW.out.box.below h)).1.2.1, h⟩)
      clear hl1 hF hfl x0 x1 x2
      go_region_held3 (fun wx => wx.cell? ⟨ob, 1, none⟩ = some (.int .i64 nm) ∧ Below w1.heap.size w1 wx)
        (first | exact HKC.out _ (below_drew _) | exact HKC.out _ (Below.refl _ _) | exact HKC.out _ HB14.out | exact HKC.out _ HB13.out | assumption)
        (first
          | (go_at_call 29; have hbx := (by assumption : _ ∧ Below _ _ _).2; refine (HCR.out _ hbx).mono ?_; rintro e w13 ⟨v13, rfl, hbf13, hb13⟩; have HB13 := Lib.hid (hbx.trans (hb13.mono hbx.size)); obtain ⟨a13, c13, rfl, hl13, hm13, hn13, hat13⟩ := Buf.form3 hbf13; have HA13 := Lib.hid (And.intro hl13 (And.intro hm13 (And.intro hn13 hat13))); clear hbf13 hb13 hl13 hm13 hn13 hat13 hbx)
          | (go_at_call 30; have hbx := (by assumption : _ ∧ Below _ _ _).2; refine (HRCR.out _ hbx).mono ?_; rintro e w14 ⟨rfl, hb14⟩; have HB14 := Lib.hid (hbx.trans (hb14.mono hbx.size)); have HAT14 := Lib.hid ((HA13.out.2.2.2.below hb14).mono hb14.size); clear hb14 hbx))
      all_goals
        rename_i hHeld
        have HBX14 := Lib.hid (HTW.out.bel.trans (hHeld.2.mono HTW.out.bel.size))
        clear hHeld
        have hcv := conv_str c13 HAT14.out
        obtain ⟨NF, hNF⟩ : ∃ NF, NF = F.length := ⟨_, rfl⟩
        have hop := open_any (B := w14.heap.size) a13 c13 F HA13.out.1 HA13.out.2.1 HA13.out.2.2.1 w14 HAT14.out (by have := HFL.out; have := HI80.out; omega) (Nat.le_refl _)
        unfold OpenR at hop
        rw [← hNF] at hcv hop
        have HOP := Lib.hid hop
        have HROP := Lib.hid fun wx => ropen_any F (by have := HFL.out; have := HI80.out; omega) wx
        unfold ROpenR at HROP
        have hcl : (catR (rdL F)).length ≤ i * 206 := Nat.le_trans (rd_le F) HFL.out
        obtain ⟨L, hL⟩ : ∃ L, L = rdL F := ⟨_, rfl⟩
        rw [← hL] at HOP hcl
        simp only [← hL] at HROP
        have HCL := Lib.hid hcl
        rw [← hNF]
        clear hop hNF hL hcl
        go_wp2_with fail
        clear hcv
        refine HOP.out.mono ?_
        rintro e w15 ⟨g2, xa2, xc2, vs2, C2, rfl, hbb2, hlog2, hC2, hb15⟩
        have HB15 := Lib.hid (HBX14.out.trans (hb15.mono HBX14.out.size))
        have HLOG15 := Lib.hid hlog2
        have HBB15 := Lib.hid hbb2
        have HC2 := Lib.hid (Nat.le_trans HBX14.out.size hC2)
        have HC3 : Hid (C2 ≤ w15.heap.size) := Lib.hid (Nat.le_trans hlog2.ge (Nat.le_of_lt hlog2.lt))
        clear hbb2 hlog2 hC2 hb15
        go_wp2_with fail
        refine (HROP.out w15).mono ?_
        rintro e w16 ⟨gm2, ya2, yc2, rfl, hyc, hst, hr16, hgm2, hb16⟩
        have HB16 := Lib.hid (HB15.out.trans (hb16.mono HB15.out.size))
        have HLOG16 := Lib.hid (HLOG15.out.below hb16)
        have HR16 := Lib.hid hr16
        have HGM2 := Lib.hid (Nat.le_trans HB15.out.size hgm2)
        have HTX := Lib.hid (texts_any (C := C2) xa2 xc2 ya2 yc2 L w16 (HBB15.out.under (hb16.mono HC3.out)) (Nat.le_trans HC3.out hb16.size) hst hyc)
        clear hyc hst hr16 hgm2 hb16
        go_wp2_with fail
        refine HTX.out.mono ?_
        rintro e w17 ⟨rfl, hb17⟩
        have HLN := Lib.hid ((HLOG16.out.below hb17).mono HC2.out)
        have HRN := Lib.hid (HR16.out.below hb17)
        have HBN := Lib.hid (HB16.out.trans (hb17.mono HB16.out.size))
        clear hb17
        have HSN : Hid ((catR L).length + ([] : List UInt8).length ≤ (i + 1) * 206) := Lib.hid (by
          have := HCL.out
          simp only [List.length_nil]
          omega)
        obtain ⟨vwn, hvwn⟩ : ∃ v : Value, v = .slice none 0 0 := ⟨_, rfl⟩
        rw [← hvwn] at HLN
        clear hvwn
        skip
        have HKN := Lib.hid (show ∀ wx, Below w17.heap.size w17 wx → (wx.cell? ⟨gm2, 0, none⟩ = some (.string ⟨((catR L)).toArray⟩) ∧ wx.cell? ⟨gm2, 1, none⟩ = some (.string ⟨(([] : List UInt8)).toArray⟩)) ∧ Below w17.heap.size w17 wx from
          fun wx h => ⟨⟨(box3 (HRN.out.below h)).1.1, (box3 (HRN.out.below h)).1.2.1⟩, h⟩)
        have HBYN := Lib.hid fun (wx : World) (h : Below w17.heap.size w17 wx) => bytes_any wx (HLN.out.below h) (by have := HSN.out; have := HI80.out; omega)
        have HWAN := Lib.hid fun (wx : World) (h : Below w17.heap.size w17 wx) => waits_any wx (HLN.out.below h)
        have HSN2 := Lib.hid HSN.out
        obtain ⟨SY, hSY⟩ : ∃ SY, SY = (catR L) := ⟨_, rfl⟩
        obtain ⟨WA, hWA⟩ : ∃ WA, WA = ([] : List UInt8) := ⟨_, rfl⟩
        obtain ⟨BG, hBG⟩ : ∃ BG, BG = false := ⟨_, rfl⟩
        rw [← hSY, ← hWA] at HKN HSN2
        rw [← hSY, ← hWA, ← hBG] at HLN HRN
        rw [← hSY] at HBYN
        rw [← hWA] at HWAN
        clear hSY hWA hBG
        go_wp2_with fail
        refine wp_region_noPanic ?_
        refine wp_region_held_drew (S := (fun wx => (wx.cell? ⟨gm2, 0, none⟩ = some (.string ⟨SY.toArray⟩) ∧ wx.cell? ⟨gm2, 1, none⟩ = some (.string ⟨WA.toArray⟩)) ∧ Below w17.heap.size w17 wx)) (by kernel_rfl) ?_ (fun hHeld => ?_)
        · exact HKN.out _ (below_drew _)
        refine wpAnyH_take (i := 0) (oi := ⟨some 113, _, _, _, _, _⟩) (v := ?_) rfl (by kernel_rfl) (by kernel_rfl) (by kernel_rfl) (fun _ _ _ h => h) (Or.inl ⟨by rfl, ?_⟩) (by assumption) ?_
        rotate_left
        · intro w' hSw
          (try dsimp only at hSw)
          go_simp
          try with_reducible rfl
        simp only [Act.put, List.setIfInBounds_toArray, List.set_cons_zero, List.set_cons_succ]
        refine wpAnyH_take (i := 3) (oi := ⟨some 116, _, _, _, _, _⟩) (v := ?_) rfl (by kernel_rfl) (by kernel_rfl) (by kernel_rfl) (fun _ _ _ h => h) (Or.inl ⟨by rfl, ?_⟩) (by assumption) ?_
        rotate_left
        · intro w' hSw
          (try dsimp only at hSw)
          go_simp
          try with_reducible rfl
        simp only [Act.put, List.setIfInBounds_toArray, List.set_cons_zero, List.set_cons_succ]
        refine wpAnyH_take (i := 4) (oi := ⟨some 117, _, _, _, _, _⟩) (v := ?_) rfl (by kernel_rfl) (by kernel_rfl) (by kernel_rfl) (fun _ _ _ h => h) (Or.inl ⟨by rfl, ?_⟩) (by assumption) ?_
        rotate_left
        · intro w' hSw
          (try dsimp only at hSw)
          go_simp
          try with_reducible rfl
        simp only [Act.put, List.setIfInBounds_toArray, List.set_cons_zero, List.set_cons_succ]
        refine wpAnyH_take (i := 5) (oi := ⟨some 118, _, _, _, _, _⟩) (v := ?_) rfl (by kernel_rfl) (by kernel_rfl) (by kernel_rfl) (fun _ _ _ h => h) (Or.inl ⟨by rfl, ?_⟩) (by assumption) ?_
        rotate_left
        · intro w' hSw
          (try dsimp only at hSw)
          go_simp
          try with_reducible rfl
        simp only [Act.put, List.setIfInBounds_toArray, List.set_cons_zero, List.set_cons_succ]
        refine wpAnyH_take (i := 6) (oi := ⟨some 119, _, _, _, _, _⟩) (v := ?_) rfl (by kernel_rfl) (by kernel_rfl) (by kernel_rfl) (fun _ _ _ h => h) (Or.inl ⟨by rfl, ?_⟩) (by assumption) ?_
        rotate_left
        · intro w' hSw
          (try dsimp only at hSw)
          go_simp
          try with_reducible rfl
        simp only [Act.put, List.setIfInBounds_toArray, List.set_cons_zero, List.set_cons_succ]
        refine wpAnyH_ready (rs := [1]) (by kernel_rfl) (by simp) ?_
        refine AllReadyH.cons (o := ⟨some 114, _, _, _, _, _⟩) rfl (fun K hK => ?_) AllReadyH.nil
        go_simp
        go_at_call 20
        refine (HBYN.out _ hHeld.2).mono ?_
        rintro e w16 ⟨v16, rfl, hbf16, hb16⟩
        obtain ⟨a16, c16, rfl, -, -, hat16⟩ := hbf16.bytes
        have hcv16 := conv_str c16 hat16
        have hEN := hHeld.2.trans (hb16.mono hHeld.2.size)
        clear hb16 hbf16 hat16 hHeld
        refine hK.out _ _ ?_ (fun hHeld => ?_)
        · exact HKN.out _ hEN
        clear hK K
        try simp only [Act.put, List.setIfInBounds_toArray, List.set_cons_zero, List.set_cons_succ]
        refine wpAnyH_up (S' := (fun wx => ((wx.cell? ⟨gm2, 0, none⟩ = some (.string ⟨SY.toArray⟩) ∧ wx.cell? ⟨gm2, 1, none⟩ = some (.string ⟨WA.toArray⟩)) ∧ Below w17.heap.size w17 wx) ∧ (convert 22 9 (.slice a16 SY.length c16)).run Try.prog wx = .ok (.string ⟨SY.toArray⟩) wx)) (fun wx h => h.1) _ _ _ _ ?_
        have hHeld2 := And.intro hHeld hcv16
        clear hHeld
        have hHeld := hHeld2
        clear hHeld2
        refine wpAnyH_take (i := 2) (oi := ⟨some 115, _, _, _, _, _⟩) (v := ?_) rfl (by kernel_rfl) (by kernel_rfl) (by kernel_rfl) (fun _ _ _ h => h) (Or.inl ⟨by rfl, ?_⟩) (by assumption) ?_
        rotate_left
        · intro w' hSw
          (try dsimp only at hSw)
          go_simp
          try with_reducible rfl
        simp only [Act.put, List.setIfInBounds_toArray, List.set_cons_zero, List.set_cons_succ]
        refine wpAnyH_take (i := 7) (oi := ⟨some 120, _, _, _, _, _⟩) (v := ?_) rfl (by kernel_rfl) (by kernel_rfl) (by kernel_rfl) (fun _ _ _ h => h) (Or.inl ⟨by rfl, ?_⟩) (by assumption) ?_
        rotate_left
        · intro w' hSw
          (try dsimp only at hSw)
          go_simp
          try with_reducible rfl
        simp only [Act.put, List.setIfInBounds_toArray, List.set_cons_zero, List.set_cons_succ]
        refine wpAnyH_take (i := 8) (oi := ⟨some 121, _, _, _, _, _⟩) (v := ?_) rfl (by kernel_rfl) (by kernel_rfl) (by kernel_rfl) (fun _ _ _ h => h) (Or.inl ⟨by rfl, ?_⟩) (by assumption) ?_
        rotate_left
        · intro w' hSw
          (try dsimp only at hSw)
          go_simp
          try with_reducible rfl
        simp only [Act.put, List.setIfInBounds_toArray, List.set_cons_zero, List.set_cons_succ]
        refine wpAnyH_take (i := 9) (oi := ⟨some 122, _, _, _, _, _⟩) (v := ?_) rfl (by kernel_rfl) (by kernel_rfl) (by kernel_rfl) (fun _ _ _ h => h) (Or.inl ⟨by rfl, ?_⟩) (by assumption) ?_
        rotate_left
        · intro w' hSw
          (try dsimp only at hSw)
          go_simp
          try with_reducible rfl
        simp only [Act.put, List.setIfInBounds_toArray, List.set_cons_zero, List.set_cons_succ]
        refine wpAnyH_take (i := 11) (oi := ⟨some 124, _, _, _, _, _⟩) (v := ?_) rfl (by kernel_rfl) (by kernel_rfl) (by kernel_rfl) (fun _ _ _ h => h) (Or.inl ⟨by rfl, ?_⟩) (by assumption) ?_
        rotate_left
        · intro w' hSw
          (try dsimp only at hSw)
          go_simp
          try with_reducible rfl
        simp only [Act.put, List.setIfInBounds_toArray, List.set_cons_zero, List.set_cons_succ]
        refine wpAnyH_take (i := 12) (oi := ⟨some 125, _, _, _, _, _⟩) (v := ?_) rfl (by kernel_rfl) (by kernel_rfl) (by kernel_rfl) (fun _ _ _ h => h) (Or.inl ⟨by rfl, ?_⟩) (by assumption) ?_
        rotate_left
        · intro w' hSw
          (try dsimp only at hSw)
          go_simp
          try with_reducible rfl
        simp only [Act.put, List.setIfInBounds_toArray, List.set_cons_zero, List.set_cons_succ]
        refine wpAnyH_take (i := 13) (oi := ⟨some 126, _, _, _, _, _⟩) (v := ?_) rfl (by kernel_rfl) (by kernel_rfl) (by kernel_rfl) (fun _ _ _ h => h) (Or.inl ⟨by rfl, ?_⟩) (by assumption) ?_
        rotate_left
        · intro w' hSw
          (try dsimp only at hSw)
          go_simp
          try with_reducible rfl
        simp only [Act.put, List.setIfInBounds_toArray, List.set_cons_zero, List.set_cons_succ]
        refine wpAnyH_take (i := 14) (oi := ⟨some 127, _, _, _, _, _⟩) (v := ?_) rfl (by kernel_rfl) (by kernel_rfl) (by kernel_rfl) (fun _ _ _ h => h) (Or.inl ⟨by rfl, ?_⟩) (by assumption) ?_
        rotate_left
        · intro w' hSw
          (try dsimp only at hSw)
          go_simp
          try with_reducible rfl
        simp only [Act.put, List.setIfInBounds_toArray, List.set_cons_zero, List.set_cons_succ]
        refine wpAnyH_take (i := 15) (oi := ⟨some 128, _, _, _, _, _⟩) (v := ?_) rfl (by kernel_rfl) (by kernel_rfl) (by kernel_rfl) (fun _ _ _ h => h) (Or.inl ⟨by rfl, ?_⟩) (by assumption) ?_
        rotate_left
        · intro w' hSw
          (try dsimp only at hSw)
          go_simp
          try with_reducible rfl
        simp only [Act.put, List.setIfInBounds_toArray, List.set_cons_zero, List.set_cons_succ]
        refine wpAnyH_ready (rs := [10]) (by kernel_rfl) (by simp) ?_
        refine AllReadyH.cons (o := ⟨some 123, _, _, _, _, _⟩) rfl (fun K hK => ?_) AllReadyH.nil
        go_simp
        go_at_call 21
        refine (HWAN.out _ hEN).mono ?_
        rintro e wx ⟨rfl, rfl⟩
        refine hK.out _ _ ?_ (fun hHeld => ?_)
        · exact hHeld
        clear hK K
        try simp only [Act.put, List.setIfInBounds_toArray, List.set_cons_zero, List.set_cons_succ]
        refine wpAnyH_take (i := 16) (oi := ⟨some 129, _, _, _, _, _⟩) (v := ?_) rfl (by kernel_rfl) (by kernel_rfl) (by kernel_rfl) (fun _ _ _ h => h) (Or.inl ⟨by rfl, ?_⟩) (by assumption) ?_
        rotate_left
        · intro w' hSw
          (try dsimp only at hSw)
          go_simp
          try with_reducible rfl
        simp only [Act.put, List.setIfInBounds_toArray, List.set_cons_zero, List.set_cons_succ]
        refine wpAnyH_take (i := 17) (oi := ⟨some 130, _, _, _, _, _⟩) (v := ?_) rfl (by kernel_rfl) (by kernel_rfl) (by kernel_rfl) (fun _ _ _ h => h) (Or.inl ⟨by rfl, ?_⟩) (by assumption) ?_
        rotate_left
        · intro w' hSw
          (try dsimp only at hSw)
          go_simp
          try with_reducible rfl
        simp only [Act.put, List.setIfInBounds_toArray, List.set_cons_zero, List.set_cons_succ]
        refine wpAnyH_done (by kernel_rfl) ?_ _
        refine NoPanic.normal ?_

        have HEN := Lib.hid hEN
        try clear hcv16
        go_wp2_with fail
        go_roundg (l.length - (i + 1))
        case measure => omega
        case rel => exact ⟨i + 1, g2, gm2, SY, WA, BG, by omega, rfl, rfl, by simp, rfl, ⟨vs2, vwn, HLN.out.below HEN.out⟩, HRN.out.below HEN.out, HGM2.out, HSN2.out, HBN.out.trans (HEN.out.mono HBN.out.size)⟩

end Go.Proofs.Ytifgkmaaglaffaa.Sg
