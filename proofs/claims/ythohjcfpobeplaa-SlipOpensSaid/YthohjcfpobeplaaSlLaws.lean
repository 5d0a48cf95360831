/-
  SlipStates, walked (printed by tools/gen_slstates.py).
  SlipOpens, walked (printed by tools/gen_slopens.py).
-/
import Derived.Test.YthohjcfpobeplaaSlLog
import Derived.Test.YthohjcfpobeplaaSlApp
import Derived.Deep.RegionHeld3
import Derived.Test.YthohjcfpobeplaaSlRApp

namespace Go.Proofs.Ythohjcfpobeplaa.Sl
open Go.RowKit Rg Sh
set_option linter.unusedVariables false
set_option linter.unusedSimpArgs false

theorem rx_one_at {w : World} {g : Nat} {x : Rx} (h : w.heap[g]? = some (.cells (rxC x).toArray 89 (0, 0))) : RowsAt 9 rxC w (some ⟨g, 0, none⟩) 1 [x] :=
  ⟨by simp, by simp [maxLen], fun _ => ⟨_, _, rfl, fun i hi r u hu => by
    simp at hi
    subst hi
    rw [cell_of_row _ _ _ _ _ _ h]
    simpa using hu⟩⟩
theorem own_litx {w : World} (o : Obj) : OwnE 9 rxC 89 ((w.drew.alloc o).alloc (.cells #[] 89)) w.heap.size (.slice (some ⟨w.heap.size + 1, 0, none⟩) 0 0) [] := by
  have h := OwnE.lit rxE (w.drew.alloc o) w.heap.size (by show w.heap.size ≤ (w.alloc o).heap.size; simp)
  have e : (w.drew.alloc o).heap.size = w.heap.size + 1 := by show (w.alloc o).heap.size = _; simp
  rwa [e] at h
theorem rl_snoc {w : World} {l : List Rx} {x : Rx} (h : ∀ y ∈ l, RxAt w y) (hx : RxAt w x) : ∀ y ∈ l ++ [x], RxAt w y := by
  intro y hy
  rcases List.mem_append.1 hy with hy | hy
  · exact h y hy
  · obtain rfl : y = x := by simpa using hy
    exact hx
/-- records, and the whole state behind them. -/
theorem open_state {l : List Rc} {s : Sd} (h : (openF sd1 l).2 = 0) : openF sd1 (l ++ [⟨7, 0, false, [], s⟩]) = (s, 0) := by
  rw [open_snoc _ h]
  rfl

set_option maxRecDepth 100000 in
set_option maxHeartbeats 8000000 in
theorem states_any (ht : ∀ w, Calls Try.prog 57 #[] w fun e w' => e = .returned (.bool true) ∧ Below w.heap.size w w') (a0 : Option Addr) (cap0 : Nat) (l0 : List OpD) (a1 : Option Addr) (cap1 : Nat) (l1 : List OpD) (w : World) (w0 : OpsAt w a0 cap0 l0) (w1 : OpsAt w a1 cap1 l1) :
    Calls Try.prog 15 #[.slice a0 l0.length cap0, .slice a1 l1.length cap1] w fun e w' => e = .returned (.bool true) ∧ Below w.heap.size w w' := by
  have HT := Lib.hid ht
  have HO0 := Lib.hid w0
  have HO1 := Lib.hid w1
  clear ht w0 w1
  by_cases h60 : (60 : Int) < (l0.length : Int)
  · go_enter Try.func15, Try.ntmps15
    go_wp2_with (go_at_call 57; refine (HT.out w).mono ?_; rintro e w2 ⟨rfl, hb⟩; have HB3 := Lib.hid hb; clear hb)
    go_ret
    exact ⟨rfl, HB3.out⟩
  by_cases h40 : (40 : Int) < (l1.length : Int)
  · go_enter Try.func15, Try.ntmps15
    go_wp2_with (go_at_call 57; refine (HT.out w).mono ?_; rintro e w2 ⟨rfl, hb⟩; have HB3 := Lib.hid hb; clear hb)
    go_ret
    exact ⟨rfl, HB3.out⟩
  have hl0 : l0.length ≤ 60 := by omega
  have hl1 : l1.length ≤ 40 := by omega
  have HLG0 := Lib.hid (log_any a0 cap0 l0 w HO0.out (by omega))
  have hk0 := log_all l0 (by omega)
  have hk1 := log_all l1 (by omega)
  have HK0 := Lib.hid hk0
  have HK1 := Lib.hid hk1
  have HL1 := Lib.hid hl1
  clear hl0 hl1 hk0 hk1
  go_enter Try.func15, Try.ntmps15
  go_upto_region 4 with (go_at_call 58; refine HLG0.out.mono ?_; rintro e w2 ⟨xs, ax, cx, ra2, rc2, ha2, hc2, ma2, mc2, rfl, hrl, hrc, hsd, hb⟩; have HRL := Lib.hid hrl; have HRC := Lib.hid hrc; have HSD := Lib.hid hsd; have HB := Lib.hid hb; clear hrl hrc hsd hb)
  clear HLG0
  generalize hs : (logF l0).2 = s at *
  have HSS := Lib.hid hs
  clear hs
  have p1 := heap_alloc_new w2 (.cells #[.bool s.fr, .int .i64 s.nx, .slice ra2 s.rd.length rc2, .slice ha2 s.hd.length hc2, .slice ma2 s.ms.length mc2] 26)
  have p2 : Below w2.heap.size w2 (w2.alloc (.cells #[.bool s.fr, .int .i64 s.nx, .slice ra2 s.rd.length rc2, .slice ha2 s.hd.length hc2, .slice ma2 s.ms.length mc2] 26)) := (Below.refl _ _).alloc (Nat.le_refl _) _
  generalize w2.alloc (.cells #[.bool s.fr, .int .i64 s.nx, .slice ra2 s.rd.length rc2, .slice ha2 s.hd.length hc2, .slice ma2 s.ms.length mc2] 26) = W1 at *
  have HXA := Lib.hid (show Bx W1 w2.heap.size ra2 rc2 ha2 hc2 ma2 mc2 s from ⟨p1, HSD.out.below _ _ _ _ _ _ p2⟩)
  have HRA := Lib.hid (HRL.out.below p2)
  have HBA := Lib.hid (HB.out.trans (p2.mono HB.out.size))
  clear p1 p2 HSD HRL HB
  generalize w2.heap.size = g1 at *
  have HLG1 := Lib.hid (log_any a1 cap1 l1 W1 (HO1.out.below HBA.out) (by have := HL1.out; omega))
  go_upto_region 5 with (go_at_call 58; refine HLG1.out.mono ?_; rintro e w2 ⟨ys, ay, cy, ra3, rc3, ha3, hc3, ma3, mc3, rfl, hrl, hrc, hsd, hb⟩; have HYL := Lib.hid hrl; have HYC := Lib.hid hrc; have HB := Lib.hid hb; clear hrl hrc hsd hb)
  clear HLG1
  have p2 : Below w2.heap.size w2 (w2.alloc (.cells #[.bool ((logF l1).2).fr, .int .i64 ((logF l1).2).nx, .slice ra3 ((logF l1).2).rd.length rc3, .slice ha3 ((logF l1).2).hd.length hc3, .slice ma3 ((logF l1).2).ms.length mc3] 26)) := (Below.refl _ _).alloc (Nat.le_refl _) _
  generalize w2.alloc (.cells #[.bool ((logF l1).2).fr, .int .i64 ((logF l1).2).nx, .slice ra3 ((logF l1).2).rd.length rc3, .slice ha3 ((logF l1).2).hd.length hc3, .slice ma3 ((logF l1).2).ms.length mc3] 26) = W2 at *
  have hb12 := HB.out.trans (p2.mono HB.out.size)
  have HX2 := Lib.hid (HXA.out.below _ _ _ _ _ _ hb12)
  have HR2 := Lib.hid (HRA.out.below hb12)
  have HY2 := Lib.hid (HYL.out.below p2)
  have HB2 := Lib.hid (HBA.out.trans (hb12.mono HBA.out.size))
  have hyl : ys.length ≤ 40 := by
    have h1 := HK1.out.len
    have h2 := HL1.out
    rw [← HYC.out] at h1
    simp only [rcs, List.length_map] at h1
    omega
  have HML : Hid (ys.length + 1 ≤ 1000) := Lib.hid (by omega)
  clear p2 hb12 HXA HRA HBA HYL HB
  go_cut [9] from 14 (fun v9 wx => ∃ a3 c3, v9 = .slice a3 (ys.length + 1) c3 ∧ RlAt wx a3 c3 (ys ++ [⟨⟨7, 0, false, [], s⟩, none, 0, ra2, rc2, ha2, hc2, ma2, mc2⟩]) ∧ Below W2.heap.size W2 wx)
  case first =>
    have HK14 := Lib.hid (fun (wz : World) (k : Below W2.heap.size W2 wz) => (box5 (box_bl HX2.out.bx k)).1)
    have HXS := Lib.hid (HK14.out _ (Below.refl _ _))
    have hd7 : Below W2.heap.size W2 W2.drew := (Below.refl _ _).drew
    have HD7 := Lib.hid hd7
    have ha7 : Below W2.heap.size W2 (W2.drew.alloc (.cells #[] 89)) := hd7.alloc (w := W2.drew) (Nat.le_refl _) _
    have HA7 := Lib.hid ha7
    have HOa := Lib.hid (OwnE.lit rxE W2.drew W2.heap.size (Nat.le_refl _))
    have hab : Below W2.heap.size W2 ((W2.drew.alloc (.cells #[] 89)).alloc (.cells #[.int .i64 7, .int .i64 0, .bool false, .slice none 0 0, .bool s.fr, .int .i64 s.nx, .slice ra2 s.rd.length rc2, .slice ha2 s.hd.length hc2, .slice ma2 s.ms.length mc2] 89)) := ha7.alloc (Nat.le_trans (Nat.le_refl _) ha7.size) _
    have HAb := Lib.hid hab
    have HOb := Lib.hid (OwnE.below1 HOa.out ((Below.refl _ (W2.drew.alloc (.cells #[] 89))).alloc (Nat.le_refl _) (.cells #[.int .i64 7, .int .i64 0, .bool false, .slice none 0 0, .bool s.fr, .int .i64 s.nx, .slice ra2 s.rd.length rc2, .slice ha2 s.hd.length hc2, .slice ma2 s.ms.length mc2] 89)))
    have hac1 : Below W2.heap.size W2 (W2.drew.alloc (.cells #[.int .i64 7, .int .i64 0, .bool false, .slice none 0 0, .bool s.fr, .int .i64 s.nx, .slice ra2 s.rd.length rc2, .slice ha2 s.hd.length hc2, .slice ma2 s.ms.length mc2] 89)) := hd7.alloc (w := W2.drew) (Nat.le_refl _) _
    have HAc1 := Lib.hid hac1
    have HAc := Lib.hid (hac1.alloc hac1.size (.cells #[] 89))
    have HP3 := Lib.hid (two_box (w := W2) (.cells #[.int .i64 7, .int .i64 0, .bool false, .slice none 0 0, .bool s.fr, .int .i64 s.nx, .slice ra2 s.rd.length rc2, .slice ha2 s.hd.length hc2, .slice ma2 s.ms.length mc2] 89) (.cells #[] 89))
    have HOc := Lib.hid (own_litx (w := W2) (.cells #[.int .i64 7, .int .i64 0, .bool false, .slice none 0 0, .bool s.fr, .int .i64 s.nx, .slice ra2 s.rd.length rc2, .slice ha2 s.hd.length hc2, .slice ma2 s.ms.length mc2] 89))
    have HP2 := Lib.hid (two_boxd (w := W2) (.cells #[] 89) (.cells #[.int .i64 7, .int .i64 0, .bool false, .slice none 0 0, .bool s.fr, .int .i64 s.nx, .slice ra2 s.rd.length rc2, .slice ha2 s.hd.length hc2, .slice ma2 s.ms.length mc2] 89))
    clear hd7 ha7 hab hac1
    have hXS := HXS.out
    go_region_held3 (fun wx => (wx.cell? ⟨g1, 0, none⟩ = some (.bool s.fr) ∧ wx.cell? ⟨g1, 1, none⟩ = some (.int .i64 s.nx) ∧ wx.cell? ⟨g1, 2, none⟩ = some (.slice ra2 s.rd.length rc2) ∧ wx.cell? ⟨g1, 3, none⟩ = some (.slice ha2 s.hd.length hc2) ∧ wx.cell? ⟨g1, 4, none⟩ = some (.slice ma2 s.ms.length mc2)))
      (first | exact HK14.out _ HD7.out | exact HK14.out _ HA7.out | exact HK14.out _ HAb.out | exact HK14.out _ HAc1.out | exact HK14.out _ HAc.out | exact HK14.out _ HB8.out | exact HK14.out _ HB9.out | exact HK14.out _ (HB8.out.alloc HB8.out.size _) | exact HK14.out _ (Below.drew HB8.out) | assumption)
      (first | (refine step_put_rows rxE (m := ys) rfl (.tmp 33) (.tmp 34) rfl HOa.out HA7.out.size rfl _ rfl rfl ((HY2.out.below HA7.out).at') (by have := HML.out; rw [List.length_nil]; omega) HY2.out.nil ?_; intro v8 w8 hown8 hg8; have HOWN8 := Lib.hid hown8; have HB8 := Lib.hid (OwnE.grown HA7.out HOa.out hg8 HA7.out.size); clear hown8 hg8) | (refine step_put_one rxE (⟨⟨7, 0, false, [], s⟩, none, 0, ra2, rc2, ha2, hc2, ma2, mc2⟩ : Rx) rfl (.tmp 35) (.tmp 38) rfl HOWN8.out HB8.out.size (by have := HML.out; rw [List.length_append, List.length_nil]; omega) _ rfl rfl _ rfl rfl ?_; intro v9 w9 hown9 hg9; obtain ⟨xh, ch, rfl, hat9, hnn9⟩ := OwnE.at rxE hown9; have HOWN9 := Lib.hid (And.intro hat9 hnn9); have HB9 := Lib.hid (OwnE.grown HB8.out HOWN8.out hg9 HB8.out.size); clear hown9 hg9 hat9 hnn9) | (refine step_put_rows rxE (m := ys) rfl (.tmp 33) (.tmp 34) rfl HOb.out HAb.out.size rfl _ rfl rfl ((HY2.out.below HAb.out).at') (by have := HML.out; rw [List.length_nil]; omega) HY2.out.nil ?_; intro v8 w8 hown8 hg8; have HOWN8 := Lib.hid hown8; have HB8 := Lib.hid (OwnE.grown HAb.out HOb.out hg8 HAb.out.size); have hq8 := (hg8.block (W2.heap.size + 1) (by have := HP2.out.2.2; show _ < ((W2.alloc (.cells #[] 89)).drew.alloc (.cells #[.int .i64 7, .int .i64 0, .bool false, .slice none 0 0, .bool s.fr, .int .i64 s.nx, .slice ra2 s.rd.length rc2, .slice ha2 s.hd.length hc2, .slice ma2 s.ms.length mc2] 89)).heap.size; omega) (by intro e; have e : W2.heap.size + 1 = W2.heap.size := Option.some.inj e; omega)).trans HP2.out.1; have HR8 := Lib.hid (rx_one_at (x := ⟨⟨7, 0, false, [], s⟩, none, 0, ra2, rc2, ha2, hc2, ma2, mc2⟩) hq8); clear hq8; clear hown8 hg8) | (refine step_put_rows rxE (m := ys) rfl (.tmp 33) (.tmp 34) rfl HOc.out HAc.out.size rfl _ rfl rfl ((HY2.out.below HAc.out).at') (by have := HML.out; rw [List.length_nil]; omega) HY2.out.nil ?_; intro v8 w8 hown8 hg8; have HOWN8 := Lib.hid hown8; have HB8 := Lib.hid (OwnE.grown HAc.out HOc.out hg8 HAc.out.size); have hq8 := (hg8.block W2.heap.size (by have := HP3.out.2.2.2; show _ < ((W2.alloc (.cells #[.int .i64 7, .int .i64 0, .bool false, .slice none 0 0, .bool s.fr, .int .i64 s.nx, .slice ra2 s.rd.length rc2, .slice ha2 s.hd.length hc2, .slice ma2 s.ms.length mc2] 89)).alloc (.cells #[] 89)).heap.size; omega) (by intro e; have e : W2.heap.size = W2.heap.size + 1 := Option.some.inj e; omega)).trans HP3.out.1; have HR8 := Lib.hid (rx_one_at (x := ⟨⟨7, 0, false, [], s⟩, none, 0, ra2, rc2, ha2, hc2, ma2, mc2⟩) hq8); clear hq8; clear hown8 hg8) | (refine step_put_rows rxE (m := [(⟨⟨7, 0, false, [], s⟩, none, 0, ra2, rc2, ha2, hc2, ma2, mc2⟩ : Rx)]) rfl (.tmp 35) (.tmp 38) rfl HOWN8.out HB8.out.size rfl _ rfl rfl HR8.out (by have := HML.out; rw [List.length_append, List.length_nil]; simp; omega) (fun e => by cases e) ?_; intro v9 w9 hown9 hg9; obtain ⟨xh, ch, rfl, hat9, hnn9⟩ := OwnE.at rxE hown9; have HOWN9 := Lib.hid (And.intro hat9 hnn9); have HB9 := Lib.hid (OwnE.grown HB8.out HOWN8.out hg9 HB8.out.size); clear hown9 hg9 hat9 hnn9))
    all_goals
      rename_i hHeld
      clear hHeld
      go_wp2_with fail
      go_meet
      case rel => exact ⟨_, _, rfl, ⟨HOWN9.out.1, HOWN9.out.2, rl_snoc (HY2.out.below HB9.out).all ⟨mgs_nil _, fun _ => rfl, Nat.zero_le _, HX2.out.sd.below _ _ _ _ _ _ HB9.out⟩⟩, HB9.out⟩
  case rest =>
  obtain ⟨a3, c3, rfl, hz3, hb3⟩ := hcut
  have HZ3 := Lib.hid hz3
  have HB3 := Lib.hid (HB2.out.trans (hb3.mono HB2.out.size))
  have HX3 := Lib.hid (HX2.out.below _ _ _ _ _ _ hb3)
  have HR3 := Lib.hid (HR2.out.below hb3)
  clear hz3 hb3
  generalize wc = W3 at *
  have HM1 : Hid (∀ x ∈ xs, MayRc x.r) := Lib.hid fun x hx => (HK0.out.recs x.r (by rw [← HRC.out]; exact List.mem_map_of_mem hx)).1
  have HM2 : Hid (∀ x ∈ ys ++ [(⟨⟨7, 0, false, [], s⟩, none, 0, ra2, rc2, ha2, hc2, ma2, mc2⟩ : Rx)], MayRc x.r) := Lib.hid fun x hx => by
    rcases List.mem_append.1 hx with hx | hx
    · exact (HK1.out.recs x.r (by rw [← HYC.out]; exact List.mem_map_of_mem hx)).1
    · obtain rfl : x = ⟨⟨7, 0, false, [], s⟩, none, 0, ra2, rc2, ha2, hc2, ma2, mc2⟩ := by simpa using hx
      exact ⟨rfl, .inr (.inr (.inr ⟨rfl, rfl, rfl, HSS.out ▸ HK0.out.may⟩))⟩
  have hlz : (ys ++ [(⟨⟨7, 0, false, [], s⟩, none, 0, ra2, rc2, ha2, hc2, ma2, mc2⟩ : Rx)]).length = ys.length + 1 := by simp
  have HOZ : Hid (openF sd1 (rcs (ys ++ [(⟨⟨7, 0, false, [], s⟩, none, 0, ra2, rc2, ha2, hc2, ma2, mc2⟩ : Rx)])) = (s, 0)) := Lib.hid (by
    have h1 : rcs (ys ++ [(⟨⟨7, 0, false, [], s⟩, none, 0, ra2, rc2, ha2, hc2, ma2, mc2⟩ : Rx)]) = (logF l1).1 ++ [⟨7, 0, false, [], s⟩] := by rw [← HYC.out]; simp [rcs]
    rw [h1]
    exact open_state (by rw [HK1.out.opens]))
  have HOX : Hid (openF sd1 (rcs xs) = (s, 0)) := Lib.hid (by rw [HRC.out, HK0.out.opens, HSS.out])
  have ho1 := open_any a3 c3 _ W3 HZ3.out HM2.out
  rw [hlz, HOZ.out] at ho1
  have HP1 := Lib.hid ho1
  have HP2 : Hid (∀ wx, Below W3.heap.size W3 wx → Calls Try.prog 59 #[.slice ax xs.length cx] wx (ShR s 0 wx)) := Lib.hid fun wx h => by
    have := open_any ax cx xs wx (HR3.out.below h) HM1.out
    rw [HOX.out] at this
    exact this
  clear ho1 hlz hyl
  go_upto_region 7 with (go_at_call 59; refine HP1.out.mono ?_; rintro e w4 ⟨ra4, rc4, ha4, hc4, ma4, mc4, rfl, hs4, hb4⟩; have HS4 := Lib.hid hs4; have HB4 := Lib.hid hb4; clear hs4 hb4)
  have p1 := heap_alloc_new w4 (.cells #[.bool s.fr, .int .i64 s.nx, .slice ra4 s.rd.length rc4, .slice ha4 s.hd.length hc4, .slice ma4 s.ms.length mc4] 26)
  have p2 : Below w4.heap.size w4 (w4.alloc (.cells #[.bool s.fr, .int .i64 s.nx, .slice ra4 s.rd.length rc4, .slice ha4 s.hd.length hc4, .slice ma4 s.ms.length mc4] 26)) := (Below.refl _ _).alloc (Nat.le_refl _) _
  generalize w4.alloc (.cells #[.bool s.fr, .int .i64 s.nx, .slice ra4 s.rd.length rc4, .slice ha4 s.hd.length hc4, .slice ma4 s.ms.length mc4] 26) = W5 at *
  have hb35 := HB4.out.trans (p2.mono HB4.out.size)
  have HXB := Lib.hid (show Bx W5 w4.heap.size ra4 rc4 ha4 hc4 ma4 mc4 s from ⟨p1, HS4.out.below _ _ _ _ _ _ p2⟩)
  have HX5 := Lib.hid (HX3.out.below _ _ _ _ _ _ hb35)
  have HB5 := Lib.hid (HB3.out.trans (hb35.mono HB3.out.size))
  have HP3 := Lib.hid (HP2.out W5 hb35)
  clear p1 p2 hb35 HP1 HP2 HS4 HB4
  generalize w4.heap.size = g2 at *
  go_upto_region 8 with (go_at_call 59; refine HP3.out.mono ?_; rintro e w6 ⟨ra6, rc6, ha6, hc6, ma6, mc6, rfl, hs6, hb6⟩; have HS6 := Lib.hid hs6; have HB6 := Lib.hid hb6; clear hs6 hb6)
  have p1 := heap_alloc_new w6 (.cells #[.bool s.fr, .int .i64 s.nx, .slice ra6 s.rd.length rc6, .slice ha6 s.hd.length hc6, .slice ma6 s.ms.length mc6] 26)
  have p2 : Below w6.heap.size w6 (w6.alloc (.cells #[.bool s.fr, .int .i64 s.nx, .slice ra6 s.rd.length rc6, .slice ha6 s.hd.length hc6, .slice ma6 s.ms.length mc6] 26)) := (Below.refl _ _).alloc (Nat.le_refl _) _
  generalize w6.alloc (.cells #[.bool s.fr, .int .i64 s.nx, .slice ra6 s.rd.length rc6, .slice ha6 s.hd.length hc6, .slice ma6 s.ms.length mc6] 26) = W7 at *
  have hb57 := HB6.out.trans (p2.mono HB6.out.size)
  have HXC := Lib.hid (show Bx W7 w6.heap.size ra6 rc6 ha6 hc6 ma6 mc6 s from ⟨p1, HS6.out.below _ _ _ _ _ _ p2⟩)
  have HX7 := Lib.hid (HX5.out.below _ _ _ _ _ _ hb57)
  have HXB7 := Lib.hid (HXB.out.below _ _ _ _ _ _ hb57)
  have HB7 := Lib.hid (HB5.out.trans (hb57.mono HB5.out.size))
  clear p1 p2 hb57 HP3 HS6 HB6
  generalize w6.heap.size = g3 at *
  have HBX := Lib.hid (fun (wx : World) (h : Below W7.heap.size W7 wx) => And.intro (box5 (box_bl HX7.out.bx h)).1 (And.intro (box5 (box_bl HXB7.out.bx h)).1 (box5 (box_bl HXC.out.bx h)).1))
  have HSA : Hid (∀ wx, Below W7.heap.size W7 wx → Calls Try.prog 37 #[.agg #[.bool s.fr, .int .i64 s.nx, .slice ra4 s.rd.length rc4, .slice ha4 s.hd.length hc4, .slice ma4 s.ms.length mc4], .agg #[.bool s.fr, .int .i64 s.nx, .slice ra6 s.rd.length rc6, .slice ha6 s.hd.length hc6, .slice ma6 s.ms.length mc6]] wx fun e w' => e = .returned (.bool true) ∧ Below wx.heap.size wx w') := Lib.hid fun wx h => by
    have := psame_any s s ra4 rc4 ha4 hc4 ma4 mc4 ra6 rc6 ha6 hc6 ma6 mc6 wx (HXB7.out.sd.below _ _ _ _ _ _ h) (HXC.out.sd.below _ _ _ _ _ _ h)
    rwa [decide_eq_true rfl] at this
  have HSB : Hid (∀ wx, Below W7.heap.size W7 wx → Calls Try.prog 37 #[.agg #[.bool s.fr, .int .i64 s.nx, .slice ra4 s.rd.length rc4, .slice ha4 s.hd.length hc4, .slice ma4 s.ms.length mc4], .agg #[.bool s.fr, .int .i64 s.nx, .slice ra2 s.rd.length rc2, .slice ha2 s.hd.length hc2, .slice ma2 s.ms.length mc2]] wx fun e w' => e = .returned (.bool true) ∧ Below wx.heap.size wx w') := Lib.hid fun wx h => by
    have := psame_any s s ra4 rc4 ha4 hc4 ma4 mc4 ra2 rc2 ha2 hc2 ma2 mc2 wx (HXB7.out.sd.below _ _ _ _ _ _ h) (HX7.out.sd.below _ _ _ _ _ _ h)
    rwa [decide_eq_true rfl] at this
  go_wp2_with (first | (go_at_call 57; refine (HT.out _).mono ?_; rintro e wq ⟨rfl, hb⟩; have HQ1 := Lib.hid hb; clear hb; obtain ⟨⟨a0, a1, a2, a3, a4⟩, ⟨b0, b1, b2, b3, b4⟩, c0, c1, c2, c3, c4⟩ := HBX.out _ HQ1.out) | (go_at_call 37; (with_reducible refine (HSA.out _ HQ1.out).mono ?_); rintro e wq ⟨rfl, hb⟩; have HQ2 := Lib.hid (HQ1.out.trans (hb.mono HQ1.out.size)); clear hb; obtain ⟨⟨a0, a1, a2, a3, a4⟩, ⟨b0, b1, b2, b3, b4⟩, c0, c1, c2, c3, c4⟩ := HBX.out _ HQ2.out) | (go_at_call 37; (with_reducible refine (HSB.out _ HQ2.out).mono ?_); rintro e wq ⟨rfl, hb⟩; have HQ3 := Lib.hid (HQ2.out.trans (hb.mono HQ2.out.size)); clear hb; obtain ⟨⟨a0, a1, a2, a3, a4⟩, ⟨b0, b1, b2, b3, b4⟩, c0, c1, c2, c3, c4⟩ := HBX.out _ HQ3.out))
  go_ret
  exact ⟨rfl, HB7.out.trans (HQ3.out.mono HB7.out.size)⟩

end Go.Proofs.Ythohjcfpobeplaa.Sl

namespace Go.Proofs.Ythohjcfpobeplaa.Sl
open Go.RowKit Rg Sh
set_option linter.unusedVariables false
set_option linter.unusedSimpArgs false

set_option maxRecDepth 100000 in
set_option maxHeartbeats 8000000 in
theorem opens_any (ht : ∀ w, Calls Try.prog 57 #[] w fun e w' => e = .returned (.bool true) ∧ Below w.heap.size w w') (a0 : Option Addr) (cap0 : Nat) (l0 : List OpD) (cut : Int) (w : World) (w0 : OpsAt w a0 cap0 l0) :
    Calls Try.prog 14 #[.slice a0 l0.length cap0, .int .i64 cut] w fun e w' => e = .returned (.bool true) ∧ Below w.heap.size w w' := by
  have HT := Lib.hid ht
  have HO0 := Lib.hid w0
  clear ht w0
  by_cases h100 : (100 : Int) < (l0.length : Int)
  · go_enter Try.func14, Try.ntmps14
    go_wp2_with (go_at_call 57; refine (HT.out w).mono ?_; rintro e w2 ⟨rfl, hb⟩; have HB3 := Lib.hid hb; clear hb)
    go_ret
    exact ⟨rfl, HB3.out⟩
  have hl0 : l0.length ≤ 100 := by omega
  have HLG0 := Lib.hid (log_any a0 cap0 l0 w HO0.out hl0)
  have hk0 := log_all l0 (by omega)
  have HK0 := Lib.hid hk0
  have HL0 := Lib.hid hl0
  clear hl0 hk0
  go_enter Try.func14, Try.ntmps14
  go_upto_region 4 with (go_at_call 58; refine HLG0.out.mono ?_; rintro e w2 ⟨xs, ax, cx, ra2, rc2, ha2, hc2, ma2, mc2, rfl, hrl, hrc, hsd, hb⟩; have HRL := Lib.hid hrl; have HRC := Lib.hid hrc; have HSD := Lib.hid hsd; have HB := Lib.hid hb; clear hrl hrc hsd hb)
  clear HLG0
  have HOK : Hid (openF sd1 (rcs xs) = ((logF l0).2, 0) ∧ (∀ x ∈ xs, MayRc x.r ∧ x.r.kd ≠ 7)) := Lib.hid ⟨by rw [HRC.out, HK0.out.opens], fun x hx => HK0.out.recs x.r (by rw [← HRC.out]; exact List.mem_map_of_mem hx)⟩
  have hxl : xs.length ≤ 100 := by
    have h1 := HK0.out.len
    have h2 := HL0.out
    rw [← HRC.out] at h1
    simp only [rcs, List.length_map] at h1
    omega
  clear HK0 HRC HL0
  generalize (logF l0).2 = s at *
  have p1 := heap_alloc_new w2 (.cells #[.bool s.fr, .int .i64 s.nx, .slice ra2 s.rd.length rc2, .slice ha2 s.hd.length hc2, .slice ma2 s.ms.length mc2] 26)
  have p2 : Below w2.heap.size w2 (w2.alloc (.cells #[.bool s.fr, .int .i64 s.nx, .slice ra2 s.rd.length rc2, .slice ha2 s.hd.length hc2, .slice ma2 s.ms.length mc2] 26)) := (Below.refl _ _).alloc (Nat.le_refl _) _
  generalize w2.alloc (.cells #[.bool s.fr, .int .i64 s.nx, .slice ra2 s.rd.length rc2, .slice ha2 s.hd.length hc2, .slice ma2 s.ms.length mc2] 26) = W1 at *
  have HXA1 := Lib.hid (show Bx W1 w2.heap.size ra2 rc2 ha2 hc2 ma2 mc2 s from ⟨p1, HSD.out.below _ _ _ _ _ _ p2⟩)
  have HR1 := Lib.hid (HRL.out.below p2)
  have HB1 := Lib.hid (HB.out.trans (p2.mono HB.out.size))
  clear p1 p2 HSD HRL HB
  generalize w2.heap.size = g1 at *
  have HMX : Hid (∀ x ∈ xs, MayRc x.r) := Lib.hid fun x hx => (HOK.out.2 x hx).1
  have hp1 := open_any ax cx xs W1 HR1.out HMX.out
  rw [HOK.out.1] at hp1
  have HP1 := Lib.hid hp1
  clear hp1
  go_upto_region 5 with (go_at_call 59; refine HP1.out.mono ?_; rintro e w3 ⟨ra3, rc3, ha3, hc3, ma3, mc3, rfl, hs4, hb4⟩; have HS4 := Lib.hid hs4; have HB4 := Lib.hid hb4; clear hs4 hb4)
  have p1 := heap_alloc_new w3 (.cells #[.bool s.fr, .int .i64 s.nx, .slice ra3 s.rd.length rc3, .slice ha3 s.hd.length hc3, .slice ma3 s.ms.length mc3] 26)
  have p2 : Below w3.heap.size w3 (w3.alloc (.cells #[.bool s.fr, .int .i64 s.nx, .slice ra3 s.rd.length rc3, .slice ha3 s.hd.length hc3, .slice ma3 s.ms.length mc3] 26)) := (Below.refl _ _).alloc (Nat.le_refl _) _
  generalize w3.alloc (.cells #[.bool s.fr, .int .i64 s.nx, .slice ra3 s.rd.length rc3, .slice ha3 s.hd.length hc3, .slice ma3 s.ms.length mc3] 26) = W3 at *
  have hbn := HB4.out.trans (p2.mono HB4.out.size)
  have HBX3 := Lib.hid (show Bx W3 w3.heap.size ra3 rc3 ha3 hc3 ma3 mc3 s from ⟨p1, HS4.out.below _ _ _ _ _ _ p2⟩)
  have HXA3 := Lib.hid (HXA1.out.below _ _ _ _ _ _ hbn)
  have HR3 := Lib.hid (HR1.out.below hbn)
  have HB3 := Lib.hid (HB1.out.trans (hbn.mono HB1.out.size))
  clear HXA1 HR1 HB1
  clear p1 p2 hbn HP1 HS4 HB4
  generalize w3.heap.size = g2 at *
  obtain ⟨hn1, hn2⟩ := u64_mod cut (xs.length + 1) (by omega)
  rw [show ((xs.length + 1 : Nat) : Int) = (xs.length : Int) + 1 by omega] at hn1
  have hul : IntKind.u64.wrap ((xs.length : Int) + 1) = (xs.length : Int) + 1 := by rw [IntKind.wrap_u64]; omega
  have hil : IntKind.i64.wrap ((xs.length : Int) + 1) = (xs.length : Int) + 1 := IntWalk.i64_in _ (by omega)
  generalize u64m cut (xs.length + 1) = k at *
  have wk : IntKind.i64.wrap (k : Int) = (k : Int) := IntWalk.i64_in _ (by omega)
  have hz0 : ¬ (xs.length : Int) + 1 = 0 := by omega
  have hz1 : ((xs.length : Int) + 1 == 0) = false := by rw [beq_eq_false_iff_ne]; omega
  have hkl : k ≤ xs.length := by omega
  obtain ⟨hfr, hsl⟩ := rxE.front HR3.out.at' HR3.out.nil k hkl
  have HLK : Hid ((xs.take k).length = k) := Lib.hid (by rw [List.length_take]; omega)
  have HFR := Lib.hid hfr
  have HMK : Hid (∀ x ∈ xs.take k, MayRc x.r) := Lib.hid fun x hx => HMX.out x (List.mem_of_mem_take hx)
  have HCK : Hid ((openF sd1 (rcs (xs.take k))).2 = 0) := Lib.hid (by
    have h := open_front k (show (openF sd1 (rcs xs)).2 = 0 by rw [HOK.out.1])
    rw [show rcs (xs.take k) = (rcs xs).take k by simp [rcs, List.map_take]]
    exact h)
  have HPP : Hid (∀ wx, Below W3.heap.size W3 wx → RlAt wx ax cx (xs.take k)) := Lib.hid fun wx h => ⟨HFR.out.below h, HR3.out.nil, fun x hx => (HR3.out.below h).all x (List.mem_of_mem_take hx)⟩
  have HQ1 : Hid (∀ wx, Below W3.heap.size W3 wx → Calls Try.prog 59 #[.slice ax k cx] wx (ShR (openF sd1 (rcs (xs.take k))).1 0 wx)) := Lib.hid fun wx h => by
    have := open_any ax cx (xs.take k) wx (HPP.out wx h) HMK.out
    rwa [HCK.out, HLK.out] at this
  have HQ2 : Hid (∀ wx, Below W3.heap.size W3 wx → Calls Try.prog 60 #[.slice ax k cx] wx (ShR (openF sd1 (rcs (xs.take k))).1 0 wx)) := Lib.hid fun wx h => by
    have := ropen_any ax cx (xs.take k) wx (HPP.out wx h) HMK.out
    rwa [HCK.out, HLK.out] at this
  generalize hsk : (openF sd1 (rcs (xs.take k))).1 = sk at *
  clear hsk hfr
  have HP2 := Lib.hid (HQ1.out W3 (Below.refl _ _))
  clear HQ1
  go_upto_region 6 with fail
  go_upto_region 7 with (go_at_call 59; refine HP2.out.mono ?_; rintro e w4 ⟨ra4, rc4, ha4, hc4, ma4, mc4, rfl, hs4, hb4⟩; have HS4 := Lib.hid hs4; have HB4 := Lib.hid hb4; clear hs4 hb4)
  have p1 := heap_alloc_new w4 (.cells #[.bool sk.fr, .int .i64 sk.nx, .slice ra4 sk.rd.length rc4, .slice ha4 sk.hd.length hc4, .slice ma4 sk.ms.length mc4] 26)
  have p2 : Below w4.heap.size w4 (w4.alloc (.cells #[.bool sk.fr, .int .i64 sk.nx, .slice ra4 sk.rd.length rc4, .slice ha4 sk.hd.length hc4, .slice ma4 sk.ms.length mc4] 26)) := (Below.refl _ _).alloc (Nat.le_refl _) _
  generalize w4.alloc (.cells #[.bool sk.fr, .int .i64 sk.nx, .slice ra4 sk.rd.length rc4, .slice ha4 sk.hd.length hc4, .slice ma4 sk.ms.length mc4] 26) = W4 at *
  have hbn := HB4.out.trans (p2.mono HB4.out.size)
  have HBX4 := Lib.hid (show Bx W4 w4.heap.size ra4 rc4 ha4 hc4 ma4 mc4 sk from ⟨p1, HS4.out.below _ _ _ _ _ _ p2⟩)
  have HXA4 := Lib.hid (HXA3.out.below _ _ _ _ _ _ hbn)
  have HXB4 := Lib.hid (HBX3.out.below _ _ _ _ _ _ hbn)
  have HR4 := Lib.hid (HR3.out.below hbn)
  have HF4 := Lib.hid (HFR.out.below hbn)
  have HB4w := Lib.hid (HB3.out.trans (hbn.mono HB3.out.size))
  have HP3 := Lib.hid (HQ2.out W4 hbn)
  clear HXA3 HBX3 HR3 HFR HB3 HQ2 HPP
  clear p1 p2 hbn HP2 HS4 HB4
  generalize w4.heap.size = g3 at *
  go_upto_region 8 with (go_at_call 60; refine HP3.out.mono ?_; rintro e w5 ⟨ra5, rc5, ha5, hc5, ma5, mc5, rfl, hs4, hb4⟩; have HS4 := Lib.hid hs4; have HB4 := Lib.hid hb4; clear hs4 hb4)
  have p1 := heap_alloc_new w5 (.cells #[.bool sk.fr, .int .i64 sk.nx, .slice ra5 sk.rd.length rc5, .slice ha5 sk.hd.length hc5, .slice ma5 sk.ms.length mc5] 26)
  have p2 : Below w5.heap.size w5 (w5.alloc (.cells #[.bool sk.fr, .int .i64 sk.nx, .slice ra5 sk.rd.length rc5, .slice ha5 sk.hd.length hc5, .slice ma5 sk.ms.length mc5] 26)) := (Below.refl _ _).alloc (Nat.le_refl _) _
  generalize w5.alloc (.cells #[.bool sk.fr, .int .i64 sk.nx, .slice ra5 sk.rd.length rc5, .slice ha5 sk.hd.length hc5, .slice ma5 sk.ms.length mc5] 26) = W7 at *
  have hbn := HB4.out.trans (p2.mono HB4.out.size)
  have HBX5 := Lib.hid (show Bx W7 w5.heap.size ra5 rc5 ha5 hc5 ma5 mc5 sk from ⟨p1, HS4.out.below _ _ _ _ _ _ p2⟩)
  have HXA7 := Lib.hid (HXA4.out.below _ _ _ _ _ _ hbn)
  have HXB7 := Lib.hid (HXB4.out.below _ _ _ _ _ _ hbn)
  have HXC7 := Lib.hid (HBX4.out.below _ _ _ _ _ _ hbn)
  have HR7' := Lib.hid (HR4.out.below hbn)
  have HF7 := Lib.hid (HF4.out.below hbn)
  have HB7 := Lib.hid (HB4w.out.trans (hbn.mono HB4w.out.size))
  clear HXA4 HXB4 HBX4 HR4 HF4 HB4w
  clear p1 p2 hbn HP3 HS4 HB4
  generalize w5.heap.size = g4 at *
  have HBXS := Lib.hid (fun (wx : World) (h : Below W7.heap.size W7 wx) => And.intro (box5 (box_bl HXA7.out.bx h)).1 (And.intro (box5 (box_bl HXB7.out.bx h)).1 (And.intro (box5 (box_bl HXC7.out.bx h)).1 (box5 (box_bl HBX5.out.bx h)).1)))
  have HSA : Hid (∀ wx, Below W7.heap.size W7 wx → Calls Try.prog 37 #[.agg #[.bool s.fr, .int .i64 s.nx, .slice ra3 s.rd.length rc3, .slice ha3 s.hd.length hc3, .slice ma3 s.ms.length mc3], .agg #[.bool s.fr, .int .i64 s.nx, .slice ra2 s.rd.length rc2, .slice ha2 s.hd.length hc2, .slice ma2 s.ms.length mc2]] wx fun e w' => e = .returned (.bool true) ∧ Below wx.heap.size wx w') := Lib.hid fun wx h => by
    have := psame_any s s ra3 rc3 ha3 hc3 ma3 mc3 ra2 rc2 ha2 hc2 ma2 mc2 wx (HXB7.out.sd.below _ _ _ _ _ _ h) (HXA7.out.sd.below _ _ _ _ _ _ h)
    rwa [decide_eq_true rfl] at this
  have HSB : Hid (∀ wx, Below W7.heap.size W7 wx → Calls Try.prog 26 #[.agg #[.bool sk.fr, .int .i64 sk.nx, .slice ra4 sk.rd.length rc4, .slice ha4 sk.hd.length hc4, .slice ma4 sk.ms.length mc4], .agg #[.bool sk.fr, .int .i64 sk.nx, .slice ra5 sk.rd.length rc5, .slice ha5 sk.hd.length hc5, .slice ma5 sk.ms.length mc5]] wx fun e w' => e = .returned (.bool true) ∧ Below wx.heap.size wx w') := Lib.hid fun wx h => by
    have := rsame_any sk sk ra4 rc4 ha4 hc4 ma4 mc4 ra5 rc5 ha5 hc5 ma5 mc5 wx (HXC7.out.sd.below _ _ _ _ _ _ h) (HBX5.out.sd.below _ _ _ _ _ _ h)
    rwa [decide_eq_true rfl] at this
  obtain ⟨⟨a0, a1, a2, a3, a4⟩, ⟨b0, b1, b2, b3, b4⟩, ⟨c0, c1, c2, c3, c4⟩, d0, d1, d2, d3, d4⟩ := HBXS.out W7 (Below.refl _ _)
  have HQ0 : Hid (Below W7.heap.size W7 W7) := Lib.hid (Below.refl _ _)
  go_upto_region 10 with (first | (go_at_call 37; (with_reducible refine (HSA.out _ HQ0.out).mono ?_); rintro e wq ⟨rfl, hb⟩; have HQ1 := Lib.hid (HQ0.out.trans (hb.mono HQ0.out.size)); clear hb; obtain ⟨⟨a0, a1, a2, a3, a4⟩, ⟨b0, b1, b2, b3, b4⟩, ⟨c0, c1, c2, c3, c4⟩, d0, d1, d2, d3, d4⟩ := HBXS.out _ HQ1.out) | (go_at_call 26; (with_reducible refine (HSB.out _ HQ1.out).mono ?_); rintro e wq ⟨rfl, hb⟩; have HQ2 := Lib.hid (HQ1.out.trans (hb.mono HQ1.out.size)); clear hb; skip))
  clear a0 a1 a2 a3 a4 b0 b1 b2 b3 b4 c0 c1 c2 c3 c4 d0 d1 d2 d3 d4 HSA HSB HBXS HXA7 HXB7 HXC7 HBX5
  generalize wq = W8 at *
  have HRX8 := Lib.hid (HR7'.out.below HQ2.out)
  have HF8 := Lib.hid (HF7.out.below HQ2.out)
  have HB8 := Lib.hid (HB7.out.trans (HQ2.out.mono HB7.out.size))
  clear HQ0 HQ1 HQ2 HR7' HF7 HB7 hn1 hn2 hul hz0 hz1
  by_cases hk0 : k = 0
  · subst hk0
    go_wp2_with (go_at_call 57; refine (HT.out _).mono ?_; rintro e w9 ⟨rfl, hb⟩; have HB9 := Lib.hid (HB8.out.trans (hb.mono HB8.out.size)); clear hb)
    go_ret
    exact ⟨rfl, HB9.out⟩
  · obtain ⟨j, rfl⟩ : ∃ j, k = j + 1 := ⟨k - 1, by omega⟩
    have hj : j < xs.length := by omega
    obtain ⟨bx, ox, haa, hcx, hxa⟩ := HRX8.out.get j hj
    subst haa
    have HMJ := Lib.hid (HMX.out _ (List.getElem_mem hj))
    have hkd := (HOK.out.2 _ (List.getElem_mem hj)).2
    have HCX := Lib.hid hcx
    have HXR := Lib.hid hxa
    clear hcx hxa hk0 HOK
    generalize xs[j] = x at *
    have kd7 : (x.r.kd == 7) = false := by rw [beq_eq_false_iff_ne]; exact hkd
    have j0 : ((j : Int) + 1 == 0) = false := by rw [beq_eq_false_iff_ne]; omega
    have wj : IntKind.i64.wrap (j : Int) = (j : Int) := IntWalk.i64_in _ (by omega)
    have wj1 : IntKind.i64.wrap ((j : Int) + 1) = (j : Int) + 1 := IntWalk.i64_in _ (by omega)
    have jj : (j : Int) + 1 - 1 = (j : Int) := by omega
    have h0j : (0 : Int) ≤ (j : Int) := by omega
    have hjl : (j : Int) < (xs.length : Int) := by omega
    have hsl2 : ∀ wx, (Instr.slice 84 (.slice (some ⟨bx, ox, none⟩) xs.length cx) none (some (.int .i64 ((j : Int) + 1))) none).run Try.prog wx = .ok (.slice (some ⟨bx, ox, none⟩) (j + 1) cx) wx := fun wx => hsl wx
    have HLM : Hid (j + 1 = (xs.take (j + 1)).length) := Lib.hid (by rw [HLK.out])
    have HML : Hid ((xs.take (j + 1)).length + 1 ≤ 1000) := Lib.hid (by rw [HLK.out]; omega)
    have mixed : Try.prog.follows .mixedOrders = true := by kernel_rfl
    obtain ⟨x0, x1, x2, x3, x4, x5, x6, x7, x8⟩ := HCX.out W8 (Below.refl _ _)
    clear hkd HLK
    go_upto_region 12 with fail
    go_cut [14] from 19 (fun v14 wx => ∃ a3 c3, v14 = .slice a3 (j + 1 + 1) c3 ∧ RlAt wx a3 c3 (xs.take (j + 1) ++ [x]) ∧ Below W8.heap.size W8 wx)
    case first =>
      have HK14 := Lib.hid (fun (wz : World) (k : Below W8.heap.size W8 wz) => HCX.out wz k)
      have HXS := Lib.hid (HK14.out _ (Below.refl _ _))
      have hd7 : Below W8.heap.size W8 W8.drew := (Below.refl _ _).drew
      have HD7 := Lib.hid hd7
      have ha7 : Below W8.heap.size W8 (W8.drew.alloc (.cells #[] 89)) := hd7.alloc (w := W8.drew) (Nat.le_refl _) _
      have HA7 := Lib.hid ha7
      have HOa := Lib.hid (OwnE.lit rxE W8.drew W8.heap.size (Nat.le_refl _))
      have hab : Below W8.heap.size W8 ((W8.drew.alloc (.cells #[] 89)).alloc (.cells #[.int .i64 x.r.kd, .int .i64 x.r.tag, .bool x.r.back, .slice x.ba x.r.bt.length x.bc, .bool x.r.sd.fr, .int .i64 x.r.sd.nx, .slice x.ra x.r.sd.rd.length x.rc, .slice x.ha x.r.sd.hd.length x.hc, .slice x.ma x.r.sd.ms.length x.mc] 89)) := ha7.alloc (Nat.le_trans (Nat.le_refl _) ha7.size) _
      have HAb := Lib.hid hab
      have HOb := Lib.hid (OwnE.below1 HOa.out ((Below.refl _ (W8.drew.alloc (.cells #[] 89))).alloc (Nat.le_refl _) (.cells #[.int .i64 x.r.kd, .int .i64 x.r.tag, .bool x.r.back, .slice x.ba x.r.bt.length x.bc, .bool x.r.sd.fr, .int .i64 x.r.sd.nx, .slice x.ra x.r.sd.rd.length x.rc, .slice x.ha x.r.sd.hd.length x.hc, .slice x.ma x.r.sd.ms.length x.mc] 89)))
      have hac1 : Below W8.heap.size W8 (W8.drew.alloc (.cells #[.int .i64 x.r.kd, .int .i64 x.r.tag, .bool x.r.back, .slice x.ba x.r.bt.length x.bc, .bool x.r.sd.fr, .int .i64 x.r.sd.nx, .slice x.ra x.r.sd.rd.length x.rc, .slice x.ha x.r.sd.hd.length x.hc, .slice x.ma x.r.sd.ms.length x.mc] 89)) := hd7.alloc (w := W8.drew) (Nat.le_refl _) _
      have HAc1 := Lib.hid hac1
      have HAc := Lib.hid (hac1.alloc hac1.size (.cells #[] 89))
      have HP3 := Lib.hid (two_box (w := W8) (.cells #[.int .i64 x.r.kd, .int .i64 x.r.tag, .bool x.r.back, .slice x.ba x.r.bt.length x.bc, .bool x.r.sd.fr, .int .i64 x.r.sd.nx, .slice x.ra x.r.sd.rd.length x.rc, .slice x.ha x.r.sd.hd.length x.hc, .slice x.ma x.r.sd.ms.length x.mc] 89) (.cells #[] 89))
      have HOc := Lib.hid (own_litx (w := W8) (.cells #[.int .i64 x.r.kd, .int .i64 x.r.tag, .bool x.r.back, .slice x.ba x.r.bt.length x.bc, .bool x.r.sd.fr, .int .i64 x.r.sd.nx, .slice x.ra x.r.sd.rd.length x.rc, .slice x.ha x.r.sd.hd.length x.hc, .slice x.ma x.r.sd.ms.length x.mc] 89))
      have HP2 := Lib.hid (two_boxd (w := W8) (.cells #[] 89) (.cells #[.int .i64 x.r.kd, .int .i64 x.r.tag, .bool x.r.back, .slice x.ba x.r.bt.length x.bc, .bool x.r.sd.fr, .int .i64 x.r.sd.nx, .slice x.ra x.r.sd.rd.length x.rc, .slice x.ha x.r.sd.hd.length x.hc, .slice x.ma x.r.sd.ms.length x.mc] 89))
      clear hd7 ha7 hab hac1
      have hXS := HXS.out
      go_region_held3 (fun wx => (wx.cell? ⟨bx, ox + j * 9, none⟩ = some (.int .i64 x.r.kd) ∧ wx.cell? ⟨bx, ox + j * 9 + 1, none⟩ = some (.int .i64 x.r.tag) ∧ wx.cell? ⟨bx, ox + j * 9 + 2, none⟩ = some (.bool x.r.back) ∧ wx.cell? ⟨bx, ox + j * 9 + 3, none⟩ = some (.slice x.ba x.r.bt.length x.bc) ∧ wx.cell? ⟨bx, ox + j * 9 + 4, none⟩ = some (.bool x.r.sd.fr) ∧ wx.cell? ⟨bx, ox + j * 9 + 5, none⟩ = some (.int .i64 x.r.sd.nx) ∧ wx.cell? ⟨bx, ox + j * 9 + 6, none⟩ = some (.slice x.ra x.r.sd.rd.length x.rc) ∧ wx.cell? ⟨bx, ox + j * 9 + 7, none⟩ = some (.slice x.ha x.r.sd.hd.length x.hc) ∧ wx.cell? ⟨bx, ox + j * 9 + 8, none⟩ = some (.slice x.ma x.r.sd.ms.length x.mc)))
        (first | exact HK14.out _ HD7.out | exact HK14.out _ HA7.out | exact HK14.out _ HAb.out | exact HK14.out _ HAc1.out | exact HK14.out _ HAc.out | exact HK14.out _ HB8.out | exact HK14.out _ HB9.out | exact HK14.out _ (HB8.out.alloc HB8.out.size _) | exact HK14.out _ (Below.drew HB8.out) | assumption)
        (first | (refine step_put_rows rxE (m := xs.take (j + 1)) rfl (.tmp 89) (.tmp 92) rfl HOa.out HA7.out.size rfl _ rfl HLM.out ((HF8.out.below HA7.out)) (by have := HML.out; rw [List.length_nil]; omega) (fun e => by cases e) ?_; intro v8 w8 hown8 hg8; have HOWN8 := Lib.hid hown8; have HB8 := Lib.hid (OwnE.grown HA7.out HOa.out hg8 HA7.out.size); clear hown8 hg8) | (refine step_put_one rxE (x : Rx) rfl (.tmp 93) (.tmp 99) rfl HOWN8.out HB8.out.size (by have := HML.out; rw [List.length_append, List.length_nil]; omega) _ rfl rfl _ rfl rfl ?_; intro v9 w9 hown9 hg9; obtain ⟨xh, ch, rfl, hat9, hnn9⟩ := OwnE.at rxE hown9; have HOWN9 := Lib.hid (And.intro hat9 hnn9); have HB9 := Lib.hid (OwnE.grown HB8.out HOWN8.out hg9 HB8.out.size); clear hown9 hg9 hat9 hnn9) | (refine step_put_rows rxE (m := xs.take (j + 1)) rfl (.tmp 89) (.tmp 92) rfl HOb.out HAb.out.size rfl _ rfl HLM.out ((HF8.out.below HAb.out)) (by have := HML.out; rw [List.length_nil]; omega) (fun e => by cases e) ?_; intro v8 w8 hown8 hg8; have HOWN8 := Lib.hid hown8; have HB8 := Lib.hid (OwnE.grown HAb.out HOb.out hg8 HAb.out.size); have hq8 := (hg8.block (W8.heap.size + 1) (by have := HP2.out.2.2; show _ < ((W8.alloc (.cells #[] 89)).drew.alloc (.cells #[.int .i64 x.r.kd, .int .i64 x.r.tag, .bool x.r.back, .slice x.ba x.r.bt.length x.bc, .bool x.r.sd.fr, .int .i64 x.r.sd.nx, .slice x.ra x.r.sd.rd.length x.rc, .slice x.ha x.r.sd.hd.length x.hc, .slice x.ma x.r.sd.ms.length x.mc] 89)).heap.size; omega) (by intro e; have e : W8.heap.size + 1 = W8.heap.size := Option.some.inj e; omega)).trans HP2.out.1; have HR8 := Lib.hid (rx_one_at (x := x) hq8); clear hq8; clear hown8 hg8) | (refine step_put_rows rxE (m := xs.take (j + 1)) rfl (.tmp 89) (.tmp 92) rfl HOc.out HAc.out.size rfl _ rfl HLM.out ((HF8.out.below HAc.out)) (by have := HML.out; rw [List.length_nil]; omega) (fun e => by cases e) ?_; intro v8 w8 hown8 hg8; have HOWN8 := Lib.hid hown8; have HB8 := Lib.hid (OwnE.grown HAc.out HOc.out hg8 HAc.out.size); have hq8 := (hg8.block W8.heap.size (by have := HP3.out.2.2.2; show _ < ((W8.alloc (.cells #[.int .i64 x.r.kd, .int .i64 x.r.tag, .bool x.r.back, .slice x.ba x.r.bt.length x.bc, .bool x.r.sd.fr, .int .i64 x.r.sd.nx, .slice x.ra x.r.sd.rd.length x.rc, .slice x.ha x.r.sd.hd.length x.hc, .slice x.ma x.r.sd.ms.length x.mc] 89)).alloc (.cells #[] 89)).heap.size; omega) (by intro e; have e : W8.heap.size = W8.heap.size + 1 := Option.some.inj e; omega)).trans HP3.out.1; have HR8 := Lib.hid (rx_one_at (x := x) hq8); clear hq8; clear hown8 hg8) | (refine step_put_rows rxE (m := [(x : Rx)]) rfl (.tmp 93) (.tmp 99) rfl HOWN8.out HB8.out.size rfl _ rfl rfl HR8.out (by have := HML.out; rw [List.length_append, List.length_nil]; simp; omega) (fun e => by cases e) ?_; intro v9 w9 hown9 hg9; obtain ⟨xh, ch, rfl, hat9, hnn9⟩ := OwnE.at rxE hown9; have HOWN9 := Lib.hid (And.intro hat9 hnn9); have HB9 := Lib.hid (OwnE.grown HB8.out HOWN8.out hg9 HB8.out.size); clear hown9 hg9 hat9 hnn9))
      all_goals
        rename_i hHeld
        clear hHeld
        go_wp2_with fail
        go_meet
        case rel => exact ⟨_, _, rfl, ⟨HOWN9.out.1, HOWN9.out.2, rl_snoc (fun y hy => (HRX8.out.below HB9.out).all y (List.mem_of_mem_take hy)) (HXR.out.below HB9.out)⟩, HB9.out⟩
    case rest =>
    obtain ⟨a3, c3, rfl, hz9, hb9⟩ := hcut
    have HZ9 := Lib.hid hz9
    have HB9 := Lib.hid (HB8.out.trans (hb9.mono HB8.out.size))
    clear hz9 hb9 x0 x1 x2 x3 x4 x5 x6 x7 x8
    generalize wc = W9 at *
    have HMZ : Hid (∀ y ∈ xs.take (j + 1) ++ [x], MayRc y.r) := Lib.hid fun y hy => by
      rcases List.mem_append.1 hy with hy | hy
      · exact HMX.out y (List.mem_of_mem_take hy)
      · obtain rfl : y = x := by simpa using hy
        exact HMJ.out
    have HLZ : Hid ((xs.take (j + 1) ++ [x]).length = j + 1 + 1) := Lib.hid (by rw [List.length_append, ← HLM.out]; rfl)
    clear HLM HML hsl hsl2 HMK HMX HMJ HXR HCX HRX8 HF8 HB8 hjl hj hkl
    generalize xs.take (j + 1) ++ [x] = zs at *
    have hp4 := open_any a3 c3 zs W9 HZ9.out HMZ.out
    rw [HLZ.out] at hp4
    have HP4 := Lib.hid hp4
    clear hp4
    have HQ4 : Hid (∀ wx, Below W9.heap.size W9 wx → Calls Try.prog 60 #[.slice a3 (j + 1 + 1) c3] wx (ShR (openF sd1 (rcs zs)).1 (openF sd1 (rcs zs)).2 wx)) := Lib.hid fun wx h => by
      have := ropen_any a3 c3 zs wx (HZ9.out.below h) HMZ.out
      rwa [HLZ.out] at this
    generalize openF sd1 (rcs zs) = oc at *
    obtain ⟨S, C⟩ := oc
    dsimp only at HP4 HQ4
    have ecc : (C == C) = true := by simp
    go_upto_region 14 with (go_at_call 59; refine HP4.out.mono ?_; rintro e w6 ⟨ra6, rc6, ha6, hc6, ma6, mc6, rfl, hs4, hb4⟩; have HS4 := Lib.hid hs4; have HB4 := Lib.hid hb4; clear hs4 hb4)
    have p1 := heap_alloc_new w6 (.cells #[.bool S.fr, .int .i64 S.nx, .slice ra6 S.rd.length rc6, .slice ha6 S.hd.length hc6, .slice ma6 S.ms.length mc6] 26)
    have p2 : Below w6.heap.size w6 (w6.alloc (.cells #[.bool S.fr, .int .i64 S.nx, .slice ra6 S.rd.length rc6, .slice ha6 S.hd.length hc6, .slice ma6 S.ms.length mc6] 26)) := (Below.refl _ _).alloc (Nat.le_refl _) _
    generalize w6.alloc (.cells #[.bool S.fr, .int .i64 S.nx, .slice ra6 S.rd.length rc6, .slice ha6 S.hd.length hc6, .slice ma6 S.ms.length mc6] 26) = W10 at *
    have hbn := HB4.out.trans (p2.mono HB4.out.size)
    have HBX6 := Lib.hid (show Bx W10 w6.heap.size ra6 rc6 ha6 hc6 ma6 mc6 S from ⟨p1, HS4.out.below _ _ _ _ _ _ p2⟩)
    have HP5 := Lib.hid (HQ4.out W10 hbn)
    have HB10 := Lib.hid (HB9.out.trans (hbn.mono HB9.out.size))
    clear HQ4 HB9 HZ9 HMZ
    clear p1 p2 hbn HP4 HS4 HB4
    generalize w6.heap.size = g5 at *
    go_upto_region 15 with (go_at_call 60; refine HP5.out.mono ?_; rintro e w7 ⟨ra7, rc7, ha7, hc7, ma7, mc7, rfl, hs4, hb4⟩; have HS4 := Lib.hid hs4; have HB4 := Lib.hid hb4; clear hs4 hb4)
    have p1 := heap_alloc_new w7 (.cells #[.bool S.fr, .int .i64 S.nx, .slice ra7 S.rd.length rc7, .slice ha7 S.hd.length hc7, .slice ma7 S.ms.length mc7] 26)
    have p2 : Below w7.heap.size w7 (w7.alloc (.cells #[.bool S.fr, .int .i64 S.nx, .slice ra7 S.rd.length rc7, .slice ha7 S.hd.length hc7, .slice ma7 S.ms.length mc7] 26)) := (Below.refl _ _).alloc (Nat.le_refl _) _
    generalize w7.alloc (.cells #[.bool S.fr, .int .i64 S.nx, .slice ra7 S.rd.length rc7, .slice ha7 S.hd.length hc7, .slice ma7 S.ms.length mc7] 26) = W11 at *
    have hbn := HB4.out.trans (p2.mono HB4.out.size)
    have HBX7 := Lib.hid (show Bx W11 w7.heap.size ra7 rc7 ha7 hc7 ma7 mc7 S from ⟨p1, HS4.out.below _ _ _ _ _ _ p2⟩)
    have HXD := Lib.hid (HBX6.out.below _ _ _ _ _ _ hbn)
    have HB11 := Lib.hid (HB10.out.trans (hbn.mono HB10.out.size))
    clear HB10 HBX6
    clear p1 p2 hbn HP5 HS4 HB4
    generalize w7.heap.size = g6 at *
    have HBXS := Lib.hid (fun (wx : World) (h : Below W11.heap.size W11 wx) => And.intro (box5 (box_bl HXD.out.bx h)).1 (box5 (box_bl HBX7.out.bx h)).1)
    have HSC : Hid (∀ wx, Below W11.heap.size W11 wx → Calls Try.prog 26 #[.agg #[.bool S.fr, .int .i64 S.nx, .slice ra6 S.rd.length rc6, .slice ha6 S.hd.length hc6, .slice ma6 S.ms.length mc6], .agg #[.bool S.fr, .int .i64 S.nx, .slice ra7 S.rd.length rc7, .slice ha7 S.hd.length hc7, .slice ma7 S.ms.length mc7]] wx fun e w' => e = .returned (.bool true) ∧ Below wx.heap.size wx w') := Lib.hid fun wx h => by
      have := rsame_any S S ra6 rc6 ha6 hc6 ma6 mc6 ra7 rc7 ha7 hc7 ma7 mc7 wx (HXD.out.sd.below _ _ _ _ _ _ h) (HBX7.out.sd.below _ _ _ _ _ _ h)
      rwa [decide_eq_true rfl] at this
    go_wp2_with (first | (go_at_call 57; refine (HT.out _).mono ?_; rintro e wq ⟨rfl, hb⟩; have HQ1 := Lib.hid hb; clear hb; obtain ⟨⟨a0, a1, a2, a3, a4⟩, b0, b1, b2, b3, b4⟩ := HBXS.out _ HQ1.out) | (go_at_call 26; (with_reducible refine (HSC.out _ HQ1.out).mono ?_); rintro e wq ⟨rfl, hb⟩; have HQ2 := Lib.hid (HQ1.out.trans (hb.mono HQ1.out.size)); clear hb; skip))
    go_ret
    exact ⟨rfl, HB11.out.trans (HQ2.out.mono HB11.out.size)⟩

end Go.Proofs.Ythohjcfpobeplaa.Sl
