/-
  shard.own, walked: a shard in memory of the call's own.
-/
import Derived.Test.YthohjcfpobeplaaShOwn
namespace Go.Proofs.Ythohjcfpobeplaa.Sh
open Go.RowKit Rg
set_option linter.unusedVariables false
set_option linter.unusedSimpArgs false

set_option maxRecDepth 100000 in
set_option maxHeartbeats 40000000 in
theorem own_any (s : Sd) (ra : Option Addr) (rc : Nat) (ha : Option Addr) (hc : Nat) (ma : Option Addr) (mc : Nat) (w : World) (hs : SdAt w ra rc ha hc ma mc s) : Calls Try.prog 64 #[.agg #[.bool s.fr, .int .i64 s.nx, .slice ra s.rd.length rc, .slice ha s.hd.length hc, .slice ma s.ms.length mc]] w (OwnR s w) := by
  obtain ⟨hx, hy, hb0, hWs⟩ := two_box (w := w) (.cells #[.bool s.fr, .int .i64 s.nx, .slice ra s.rd.length rc, .slice ha s.hd.length hc, .slice ma s.ms.length mc] 26) (.cells #[.bool false, .int .i64 0, .slice none 0 0, .slice none 0 0, .slice none 0 0] 26)
  obtain ⟨W, hW⟩ : ∃ W, W = (w.alloc (.cells #[.bool s.fr, .int .i64 s.nx, .slice ra s.rd.length rc, .slice ha s.hd.length hc, .slice ma s.ms.length mc] 26)).alloc (.cells #[.bool false, .int .i64 0, .slice none 0 0, .slice none 0 0, .slice none 0 0] 26) := ⟨_, rfl⟩
  rw [← hW] at hx hy hb0 hWs
  have hS1 := hs.below ra rc ha hc ma mc hb0
  have HB0 := Lib.hid hb0
  have HWS := Lib.hid hWs
  have HX := Lib.hid hx
  have HY := Lib.hid hy
  have HW := Lib.hid hW
  have HSM := Lib.hid hs.sm
  have HCG := Lib.hid fun (wx : World) (h : Below W.heap.size W wx) => cloneG_any ra rc s.rd hs.sm.1 wx (hS1.rd.below h)
  have HCH := Lib.hid fun (wx : World) (h : Below W.heap.size W wx) => cloneH_any ha hc s.hd hs.sm.2.1 wx (hS1.hd.below h)
  have HCK := Lib.hid fun (wx : World) (h : Below W.heap.size W wx) => cloneK_any ma mc s.ms hs.sm.2.2 wx (hS1.ms.below h)
  have HDR : Hid (Below W.heap.size W W.drew) := Lib.hid (Below.refl _ _).drew
  obtain ⟨⟨c0, c1, c2, c3, c4⟩, -⟩ := box5 hx
  obtain ⟨⟨d0, d1, d2, d3, d4⟩, -⟩ := box5 hy
  have HXB : Hid (∀ wx, Below W.heap.size W wx → (wx.cell? ⟨w.heap.size, 0, none⟩ = some (.bool s.fr) ∧ wx.cell? ⟨w.heap.size, 1, none⟩ = some (.int .i64 s.nx) ∧ wx.cell? ⟨w.heap.size, 2, none⟩ = some (.slice ra s.rd.length rc) ∧ wx.cell? ⟨w.heap.size, 3, none⟩ = some (.slice ha s.hd.length hc) ∧ wx.cell? ⟨w.heap.size, 4, none⟩ = some (.slice ma s.ms.length mc)) ∧
      (wx.frozen? ⟨w.heap.size, 0, none⟩ = false ∧ wx.frozen? ⟨w.heap.size, 1, none⟩ = false ∧ wx.frozen? ⟨w.heap.size, 2, none⟩ = false ∧ wx.frozen? ⟨w.heap.size, 3, none⟩ = false ∧ wx.frozen? ⟨w.heap.size, 4, none⟩ = false) ∧
      (wx.cell? ⟨w.heap.size + 1, 0, none⟩ = some (.bool false) ∧ wx.cell? ⟨w.heap.size + 1, 1, none⟩ = some (.int .i64 0) ∧ wx.cell? ⟨w.heap.size + 1, 2, none⟩ = some (.slice none 0 0) ∧ wx.cell? ⟨w.heap.size + 1, 3, none⟩ = some (.slice none 0 0) ∧ wx.cell? ⟨w.heap.size + 1, 4, none⟩ = some (.slice none 0 0)) ∧
      (wx.frozen? ⟨w.heap.size + 1, 0, none⟩ = false ∧ wx.frozen? ⟨w.heap.size + 1, 1, none⟩ = false ∧ wx.frozen? ⟨w.heap.size + 1, 2, none⟩ = false ∧ wx.frozen? ⟨w.heap.size + 1, 3, none⟩ = false ∧ wx.frozen? ⟨w.heap.size + 1, 4, none⟩ = false)) := Lib.hid fun wx hx' => by
    have g1 := box5 ((hx'.block _ (by rw [HWS.out]; omega)).trans HX.out)
    have g2 := box5 ((hx'.block _ (by rw [HWS.out]; omega)).trans HY.out)
    exact ⟨g1.1, g1.2, g2.1, g2.2⟩
  clear hs hS1 hb0 hWs hx hy hW
  go_enter Try.func64, Try.ntmps64
  go_wp2_with fail
  rw [← HW.out]
  go_region_with (first | (go_at_call 108; refine (HCK.out _ HBH.out).mono ?_; rintro e wK ⟨vk, rfl, hk1, hk2⟩; obtain ⟨xk, ck, rfl, -, -⟩ := OwnE.at mkE hk1; have HBK := Lib.hid (HBH.out.trans (hk2.mono HBH.out.size)); have HOK : Hid (OwnS wK W.heap.size s (.slice xg s.rd.length cg) (.slice xh s.hd.length ch) (.slice xk s.ms.length ck)) := Lib.hid ⟨HOG2.out.below1 hk2, HOH.out.below1 hk2, hk1.mono HBH.out.size⟩; obtain ⟨⟨x0, x1, x2, x3, x4⟩, ⟨y0, y1, y2, y3, y4⟩, ⟨z0, z1, z2, z3, z4⟩, u0, u1, u2, u3, u4⟩ := HXB.out _ HBK.out; clear hk1 hk2 HOG2 HOH HBH) |
    (go_at_call 107; refine (HCH.out _ HBG.out).mono ?_; rintro e wH ⟨vh, rfl, hh1, hh2⟩; obtain ⟨xh, ch, rfl, -, -⟩ := OwnE.at hdE hh1; have HBH := Lib.hid (HBG.out.trans (hh2.mono HBG.out.size)); have HOH := Lib.hid (hh1.mono HBG.out.size); have HOG2 := Lib.hid (HOG.out.below1 hh2); obtain ⟨⟨x0, x1, x2, x3, x4⟩, ⟨y0, y1, y2, y3, y4⟩, ⟨z0, z1, z2, z3, z4⟩, u0, u1, u2, u3, u4⟩ := HXB.out _ HBH.out; clear hh1 hh2 HOG HBG) |
    (go_at_call 106; refine (HCG.out _ HDR.out).mono ?_; rintro e wG ⟨vg, rfl, hg1, hg2⟩; obtain ⟨xg, cg, rfl, -, -⟩ := OwnE.at mgE hg1; have HBG := Lib.hid (HDR.out.trans (hg2.mono HDR.out.size)); have HOG := Lib.hid (hg1.mono HDR.out.size); obtain ⟨⟨x0, x1, x2, x3, x4⟩, ⟨y0, y1, y2, y3, y4⟩, ⟨z0, z1, z2, z3, z4⟩, u0, u1, u2, u3, u4⟩ := HXB.out _ HBG.out; clear hg1 hg2))
  all_goals
    clear HCG HCH HCK HXB HDR HX HY
    go_wp2_with fail
    refine bodyPost_ret (v := .agg #[.bool s.fr, .int .i64 s.nx, .slice xg s.rd.length cg, .slice xh s.hd.length ch, .slice xk s.ms.length ck]) (by simp [results, Try.results64, go_sem, *]) rfl ?_
    have hsz := HWS.out
    refine own_end HB0.out HOK.out ?_ ?_
    · repeat (refine far_set ?_ (by omega))
      exact fun _ _ => rfl
    · repeat (refine low_set ?_ (by omega))
      exact HB0.out.trans (HBK.out.mono HB0.out.size)

end Go.Proofs.Ythohjcfpobeplaa.Sh
