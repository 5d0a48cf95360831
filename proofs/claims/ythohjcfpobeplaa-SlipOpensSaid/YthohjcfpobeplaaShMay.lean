/-
  shard.May, Last, MayMsg's kin, walked.
-/
import Derived.Test.YthohjcfpobeplaaShOrd
namespace Go.Proofs.Ythohjcfpobeplaa.Sh
open Go.RowKit Rg Go.Sort
set_option linter.unusedVariables false
set_option linter.unusedSimpArgs false

theorem may_is (s : Sd) : MaySd s ↔ 1 ≤ s.nx ∧ s.nx ≤ 1073741824 ∧ (s.rd.length + s.hd.length ≤ 48 ∧ s.ms.length ≤ 64) ∧ OkHs s.hd s.nx ∧ OkMs s.ms ∧ OkAll s.ms (allF s) := by
  unfold MaySd OkHs OkMs OkAll
  exact ⟨fun ⟨a, b, c, d, e, f, g, h, i, j, k⟩ => ⟨a, b, ⟨c, d⟩, ⟨g, h, i⟩, ⟨e, f⟩, ⟨j, k⟩⟩, fun ⟨a, b, ⟨c, d⟩, ⟨g, h, i⟩, ⟨e, f⟩, ⟨j, k⟩⟩ => ⟨a, b, c, d, e, f, g, h, i, j, k⟩⟩
set_option maxRecDepth 100000 in
set_option maxHeartbeats 4000000 in
theorem may_any (s : Sd) (ra : Option Addr) (rc : Nat) (ha : Option Addr) (hc : Nat) (ma : Option Addr) (mc : Nat) (w : World) (hs : SdAt w ra rc ha hc ma mc s) :
    Calls Try.prog 24 #[.agg #[.bool s.fr, .int .i64 s.nx, .slice ra s.rd.length rc, .slice ha s.hd.length hc, .slice ma s.ms.length mc]] w fun e w' => e = .returned (.bool (decide (MaySd s))) ∧ Below w.heap.size w w' := by
  have hl1 := hs.sm.1
  have hl2 := hs.sm.2.1
  obtain ⟨W, hW⟩ : ∃ W, W = w.alloc (.cells #[.bool s.fr, .int .i64 s.nx, .slice ra s.rd.length rc, .slice ha s.hd.length hc, .slice ma s.ms.length mc] 26) := ⟨_, rfl⟩
  have hb0 : Below w.heap.size w W := by rw [hW]; exact (Below.refl _ _).alloc (Nat.le_refl _) _
  have hWs : W.heap.size = w.heap.size + 1 := by rw [hW]; simp
  have hx : W.heap[w.heap.size]? = some (.cells #[.bool s.fr, .int .i64 s.nx, .slice ra s.rd.length rc, .slice ha s.hd.length hc, .slice ma s.ms.length mc] 26 (0, 0)) := by rw [hW]; exact heap_alloc_new _ _
  have HB0 := Lib.hid hb0
  have HS1 := Lib.hid (hs.below ra rc ha hc ma mc hb0)
  have HBX : Hid (∀ wx, Below W.heap.size W wx → wx.cell? ⟨w.heap.size, 0, none⟩ = some (.bool s.fr) ∧ wx.cell? ⟨w.heap.size, 1, none⟩ = some (.int .i64 s.nx) ∧ wx.cell? ⟨w.heap.size, 2, none⟩ = some (.slice ra s.rd.length rc) ∧ wx.cell? ⟨w.heap.size, 3, none⟩ = some (.slice ha s.hd.length hc) ∧ wx.cell? ⟨w.heap.size, 4, none⟩ = some (.slice ma s.ms.length mc)) := Lib.hid fun wx hx' => (box5 ((hx'.block _ (by rw [hWs]; omega)).trans hx)).1
  have HCT := Lib.hid fun wx => mayCount_any s ra rc ha hc ma mc (by omega) (by omega) wx
  have HBW := Lib.hid (Below.refl W.heap.size W)
  have HW := Lib.hid hW
  rw [hW] at HBW HBX HB0 HS1
  clear hx hWs hb0 hW HW hl1 hl2
  by_cases h0 : 1 ≤ s.nx
  case neg =>
    have HR : Hid (decide (MaySd s) = false) := Lib.hid (decide_eq_false fun h => h0 ((may_is s).1 h).1)
    go_enter Try.func24, Try.ntmps24
    go_wp2_with fail
    go_ret
    exact ⟨by rw [HR.out]; rfl, HB0.out.trans (HBW.out.mono HB0.out.size)⟩
  by_cases h1 : s.nx ≤ 1073741824
  case neg =>
    have HR : Hid (decide (MaySd s) = false) := Lib.hid (decide_eq_false fun h => h1 ((may_is s).1 h).2.1)
    go_enter Try.func24, Try.ntmps24
    go_wp2_with fail
    go_ret
    exact ⟨by rw [HR.out]; rfl, HB0.out.trans (HBW.out.mono HB0.out.size)⟩
  by_cases h2 : s.rd.length + s.hd.length ≤ 48 ∧ s.ms.length ≤ 64
  case neg =>
    have HR : Hid (decide (MaySd s) = false) := Lib.hid (decide_eq_false fun h => h2 ((may_is s).1 h).2.2.1)
    rw [decide_eq_false h2] at HCT
    clear h2
    go_enter Try.func24, Try.ntmps24
    go_wp2_with (first | (go_at_call 71; refine (HCT.out _).mono ?_; rintro e w2 ⟨rfl, hg2⟩; have hb2 := hg2.below; have HB2 := Lib.hid hb2; obtain ⟨y0, y1, y2, y3, y4⟩ := HBX.out _ HB2.out; clear hg2 hb2))
    go_ret
    exact ⟨by rw [HR.out]; rfl, HB0.out.trans (HB2.out.mono HB0.out.size)⟩
  rw [decide_eq_true h2] at HCT
  have HHD := Lib.hid fun wx (hx : SdAt wx ra rc ha hc ma mc s) => mayHeld_any ha hc s.hd s.nx h0 wx hx.hd hx.nh
  by_cases h3 : OkHs s.hd s.nx
  case neg =>
    have HR : Hid (decide (MaySd s) = false) := Lib.hid (decide_eq_false fun h => h3 ((may_is s).1 h).2.2.2.1)
    rw [decide_eq_false h3] at HHD
    clear h3
    go_enter Try.func24, Try.ntmps24
    go_wp2_with (first | (go_at_call 71; refine (HCT.out _).mono ?_; rintro e w2 ⟨rfl, hg2⟩; have hb2 := hg2.below; have HB2 := Lib.hid hb2; obtain ⟨y0, y1, y2, y3, y4⟩ := HBX.out _ HB2.out; clear hg2 hb2) | (go_at_call 72; refine (HHD.out _ (HS1.out.below _ _ _ _ _ _ HB2.out)).mono ?_; rintro e w3 ⟨rfl, hd3⟩; have HB3 := Lib.hid (HB2.out.trans (hd3.below.mono HB2.out.size)); obtain ⟨z0, z1, z2, z3, z4⟩ := HBX.out _ HB3.out; clear hd3))
    go_ret
    exact ⟨by rw [HR.out]; rfl, HB0.out.trans (HB3.out.mono HB0.out.size)⟩
  rw [decide_eq_true h3] at HHD
  have HMK := Lib.hid fun wx (hx : SdAt wx ra rc ha hc ma mc s) => mayMarks_any ma mc s.ms wx hx.ms hx.nm
  by_cases h4 : OkMs s.ms
  case neg =>
    have HR : Hid (decide (MaySd s) = false) := Lib.hid (decide_eq_false fun h => h4 ((may_is s).1 h).2.2.2.2.1)
    rw [decide_eq_false h4] at HMK
    clear h4
    go_enter Try.func24, Try.ntmps24
    go_wp2_with (first | (go_at_call 71; refine (HCT.out _).mono ?_; rintro e w2 ⟨rfl, hg2⟩; have hb2 := hg2.below; have HB2 := Lib.hid hb2; obtain ⟨y0, y1, y2, y3, y4⟩ := HBX.out _ HB2.out; clear hg2 hb2) | (go_at_call 72; refine (HHD.out _ (HS1.out.below _ _ _ _ _ _ HB2.out)).mono ?_; rintro e w3 ⟨rfl, hd3⟩; have HB3 := Lib.hid (HB2.out.trans (hd3.below.mono HB2.out.size)); obtain ⟨z0, z1, z2, z3, z4⟩ := HBX.out _ HB3.out; clear hd3) | (go_at_call 73; refine (HMK.out _ (HS1.out.below _ _ _ _ _ _ HB3.out)).mono ?_; rintro e w4 ⟨rfl, hd4⟩; have HB4 := Lib.hid (HB3.out.trans (hd4.below.mono HB3.out.size)); obtain ⟨u0, u1, u2, u3, u4⟩ := HBX.out _ HB4.out; clear hd4))
    go_ret
    exact ⟨by rw [HR.out]; rfl, HB0.out.trans (HB4.out.mono HB0.out.size)⟩
  rw [decide_eq_true h4] at HMK
  have HOR := Lib.hid fun wx (hx : SdAt wx ra rc ha hc ma mc s) => inOrder_any s ra rc ha hc ma mc h2.1 h2.2 wx hx
  by_cases h5 : OkAll s.ms (allF s)
  case neg =>
    have HR : Hid (decide (MaySd s) = false) := Lib.hid (decide_eq_false fun h => h5 ((may_is s).1 h).2.2.2.2.2)
    rw [decide_eq_false h5] at HOR
    clear h5
    go_enter Try.func24, Try.ntmps24
    go_wp2_with (first | (go_at_call 71; refine (HCT.out _).mono ?_; rintro e w2 ⟨rfl, hg2⟩; have hb2 := hg2.below; have HB2 := Lib.hid hb2; obtain ⟨y0, y1, y2, y3, y4⟩ := HBX.out _ HB2.out; clear hg2 hb2) | (go_at_call 72; refine (HHD.out _ (HS1.out.below _ _ _ _ _ _ HB2.out)).mono ?_; rintro e w3 ⟨rfl, hd3⟩; have HB3 := Lib.hid (HB2.out.trans (hd3.below.mono HB2.out.size)); obtain ⟨z0, z1, z2, z3, z4⟩ := HBX.out _ HB3.out; clear hd3) | (go_at_call 73; refine (HMK.out _ (HS1.out.below _ _ _ _ _ _ HB3.out)).mono ?_; rintro e w4 ⟨rfl, hd4⟩; have HB4 := Lib.hid (HB3.out.trans (hd4.below.mono HB3.out.size)); obtain ⟨u0, u1, u2, u3, u4⟩ := HBX.out _ HB4.out; clear hd4) | (go_at_call 74; refine (HOR.out _ (HS1.out.below _ _ _ _ _ _ HB4.out)).mono ?_; rintro e w5 ⟨rfl, hb5⟩; have HB5 := Lib.hid (HB4.out.trans (hb5.mono HB4.out.size)); clear hb5))
    go_ret
    exact ⟨by rw [HR.out]; rfl, HB0.out.trans (HB5.out.mono HB0.out.size)⟩
  rw [decide_eq_true h5] at HOR
  have HR : Hid (decide (MaySd s) = true) := Lib.hid (decide_eq_true ((may_is s).2 ⟨h0, h1, h2, h3, h4, h5⟩))
  clear h2 h3 h4 h5
  go_enter Try.func24, Try.ntmps24
  go_wp2_with (first | (go_at_call 71; refine (HCT.out _).mono ?_; rintro e w2 ⟨rfl, hg2⟩; have hb2 := hg2.below; have HB2 := Lib.hid hb2; obtain ⟨y0, y1, y2, y3, y4⟩ := HBX.out _ HB2.out; clear hg2 hb2) | (go_at_call 72; refine (HHD.out _ (HS1.out.below _ _ _ _ _ _ HB2.out)).mono ?_; rintro e w3 ⟨rfl, hd3⟩; have HB3 := Lib.hid (HB2.out.trans (hd3.below.mono HB2.out.size)); obtain ⟨z0, z1, z2, z3, z4⟩ := HBX.out _ HB3.out; clear hd3) | (go_at_call 73; refine (HMK.out _ (HS1.out.below _ _ _ _ _ _ HB3.out)).mono ?_; rintro e w4 ⟨rfl, hd4⟩; have HB4 := Lib.hid (HB3.out.trans (hd4.below.mono HB3.out.size)); obtain ⟨u0, u1, u2, u3, u4⟩ := HBX.out _ HB4.out; clear hd4) | (go_at_call 74; refine (HOR.out _ (HS1.out.below _ _ _ _ _ _ HB4.out)).mono ?_; rintro e w5 ⟨rfl, hb5⟩; have HB5 := Lib.hid (HB4.out.trans (hb5.mono HB4.out.size)); clear hb5))
  go_ret
  exact ⟨by rw [HR.out]; rfl, HB0.out.trans (HB5.out.mono HB0.out.size)⟩

set_option maxHeartbeats 1000000 in
theorem last_any (s : Sd) (ra : Option Addr) (rc : Nat) (ha : Option Addr) (hc : Nat) (ma : Option Addr) (mc : Nat) (p : Int) (k : List UInt8) (w : World) (hs : SdAt w ra rc ha hc ma mc s) :
    Calls Try.prog 56 #[.agg #[.bool s.fr, .int .i64 s.nx, .slice ra s.rd.length rc, .slice ha s.hd.length hc, .slice ma s.ms.length mc], .int .i64 p, .string ⟨k.toArray⟩] w fun e w' => e = .returned (.int .i64 (lastF s.ms p k)) ∧ Grew w w' := by
  have HG := Lib.hid (Grew.alloc w (.cells #[.bool s.fr, .int .i64 s.nx, .slice ra s.rd.length rc, .slice ha s.hd.length hc, .slice ma s.ms.length mc] 26))
  have hm1 := hs.ms.below HG.out.below
  have hfi := Lib.hid (find_any ma mc s.ms p k _ hm1)
  cases hq : fnd s.ms p k with
  | none =>
    have HL := Lib.hid (last_none hq)
    rw [hq] at hfi
    have hpl : (pl none == -1) = true := rfl
    generalize pl none = z at *
    clear hq hm1 hs
    go_enter Try.func56, Try.ntmps56
    go_wp2_with (go_at_call 96; refine hfi.out.mono ?_; rintro e w1 ⟨rfl, rfl⟩)
    go_ret
    exact ⟨by rw [HL.out]; rfl, HG.out⟩
  | some j =>
    obtain ⟨hjl, -⟩ := fnd_lt hq
    have HL := Lib.hid (last_some hq hjl)
    have hjli : (j : Int) < (s.ms.length : Int) := by omega
    have h0j : (0 : Int) ≤ (j : Int) := by omega
    have hpl : ((j : Int) == -1) = false := by rw [beq_eq_false_iff_ne]; omega
    rw [hq, show pl (some j) = (j : Int) from rfl] at hfi
    obtain ⟨b, o, rfl, c0, c1, c2⟩ := MksAt.get hm1 j hjl
    clear hq hm1 hs c0 c1
    go_enter Try.func56, Try.ntmps56
    go_wp2_with (go_at_call 96; refine hfi.out.mono ?_; rintro e w1 ⟨rfl, rfl⟩)
    go_ret
    exact ⟨by rw [HL.out]; rfl, HG.out⟩

end Go.Proofs.Ythohjcfpobeplaa.Sh
