/-
  Law 12's ShardAsks, walked.
-/
import Derived.Test.YthohjcfpobeplaaShTopA
import Derived.Test.YthohjcfpobeplaaShDo
import Derived.Test.YthohjcfpobeplaaShTold
import Derived.Deep.CutRange
import Derived.Deep.RegionHeld3
import Derived.BigRegion
namespace Go.Proofs.Ythohjcfpobeplaa.Sh
open Go.RowKit Rg Go.Sort
set_option linter.unusedVariables false
set_option linter.unusedSimpArgs false

/-- a call's answer is stored in an elder box. -/
theorem ask_store {w cur w7 : World} {ga : Nat} (ra : Option Addr) (rc : Nat) (ha : Option Addr) (hc : Nat) (ma : Option Addr) (mc : Nat) (ra6 : Option Addr) (rc6 : Nat) (ha6 : Option Addr) (hc6 : Nat) (ma6 : Option Addr) (mc6 : Nat) {s0 S' : Sd} (hb : Below w.heap.size w cur) (hB : w.heap.size ≤ ga) (hx : Bx cur ga ra rc ha hc ma mc s0) (hbc : Below cur.heap.size cur w7) (hs : SdAt w7 ra6 rc6 ha6 hc6 ma6 mc6 S') :
    Below w.heap.size w (set5 w7 ga (.bool S'.fr) (.int .i64 S'.nx) (.slice ra6 S'.rd.length rc6) (.slice ha6 S'.hd.length hc6) (.slice ma6 S'.ms.length mc6)) ∧ Bx (set5 w7 ga (.bool S'.fr) (.int .i64 S'.nx) (.slice ra6 S'.rd.length rc6) (.slice ha6 S'.hd.length hc6) (.slice ma6 S'.ms.length mc6)) ga ra6 rc6 ha6 hc6 ma6 mc6 S' ∧
    (∀ (g : Nat) (ra1 : Option Addr) (rc1 : Nat) (ha1 : Option Addr) (hc1 : Nat) (ma1 : Option Addr) (mc1 : Nat) (s1 : Sd), g ≠ ga → Bx cur g ra1 rc1 ha1 hc1 ma1 mc1 s1 → Bx (set5 w7 ga (.bool S'.fr) (.int .i64 S'.nx) (.slice ra6 S'.rd.length rc6) (.slice ha6 S'.hd.length hc6) (.slice ma6 S'.ms.length mc6)) g ra1 rc1 ha1 hc1 ma1 mc1 s1) := by
  have hx7 := hx.below _ _ _ _ _ _ hbc
  refine ⟨set5_below (hb.trans (hbc.mono hb.size)) hB _ _ _ _ _, ⟨set5_box hx7.bx _ _ _ _ _, sd_keep _ _ _ _ _ _ hs hx7.bx fun b hb => set5_heap _ _ _ _ _ _ _ _ hb⟩, fun g ra1 rc1 ha1 hc1 ma1 mc1 s1 hne h1 => ?_⟩
  have h7 := h1.below _ _ _ _ _ _ hbc
  exact ⟨(set5_heap _ _ _ _ _ _ _ _ hne).trans h7.bx, sd_keep _ _ _ _ _ _ h7.sd hx7.bx fun b hb => set5_heap _ _ _ _ _ _ _ _ hb⟩
theorem ask_alloc {w cur w7 : World} (ra6 : Option Addr) (rc6 : Nat) (ha6 : Option Addr) (hc6 : Nat) (ma6 : Option Addr) (mc6 : Nat) {S' : Sd} (hb : Below w.heap.size w cur) (hbc : Below cur.heap.size cur w7) (hs : SdAt w7 ra6 rc6 ha6 hc6 ma6 mc6 S') :
    Below w.heap.size w (w7.alloc (.cells #[.bool S'.fr, .int .i64 S'.nx, .slice ra6 S'.rd.length rc6, .slice ha6 S'.hd.length hc6, .slice ma6 S'.ms.length mc6] 26)) ∧ Bx (w7.alloc (.cells #[.bool S'.fr, .int .i64 S'.nx, .slice ra6 S'.rd.length rc6, .slice ha6 S'.hd.length hc6, .slice ma6 S'.ms.length mc6] 26)) w7.heap.size ra6 rc6 ha6 hc6 ma6 mc6 S' ∧
    (∀ (g : Nat) (ra1 : Option Addr) (rc1 : Nat) (ha1 : Option Addr) (hc1 : Nat) (ma1 : Option Addr) (mc1 : Nat) (s1 : Sd), Bx cur g ra1 rc1 ha1 hc1 ma1 mc1 s1 → Bx (w7.alloc (.cells #[.bool S'.fr, .int .i64 S'.nx, .slice ra6 S'.rd.length rc6, .slice ha6 S'.hd.length hc6, .slice ma6 S'.ms.length mc6] 26)) g ra1 rc1 ha1 hc1 ma1 mc1 s1 ∧ g < w7.heap.size) := by
  have h0 := hb.trans (hbc.mono hb.size)
  refine ⟨h0.trans (((Below.refl _ _).alloc (Nat.le_refl _) _).mono h0.size), ⟨heap_alloc_new _ _, sd_al _ _ _ _ _ _ hs _⟩, fun g ra1 rc1 ha1 hc1 ma1 mc1 s1 h1 => ?_⟩
  have h7 := h1.below _ _ _ _ _ _ hbc
  exact ⟨h7.below _ _ _ _ _ _ ((Below.refl _ _).alloc (Nat.le_refl _) _), (box_lt h7.bx).1⟩
theorem ask_alloc2 {w cur w7 : World} (ra6 : Option Addr) (rc6 : Nat) (ha6 : Option Addr) (hc6 : Nat) (ma6 : Option Addr) (mc6 : Nat) {S' : Sd} (H : Hd) (hb : Below w.heap.size w cur) (hbc : Below cur.heap.size cur w7) (hs : SdAt w7 ra6 rc6 ha6 hc6 ma6 mc6 S') :
    Below w.heap.size w ((w7.alloc (.cells #[.bool S'.fr, .int .i64 S'.nx, .slice ra6 S'.rd.length rc6, .slice ha6 S'.hd.length hc6, .slice ma6 S'.ms.length mc6] 26)).alloc (.cells #[.int .i64 H.tag, .int .i64 H.m.pub, .int .i64 H.m.seq, .string ⟨H.m.key.toArray⟩, .string ⟨H.m.body.toArray⟩, .bool H.m.again] 37)) ∧ Bx ((w7.alloc (.cells #[.bool S'.fr, .int .i64 S'.nx, .slice ra6 S'.rd.length rc6, .slice ha6 S'.hd.length hc6, .slice ma6 S'.ms.length mc6] 26)).alloc (.cells #[.int .i64 H.tag, .int .i64 H.m.pub, .int .i64 H.m.seq, .string ⟨H.m.key.toArray⟩, .string ⟨H.m.body.toArray⟩, .bool H.m.again] 37)) w7.heap.size ra6 rc6 ha6 hc6 ma6 mc6 S' ∧
    (∀ (g : Nat) (ra1 : Option Addr) (rc1 : Nat) (ha1 : Option Addr) (hc1 : Nat) (ma1 : Option Addr) (mc1 : Nat) (s1 : Sd), Bx cur g ra1 rc1 ha1 hc1 ma1 mc1 s1 → Bx ((w7.alloc (.cells #[.bool S'.fr, .int .i64 S'.nx, .slice ra6 S'.rd.length rc6, .slice ha6 S'.hd.length hc6, .slice ma6 S'.ms.length mc6] 26)).alloc (.cells #[.int .i64 H.tag, .int .i64 H.m.pub, .int .i64 H.m.seq, .string ⟨H.m.key.toArray⟩, .string ⟨H.m.body.toArray⟩, .bool H.m.again] 37)) g ra1 rc1 ha1 hc1 ma1 mc1 s1 ∧ g < w7.heap.size) ∧
    ((w7.alloc (.cells #[.bool S'.fr, .int .i64 S'.nx, .slice ra6 S'.rd.length rc6, .slice ha6 S'.hd.length hc6, .slice ma6 S'.ms.length mc6] 26)).alloc (.cells #[.int .i64 H.tag, .int .i64 H.m.pub, .int .i64 H.m.seq, .string ⟨H.m.key.toArray⟩, .string ⟨H.m.body.toArray⟩, .bool H.m.again] 37)).heap[w7.heap.size + 1]? = some (.cells #[.int .i64 H.tag, .int .i64 H.m.pub, .int .i64 H.m.seq, .string ⟨H.m.key.toArray⟩, .string ⟨H.m.body.toArray⟩, .bool H.m.again] 37 (0, 0)) ∧ Below cur.heap.size cur ((w7.alloc (.cells #[.bool S'.fr, .int .i64 S'.nx, .slice ra6 S'.rd.length rc6, .slice ha6 S'.hd.length hc6, .slice ma6 S'.ms.length mc6] 26)).alloc (.cells #[.int .i64 H.tag, .int .i64 H.m.pub, .int .i64 H.m.seq, .string ⟨H.m.key.toArray⟩, .string ⟨H.m.body.toArray⟩, .bool H.m.again] 37)) := by
  obtain ⟨p1, p2, p3, p4⟩ := two_box (w := w7) (.cells #[.bool S'.fr, .int .i64 S'.nx, .slice ra6 S'.rd.length rc6, .slice ha6 S'.hd.length hc6, .slice ma6 S'.ms.length mc6] 26) (.cells #[.int .i64 H.tag, .int .i64 H.m.pub, .int .i64 H.m.seq, .string ⟨H.m.key.toArray⟩, .string ⟨H.m.body.toArray⟩, .bool H.m.again] 37)
  have h0 := hb.trans (hbc.mono hb.size)
  refine ⟨h0.trans (p3.mono h0.size), ⟨p1, hs.below _ _ _ _ _ _ p3⟩, fun g ra1 rc1 ha1 hc1 ma1 mc1 s1 h1 => ?_, p2, hbc.trans (p3.mono hbc.size)⟩
  have h7 := h1.below _ _ _ _ _ _ hbc
  exact ⟨h7.below _ _ _ _ _ _ p3, (box_lt h7.bx).1⟩

set_option maxHeartbeats 400000 in
theorem few9a_any (a : Option Addr) (cap : Nat) (n : Nat) (w : World) :
    Calls Try.prog 18 #[.slice a n cap] w fun e w' => e = .returned (.bool (decide (n ≤ 60))) ∧ w = w' := by
  obtain ⟨q, hq⟩ : ∃ q, decide (n ≤ 60) = q := ⟨_, rfl⟩
  have h : decide ((n : Int) ≤ 60) = q := by rw [← hq, decide_eq_decide]; omega
  rw [hq]
  clear hq
  go_enter Try.func18, Try.ntmps18
  go_wp2_with fail
  go_ret
  exact ⟨ret_bool (by first | exact h | simp [← h]), rfl⟩

set_option maxRecDepth 100000 in
set_option maxHeartbeats 16000000 in
theorem asks_any (s : Sd) (ra : Option Addr) (rc : Nat) (ha : Option Addr) (hc : Nat) (ma : Option Addr) (mc : Nat) (t : Sd) (ra2 : Option Addr) (rc2 : Nat) (ha2 : Option Addr) (hc2 : Nat) (ma2 : Option Addr) (mc2 : Nat) (la : Option Addr) (lc : Nat) (l : List Mg) (tag : Int) (aa : Option Addr) (ac : Nat) (arcs : List Ar) (kk : Int) (w : World) (w0 : SdRaw w ra rc ha hc ma mc s) (w1' : SdRaw w ra2 rc2 ha2 hc2 ma2 mc2 t) (w2' : MgsAt w la lc l ∧ (la = none → lc = 0)) (w4' : AArg w aa ac arcs) :
    Calls Try.prog 3 #[.agg #[.bool s.fr, .int .i64 s.nx, .slice ra s.rd.length rc, .slice ha s.hd.length hc, .slice ma s.ms.length mc], .agg #[.bool t.fr, .int .i64 t.nx, .slice ra2 t.rd.length rc2, .slice ha2 t.hd.length hc2, .slice ma2 t.ms.length mc2], .slice la l.length lc, .int .i64 tag, .slice aa arcs.length ac, .int .i64 kk] w fun e w' => e = .returned (.bool true) ∧ Below w.heap.size w w' := by
  have HT := Lib.hid told_any
  have mixed : Try.prog.follows .mixedOrders = true := by kernel_rfl
  obtain ⟨hx, hy, hb0, hWs⟩ := two_box (w := w) (.cells #[.bool s.fr, .int .i64 s.nx, .slice ra s.rd.length rc, .slice ha s.hd.length hc, .slice ma s.ms.length mc] 26) (.cells #[.bool t.fr, .int .i64 t.nx, .slice ra2 t.rd.length rc2, .slice ha2 t.hd.length hc2, .slice ma2 t.ms.length mc2] 26)
  obtain ⟨W, hW⟩ : ∃ W, W = (w.alloc (.cells #[.bool s.fr, .int .i64 s.nx, .slice ra s.rd.length rc, .slice ha s.hd.length hc, .slice ma s.ms.length mc] 26)).alloc (.cells #[.bool t.fr, .int .i64 t.nx, .slice ra2 t.rd.length rc2, .slice ha2 t.hd.length hc2, .slice ma2 t.ms.length mc2] 26) := ⟨_, rfl⟩
  rw [← hW] at hx hy hb0 hWs
  have HB0 := Lib.hid hb0
  have HBX := Lib.hid (fun (wx : World) (h : Below W.heap.size W wx) => And.intro (box_bl hx h) (box_bl hy h))
  have HR1 := Lib.hid w0
  have HR2 := Lib.hid w1'
  have HF1 := Lib.hid fun (wx : World) (h : Below w.heap.size w wx) => few_raw s ra rc ha hc ma mc wx (w0.below _ _ _ _ _ _ h)
  have HF2 := Lib.hid fun (wx : World) (h : Below w.heap.size w wx) => few_raw t ra2 rc2 ha2 hc2 ma2 mc2 wx (w1'.below _ _ _ _ _ _ h)
  have HBT := Lib.hid fun (wx : World) (h : Below w.heap.size w wx) => batch_any la lc l wx (w2'.1.below h)
  have HF9 := Lib.hid fun wx => few9a_any aa ac arcs.length wx
  have HL := Lib.hid w2'
  have HAR := Lib.hid w4'.at'
  have HW := Lib.hid hW
  have hx5 := box5 hx
  have hy5 := box5 hy
  rw [hW] at hx5 hy5
  obtain ⟨⟨x0, x1, x2, x3, x4⟩, -⟩ := hx5
  obtain ⟨⟨y0, y1, y2, y3, y4⟩, -⟩ := hy5
  have HU0 : Hid (Below W.heap.size W ((w.alloc (.cells #[.bool s.fr, .int .i64 s.nx, .slice ra s.rd.length rc, .slice ha s.hd.length hc, .slice ma s.ms.length mc] 26)).alloc (.cells #[.bool t.fr, .int .i64 t.nx, .slice ra2 t.rd.length rc2, .slice ha2 t.hd.length hc2, .slice ma2 t.ms.length mc2] 26))) := Lib.hid (by rw [← hW]; exact Below.refl _ _)
  have HV0 : Hid (Below w.heap.size w ((w.alloc (.cells #[.bool s.fr, .int .i64 s.nx, .slice ra s.rd.length rc, .slice ha s.hd.length hc, .slice ma s.ms.length mc] 26)).alloc (.cells #[.bool t.fr, .int .i64 t.nx, .slice ra2 t.rd.length rc2, .slice ha2 t.hd.length hc2, .slice ma2 t.ms.length mc2] 26))) := Lib.hid (by rw [← hW]; exact hb0)
  clear w0 w1' w2' w4' hx hy hb0 hW hWs
  by_cases c1 : FewS s
  case neg =>
    have HD1 : Hid (decide (FewS s) = false) := Lib.hid (decide_eq_false c1)
    clear c1
    go_enter Try.func3, Try.ntmps3
    go_wp2_with (first | (go_at_call 16; have hh := HF1.out _ HV0.out; (with_reducible refine hh.mono ?_); clear hh; rintro e w1 ⟨rfl, hg⟩; rw [HD1.out]; have HU1 := Lib.hid (HU0.out.trans (hg.below.mono HU0.out.size)); have HV1 := Lib.hid (HV0.out.trans (hg.below.mono HV0.out.size)); clear hg x0 x1 x2 x3 x4 y0 y1 y2 y3 y4; obtain ⟨⟨x0, x1, x2, x3, x4⟩, -⟩ := box5 (HBX.out _ HU1.out).1; obtain ⟨⟨y0, y1, y2, y3, y4⟩, -⟩ := box5 (HBX.out _ HU1.out).2) | (go_at_call 19; refine (HT.out _).mono ?_; rintro e w5 ⟨rfl, hb5⟩; have HB6 := Lib.hid (HV1.out.trans (hb5.mono HV1.out.size)); clear hb5))
    go_ret
    exact ⟨rfl, HB6.out⟩
  have HD1 : Hid (decide (FewS s) = true) := Lib.hid (decide_eq_true c1)
  by_cases c2 : FewS t
  case neg =>
    have HD2 : Hid (decide (FewS t) = false) := Lib.hid (decide_eq_false c2)
    clear c1 c2
    go_enter Try.func3, Try.ntmps3
    go_wp2_with (first | (go_at_call 16; have hh := HF1.out _ HV0.out; (with_reducible refine hh.mono ?_); clear hh; rintro e w1 ⟨rfl, hg⟩; rw [HD1.out]; have HU1 := Lib.hid (HU0.out.trans (hg.below.mono HU0.out.size)); have HV1 := Lib.hid (HV0.out.trans (hg.below.mono HV0.out.size)); clear hg x0 x1 x2 x3 x4 y0 y1 y2 y3 y4; obtain ⟨⟨x0, x1, x2, x3, x4⟩, -⟩ := box5 (HBX.out _ HU1.out).1; obtain ⟨⟨y0, y1, y2, y3, y4⟩, -⟩ := box5 (HBX.out _ HU1.out).2) | (go_at_call 16; have hh := HF2.out _ HV1.out; (with_reducible refine hh.mono ?_); clear hh; rintro e w2 ⟨rfl, hg⟩; rw [HD2.out]; have HU2 := Lib.hid (HU1.out.trans (hg.below.mono HU1.out.size)); have HV2 := Lib.hid (HV1.out.trans (hg.below.mono HV1.out.size)); clear hg x0 x1 x2 x3 x4 y0 y1 y2 y3 y4; obtain ⟨⟨x0, x1, x2, x3, x4⟩, -⟩ := box5 (HBX.out _ HU2.out).1; obtain ⟨⟨y0, y1, y2, y3, y4⟩, -⟩ := box5 (HBX.out _ HU2.out).2) | (go_at_call 19; refine (HT.out _).mono ?_; rintro e w5 ⟨rfl, hb5⟩; have HB6 := Lib.hid (HV2.out.trans (hb5.mono HV2.out.size)); clear hb5))
    go_ret
    exact ⟨rfl, HB6.out⟩
  have HD2 : Hid (decide (FewS t) = true) := Lib.hid (decide_eq_true c2)
  by_cases c3 : (∀ m ∈ l, ShortM m) ∧ l.length ≤ 12
  case neg =>
    have HD3 : Hid (decide ((∀ m ∈ l, ShortM m) ∧ l.length ≤ 12) = false) := Lib.hid (decide_eq_false c3)
    clear c1 c2 c3
    go_enter Try.func3, Try.ntmps3
    go_wp2_with (first | (go_at_call 16; have hh := HF1.out _ HV0.out; (with_reducible refine hh.mono ?_); clear hh; rintro e w1 ⟨rfl, hg⟩; rw [HD1.out]; have HU1 := Lib.hid (HU0.out.trans (hg.below.mono HU0.out.size)); have HV1 := Lib.hid (HV0.out.trans (hg.below.mono HV0.out.size)); clear hg x0 x1 x2 x3 x4 y0 y1 y2 y3 y4; obtain ⟨⟨x0, x1, x2, x3, x4⟩, -⟩ := box5 (HBX.out _ HU1.out).1; obtain ⟨⟨y0, y1, y2, y3, y4⟩, -⟩ := box5 (HBX.out _ HU1.out).2) | (go_at_call 16; have hh := HF2.out _ HV1.out; (with_reducible refine hh.mono ?_); clear hh; rintro e w2 ⟨rfl, hg⟩; rw [HD2.out]; have HU2 := Lib.hid (HU1.out.trans (hg.below.mono HU1.out.size)); have HV2 := Lib.hid (HV1.out.trans (hg.below.mono HV1.out.size)); clear hg x0 x1 x2 x3 x4 y0 y1 y2 y3 y4; obtain ⟨⟨x0, x1, x2, x3, x4⟩, -⟩ := box5 (HBX.out _ HU2.out).1; obtain ⟨⟨y0, y1, y2, y3, y4⟩, -⟩ := box5 (HBX.out _ HU2.out).2) | (go_at_call 17; have hh := HBT.out _ HV2.out; (with_reducible refine hh.mono ?_); clear hh; rintro e w3 ⟨rfl, hg⟩; rw [HD3.out]; have HU3 := Lib.hid (HU2.out.trans (hg.below.mono HU2.out.size)); have HV3 := Lib.hid (HV2.out.trans (hg.below.mono HV2.out.size)); clear hg x0 x1 x2 x3 x4 y0 y1 y2 y3 y4; obtain ⟨⟨x0, x1, x2, x3, x4⟩, -⟩ := box5 (HBX.out _ HU3.out).1; obtain ⟨⟨y0, y1, y2, y3, y4⟩, -⟩ := box5 (HBX.out _ HU3.out).2) | (go_at_call 19; refine (HT.out _).mono ?_; rintro e w5 ⟨rfl, hb5⟩; have HB6 := Lib.hid (HV3.out.trans (hb5.mono HV3.out.size)); clear hb5))
    go_ret
    exact ⟨rfl, HB6.out⟩
  have HD3 : Hid (decide ((∀ m ∈ l, ShortM m) ∧ l.length ≤ 12) = true) := Lib.hid (decide_eq_true c3)
  by_cases c4 : arcs.length ≤ 60
  case neg =>
    have HD4 : Hid (decide (arcs.length ≤ 60) = false) := Lib.hid (decide_eq_false c4)
    clear c1 c2 c3 c4
    go_enter Try.func3, Try.ntmps3
    go_wp2_with (first | (go_at_call 16; have hh := HF1.out _ HV0.out; (with_reducible refine hh.mono ?_); clear hh; rintro e w1 ⟨rfl, hg⟩; rw [HD1.out]; have HU1 := Lib.hid (HU0.out.trans (hg.below.mono HU0.out.size)); have HV1 := Lib.hid (HV0.out.trans (hg.below.mono HV0.out.size)); clear hg x0 x1 x2 x3 x4 y0 y1 y2 y3 y4; obtain ⟨⟨x0, x1, x2, x3, x4⟩, -⟩ := box5 (HBX.out _ HU1.out).1; obtain ⟨⟨y0, y1, y2, y3, y4⟩, -⟩ := box5 (HBX.out _ HU1.out).2) | (go_at_call 16; have hh := HF2.out _ HV1.out; (with_reducible refine hh.mono ?_); clear hh; rintro e w2 ⟨rfl, hg⟩; rw [HD2.out]; have HU2 := Lib.hid (HU1.out.trans (hg.below.mono HU1.out.size)); have HV2 := Lib.hid (HV1.out.trans (hg.below.mono HV1.out.size)); clear hg x0 x1 x2 x3 x4 y0 y1 y2 y3 y4; obtain ⟨⟨x0, x1, x2, x3, x4⟩, -⟩ := box5 (HBX.out _ HU2.out).1; obtain ⟨⟨y0, y1, y2, y3, y4⟩, -⟩ := box5 (HBX.out _ HU2.out).2) | (go_at_call 17; have hh := HBT.out _ HV2.out; (with_reducible refine hh.mono ?_); clear hh; rintro e w3 ⟨rfl, hg⟩; rw [HD3.out]; have HU3 := Lib.hid (HU2.out.trans (hg.below.mono HU2.out.size)); have HV3 := Lib.hid (HV2.out.trans (hg.below.mono HV2.out.size)); clear hg x0 x1 x2 x3 x4 y0 y1 y2 y3 y4; obtain ⟨⟨x0, x1, x2, x3, x4⟩, -⟩ := box5 (HBX.out _ HU3.out).1; obtain ⟨⟨y0, y1, y2, y3, y4⟩, -⟩ := box5 (HBX.out _ HU3.out).2) | (go_at_call 18; refine (HF9.out _).mono ?_; rintro e w4 ⟨rfl, rfl⟩; rw [HD4.out]) | (go_at_call 19; refine (HT.out _).mono ?_; rintro e w5 ⟨rfl, hb5⟩; have HB6 := Lib.hid (HV3.out.trans (hb5.mono HV3.out.size)); clear hb5))
    go_ret
    exact ⟨rfl, HB6.out⟩
  have HD4 : Hid (decide (arcs.length ≤ 60) = true) := Lib.hid (decide_eq_true c4)
  have HS0 := Lib.hid (HR1.out.sd _ _ _ _ _ _ c1)
  have HT0 := Lib.hid (HR2.out.sd _ _ _ _ _ _ c2)
  have hl9 : l.length ≤ 1000 := by omega
  clear c1 c2 c3 c4
  go_enter Try.func3, Try.ntmps3
  go_upto_region 3 with (first | (go_at_call 16; have hh := HF1.out _ HV0.out; (with_reducible refine hh.mono ?_); clear hh; rintro e w1 ⟨rfl, hg⟩; rw [HD1.out]; have HU1 := Lib.hid (HU0.out.trans (hg.below.mono HU0.out.size)); have HV1 := Lib.hid (HV0.out.trans (hg.below.mono HV0.out.size)); clear hg x0 x1 x2 x3 x4 y0 y1 y2 y3 y4; obtain ⟨⟨x0, x1, x2, x3, x4⟩, -⟩ := box5 (HBX.out _ HU1.out).1; obtain ⟨⟨y0, y1, y2, y3, y4⟩, -⟩ := box5 (HBX.out _ HU1.out).2) | (go_at_call 16; have hh := HF2.out _ HV1.out; (with_reducible refine hh.mono ?_); clear hh; rintro e w2 ⟨rfl, hg⟩; rw [HD2.out]; have HU2 := Lib.hid (HU1.out.trans (hg.below.mono HU1.out.size)); have HV2 := Lib.hid (HV1.out.trans (hg.below.mono HV1.out.size)); clear hg x0 x1 x2 x3 x4 y0 y1 y2 y3 y4; obtain ⟨⟨x0, x1, x2, x3, x4⟩, -⟩ := box5 (HBX.out _ HU2.out).1; obtain ⟨⟨y0, y1, y2, y3, y4⟩, -⟩ := box5 (HBX.out _ HU2.out).2) | (go_at_call 17; have hh := HBT.out _ HV2.out; (with_reducible refine hh.mono ?_); clear hh; rintro e w3 ⟨rfl, hg⟩; rw [HD3.out]; have HU3 := Lib.hid (HU2.out.trans (hg.below.mono HU2.out.size)); have HV3 := Lib.hid (HV2.out.trans (hg.below.mono HV2.out.size)); clear hg x0 x1 x2 x3 x4 y0 y1 y2 y3 y4; obtain ⟨⟨x0, x1, x2, x3, x4⟩, -⟩ := box5 (HBX.out _ HU3.out).1; obtain ⟨⟨y0, y1, y2, y3, y4⟩, -⟩ := box5 (HBX.out _ HU3.out).2) | (go_at_call 18; refine (HF9.out _).mono ?_; rintro e w4 ⟨rfl, rfl⟩; rw [HD4.out]))
  have HC := Lib.hid HV3.out
  have HS := Lib.hid (show Bx w3 w.heap.size ra rc ha hc ma mc s from ⟨(HBX.out _ HU3.out).1, HS0.out.below _ _ _ _ _ _ HV3.out⟩)
  have HTt := Lib.hid (show Bx w3 (w.heap.size + 1) ra2 rc2 ha2 hc2 ma2 mc2 t from ⟨(HBX.out _ HU3.out).2, HT0.out.below _ _ _ _ _ _ HV3.out⟩)
  have HLM := Lib.hid fun (wx : World) (h : Below w.heap.size w wx) => HL.out.1.below h
  have HAW := Lib.hid fun (wx : World) (h : Below w.heap.size w wx) => HAR.out.below h
  clear HU0 HU1 HU2 HU3 HV0 HV1 HV2 HV3 HBX HR1 HR2 HF1 HF2 HBT HF9 HD1 HD2 HD3 HD4 HB0 HW x0 x1 x2 x3 x4 y0 y1 y2 y3 y4
  generalize w3 = W3 at *
  obtain ⟨⟨x0, x1, x2, x3, x4⟩, -⟩ := box5 HS.out.bx
  have hh := put_any s _ _ _ _ _ _ la lc l hl9 W3 HS.out.sd (HLM.out _ HC.out) HL.out.2
  go_upto_region 4 with (go_at_call 20; (with_reducible refine hh.mono ?_); clear hh; rintro e w7 ⟨ra3, rc3, ha3, hc3, ma3, mc3, rfl, ho7, hsm7, hb7⟩; have hs7 := ho7.sd _ _ _ _ _ _ hsm7; clear ho7 hsm7; have HS7 := Lib.hid hs7; have HB7 := Lib.hid hb7; clear hs7 hb7)
  have st := ask_alloc _ _ _ _ _ _ HC.out HB7.out HS7.out
  generalize hE : w7.alloc (.cells #[.bool (putS s l).fr, .int .i64 (putS s l).nx, .slice ra3 (putS s l).rd.length rc3, .slice ha3 (putS s l).hd.length hc3, .slice ma3 (putS s l).ms.length mc3] 26) = W4 at *
  generalize w7.heap.size = ga at *
  clear hE HC x0 x1 x2 x3 x4
  have HC := Lib.hid st.1
  have HS' := st.2.2 _ _ _ _ _ _ _ _ HS.out
  have laHS := HS'.2
  clear HS
  have HS := Lib.hid HS'.1
  clear HS'
  have HTt' := st.2.2 _ _ _ _ _ _ _ _ HTt.out
  have laHTt := HTt'.2
  clear HTt
  have HTt := Lib.hid HTt'.1
  clear HTt'
  have Ha := Lib.hid st.2.1
  clear st HB7 HS7
  obtain ⟨⟨x0, x1, x2, x3, x4⟩, -⟩ := box5 HS.out.bx
  have hh := rput_any s _ _ _ _ _ _ la lc l hl9 W4 HS.out.sd (HLM.out _ HC.out) HL.out.2
  go_upto_region 5 with (go_at_call 21; (with_reducible refine hh.mono ?_); clear hh; rintro e w7 ⟨ra4, rc4, ha4, hc4, ma4, mc4, rfl, hs7, hb7⟩; have HS7 := Lib.hid hs7; have HB7 := Lib.hid hb7; clear hs7 hb7)
  have st := ask_alloc _ _ _ _ _ _ HC.out HB7.out HS7.out
  generalize hE : w7.alloc (.cells #[.bool (putS s l).fr, .int .i64 (putS s l).nx, .slice ra4 (putS s l).rd.length rc4, .slice ha4 (putS s l).hd.length hc4, .slice ma4 (putS s l).ms.length mc4] 26) = W5 at *
  generalize w7.heap.size = gb at *
  clear hE HC x0 x1 x2 x3 x4
  have HC := Lib.hid st.1
  have HS' := st.2.2 _ _ _ _ _ _ _ _ HS.out
  have lbHS := HS'.2
  clear HS
  have HS := Lib.hid HS'.1
  clear HS'
  have HTt' := st.2.2 _ _ _ _ _ _ _ _ HTt.out
  have lbHTt := HTt'.2
  clear HTt
  have HTt := Lib.hid HTt'.1
  clear HTt'
  have Ha' := st.2.2 _ _ _ _ _ _ _ _ Ha.out
  have lbHa := Ha'.2
  clear Ha
  have Ha := Lib.hid Ha'.1
  clear Ha'
  have Hb := Lib.hid st.2.1
  clear st HB7 HS7
  obtain ⟨⟨x0, x1, x2, x3, x4⟩, -⟩ := box5 HS.out.bx
  have hh := get_any s _ _ _ _ _ _ W5 HS.out.sd
  go_upto_region 6 with (go_at_call 22; (with_reducible refine hh.mono ?_); clear hh; rintro e w7 ⟨ra5, rc5, ha5, hc5, ma5, mc5, rfl, ho7, hsm7, hb7⟩; have hs7 := ho7.sd _ _ _ _ _ _ hsm7; clear ho7 hsm7; have HS7 := Lib.hid hs7; have HB7 := Lib.hid hb7; clear hs7 hb7)
  have st := ask_alloc2 _ _ _ _ _ _ (getH s) HC.out HB7.out HS7.out
  generalize hE : (w7.alloc (.cells #[.bool (getS s).fr, .int .i64 (getS s).nx, .slice ra5 (getS s).rd.length rc5, .slice ha5 (getS s).hd.length hc5, .slice ma5 (getS s).ms.length mc5] 26)).alloc (.cells #[.int .i64 (getH s).tag, .int .i64 ((getH s).m).pub, .int .i64 ((getH s).m).seq, .string ⟨((getH s).m).key.toArray⟩, .string ⟨((getH s).m).body.toArray⟩, .bool ((getH s).m).again] 37) = W6 at *
  generalize w7.heap.size = gc at *
  clear hE HC x0 x1 x2 x3 x4
  have HC := Lib.hid st.1
  have HS' := st.2.2.1 _ _ _ _ _ _ _ _ HS.out
  have lcHS := HS'.2
  clear HS
  have HS := Lib.hid HS'.1
  clear HS'
  have HTt' := st.2.2.1 _ _ _ _ _ _ _ _ HTt.out
  have lcHTt := HTt'.2
  clear HTt
  have HTt := Lib.hid HTt'.1
  clear HTt'
  have Ha' := st.2.2.1 _ _ _ _ _ _ _ _ Ha.out
  have lcHa := Ha'.2
  clear Ha
  have Ha := Lib.hid Ha'.1
  clear Ha'
  have Hb' := st.2.2.1 _ _ _ _ _ _ _ _ Hb.out
  have lcHb := Hb'.2
  clear Hb
  have Hb := Lib.hid Hb'.1
  clear Hb'
  have Hc := Lib.hid st.2.1
  have HHc := Lib.hid st.2.2.2.1
  clear st HB7 HS7
  obtain ⟨⟨x0, x1, x2, x3, x4⟩, -⟩ := box5 HS.out.bx
  have hh := rget_any s _ _ _ _ _ _ W6 HS.out.sd
  go_upto_region 7 with (go_at_call 23; (with_reducible refine hh.mono ?_); clear hh; rintro e w7 ⟨ra6, rc6, ha6, hc6, ma6, mc6, rfl, hs7, hb7⟩; have HS7 := Lib.hid hs7; have HB7 := Lib.hid hb7; clear hs7 hb7)
  have st := ask_alloc2 _ _ _ _ _ _ (getH s) HC.out HB7.out HS7.out
  generalize hE : (w7.alloc (.cells #[.bool (getS s).fr, .int .i64 (getS s).nx, .slice ra6 (getS s).rd.length rc6, .slice ha6 (getS s).hd.length hc6, .slice ma6 (getS s).ms.length mc6] 26)).alloc (.cells #[.int .i64 (getH s).tag, .int .i64 ((getH s).m).pub, .int .i64 ((getH s).m).seq, .string ⟨((getH s).m).key.toArray⟩, .string ⟨((getH s).m).body.toArray⟩, .bool ((getH s).m).again] 37) = W7 at *
  generalize w7.heap.size = gd at *
  clear hE HC x0 x1 x2 x3 x4
  have HC := Lib.hid st.1
  have HS' := st.2.2.1 _ _ _ _ _ _ _ _ HS.out
  have ldHS := HS'.2
  clear HS
  have HS := Lib.hid HS'.1
  clear HS'
  have HTt' := st.2.2.1 _ _ _ _ _ _ _ _ HTt.out
  have ldHTt := HTt'.2
  clear HTt
  have HTt := Lib.hid HTt'.1
  clear HTt'
  have Ha' := st.2.2.1 _ _ _ _ _ _ _ _ Ha.out
  have ldHa := Ha'.2
  clear Ha
  have Ha := Lib.hid Ha'.1
  clear Ha'
  have Hb' := st.2.2.1 _ _ _ _ _ _ _ _ Hb.out
  have ldHb := Hb'.2
  clear Hb
  have Hb := Lib.hid Hb'.1
  clear Hb'
  have Hc' := st.2.2.1 _ _ _ _ _ _ _ _ Hc.out
  have ldHc := Hc'.2
  clear Hc
  have Hc := Lib.hid Hc'.1
  clear Hc'
  have Hd := Lib.hid st.2.1
  have HHc' := box_bl HHc.out st.2.2.2.2
  have ldHHc := (box_lt HHc.out).1
  clear HHc
  have HHc := Lib.hid HHc'
  clear HHc'
  have HHd := Lib.hid st.2.2.2.1
  clear st HB7 HS7
  have hne := fun wx => hd_neq (getH s) (getH s) true (decide_eq_true rfl) wx
  have qHS0 := fun q : Und W7 => (box5 (box_bl HS.out.bx q.hb)).1.1
  have qHS1 := fun q : Und W7 => (box5 (box_bl HS.out.bx q.hb)).1.2.1
  have qHS2 := fun q : Und W7 => (box5 (box_bl HS.out.bx q.hb)).1.2.2.1
  have qHS3 := fun q : Und W7 => (box5 (box_bl HS.out.bx q.hb)).1.2.2.2.1
  have qHS4 := fun q : Und W7 => (box5 (box_bl HS.out.bx q.hb)).1.2.2.2.2
  have qHa0 := fun q : Und W7 => (box5 (box_bl Ha.out.bx q.hb)).1.1
  have qHa1 := fun q : Und W7 => (box5 (box_bl Ha.out.bx q.hb)).1.2.1
  have qHa2 := fun q : Und W7 => (box5 (box_bl Ha.out.bx q.hb)).1.2.2.1
  have qHa3 := fun q : Und W7 => (box5 (box_bl Ha.out.bx q.hb)).1.2.2.2.1
  have qHa4 := fun q : Und W7 => (box5 (box_bl Ha.out.bx q.hb)).1.2.2.2.2
  have qHb0 := fun q : Und W7 => (box5 (box_bl Hb.out.bx q.hb)).1.1
  have qHb1 := fun q : Und W7 => (box5 (box_bl Hb.out.bx q.hb)).1.2.1
  have qHb2 := fun q : Und W7 => (box5 (box_bl Hb.out.bx q.hb)).1.2.2.1
  have qHb3 := fun q : Und W7 => (box5 (box_bl Hb.out.bx q.hb)).1.2.2.2.1
  have qHb4 := fun q : Und W7 => (box5 (box_bl Hb.out.bx q.hb)).1.2.2.2.2
  have qHc0 := fun q : Und W7 => (box5 (box_bl Hc.out.bx q.hb)).1.1
  have qHc1 := fun q : Und W7 => (box5 (box_bl Hc.out.bx q.hb)).1.2.1
  have qHc2 := fun q : Und W7 => (box5 (box_bl Hc.out.bx q.hb)).1.2.2.1
  have qHc3 := fun q : Und W7 => (box5 (box_bl Hc.out.bx q.hb)).1.2.2.2.1
  have qHc4 := fun q : Und W7 => (box5 (box_bl Hc.out.bx q.hb)).1.2.2.2.2
  have qHd0 := fun q : Und W7 => (box5 (box_bl Hd.out.bx q.hb)).1.1
  have qHd1 := fun q : Und W7 => (box5 (box_bl Hd.out.bx q.hb)).1.2.1
  have qHd2 := fun q : Und W7 => (box5 (box_bl Hd.out.bx q.hb)).1.2.2.1
  have qHd3 := fun q : Und W7 => (box5 (box_bl Hd.out.bx q.hb)).1.2.2.2.1
  have qHd4 := fun q : Und W7 => (box5 (box_bl Hd.out.bx q.hb)).1.2.2.2.2
  have qHHc0 := fun q : Und W7 => (box6 (box_bl HHc.out q.hb)).1.1
  have qHHc1 := fun q : Und W7 => (box6 (box_bl HHc.out q.hb)).1.2.1
  have qHHc2 := fun q : Und W7 => (box6 (box_bl HHc.out q.hb)).1.2.2.1
  have qHHc3 := fun q : Und W7 => (box6 (box_bl HHc.out q.hb)).1.2.2.2.1
  have qHHc4 := fun q : Und W7 => (box6 (box_bl HHc.out q.hb)).1.2.2.2.2.1
  have qHHc5 := fun q : Und W7 => (box6 (box_bl HHc.out q.hb)).1.2.2.2.2.2
  have qHHd0 := fun q : Und W7 => (box6 (box_bl HHd.out q.hb)).1.1
  have qHHd1 := fun q : Und W7 => (box6 (box_bl HHd.out q.hb)).1.2.1
  have qHHd2 := fun q : Und W7 => (box6 (box_bl HHd.out q.hb)).1.2.2.1
  have qHHd3 := fun q : Und W7 => (box6 (box_bl HHd.out q.hb)).1.2.2.2.1
  have qHHd4 := fun q : Und W7 => (box6 (box_bl HHd.out q.hb)).1.2.2.2.2.1
  have qHHd5 := fun q : Und W7 => (box6 (box_bl HHd.out q.hb)).1.2.2.2.2.2
  have K1 := Lib.hid fun q : Und W7 => may_any s _ _ _ _ _ _ q.wx (HS.out.sd.below _ _ _ _ _ _ q.hb)
  have K2 := Lib.hid fun q : Und W7 => rmay_any s _ _ _ _ _ _ q.wx (HS.out.sd.below _ _ _ _ _ _ q.hb)
  have K3 := Lib.hid fun q : Und W7 => (show Calls Try.prog 26 _ q.wx (fun e w' => e = .returned (.bool true) ∧ Below q.wx.heap.size q.wx w') from by have h := rsame_any (putS s l) (putS s l) _ _ _ _ _ _ _ _ _ _ _ _ q.wx (Ha.out.sd.below _ _ _ _ _ _ q.hb) (Hb.out.sd.below _ _ _ _ _ _ q.hb); rw [decide_eq_true (rfl : (putS s l) = (putS s l))] at h; exact h)
  have K4 := Lib.hid fun q : Und W7 => (show Calls Try.prog 26 _ q.wx (fun e w' => e = .returned (.bool true) ∧ Below q.wx.heap.size q.wx w') from by have h := rsame_any (getS s) (getS s) _ _ _ _ _ _ _ _ _ _ _ _ q.wx (Hc.out.sd.below _ _ _ _ _ _ q.hb) (Hd.out.sd.below _ _ _ _ _ _ q.hb); rw [decide_eq_true (rfl : (getS s) = (getS s))] at h; exact h)
  (refine wp_region_quiet_below (by assumption) (by kernel_rfl) ?_; (try dsimp only [List.append]); (repeat (go_big_quiet_step (first | (go_at_call 24; with_reducible exact Calls.below_of (K1.out _)) | (go_at_call 25; with_reducible exact Calls.below_of (K2.out _)) | (go_at_call 26; with_reducible exact Calls.below_of (K3.out _)) | (go_at_call 26; with_reducible exact Calls.below_of (K4.out _))))); refine wpQuiet_nil ?_; intro _ hw'; obtain ⟨wq, hw''⟩ := hw'; subst hw''; have HBQ := Lib.hid wq.hb)
  clear qHS0 qHS1 qHS2 qHS3 qHS4 qHa0 qHa1 qHa2 qHa3 qHa4 qHb0 qHb1 qHb2 qHb3 qHb4 qHc0 qHc1 qHc2 qHc3 qHc4 qHd0 qHd1 qHd2 qHd3 qHd4 qHHc0 qHHc1 qHHc2 qHHc3 qHHc4 qHHc5 qHHd0 qHHd1 qHHd2 qHHd3 qHHd4 qHHd5 K1 K2 K3 K4
  clear hne HHc HHd
  have HS' := HS.out.below _ _ _ _ _ _ HBQ.out
  clear HS
  have HS := Lib.hid HS'
  clear HS'
  have HTt' := HTt.out.below _ _ _ _ _ _ HBQ.out
  clear HTt
  have HTt := Lib.hid HTt'
  clear HTt'
  have Ha' := Ha.out.below _ _ _ _ _ _ HBQ.out
  clear Ha
  have Ha := Lib.hid Ha'
  clear Ha'
  have Hb' := Hb.out.below _ _ _ _ _ _ HBQ.out
  clear Hb
  have Hb := Lib.hid Hb'
  clear Hb'
  have Hc' := Hc.out.below _ _ _ _ _ _ HBQ.out
  clear Hc
  have Hc := Lib.hid Hc'
  clear Hc'
  have Hd' := Hd.out.below _ _ _ _ _ _ HBQ.out
  clear Hd
  have Hd := Lib.hid Hd'
  clear Hd'
  have HC' := HC.out.trans (HBQ.out.mono HC.out.size)
  clear HC HBQ
  have HC := Lib.hid HC'
  clear HC'
  generalize wq.wx = W8 at *
  obtain ⟨⟨x0, x1, x2, x3, x4⟩, -⟩ := box5 HS.out.bx
  have hh := ack_any s tag _ _ _ _ _ _ W8 HS.out.sd
  go_upto_region 10 with (go_at_call 27; (with_reducible refine hh.mono ?_); clear hh; rintro e w7 ⟨ra9, rc9, ha9, hc9, ma9, mc9, rfl, ho7, hsm7, hb7⟩; have hs7 := ho7.sd _ _ _ _ _ _ hsm7; clear ho7 hsm7; have HS7 := Lib.hid hs7; have HB7 := Lib.hid hb7; obtain ⟨⟨u0, u1, u2, u3, u4⟩, r0, r1, r2, r3, r4⟩ := box5 (box_bl Ha.out.bx hb7); clear hs7 hb7)
  have st := ask_store _ _ _ _ _ _ _ _ _ _ _ _ HC.out (show w.heap.size ≤ ga by omega) Ha.out HB7.out HS7.out
  generalize hE : World.setCell (World.setCell (World.setCell (World.setCell (World.setCell w7 _ _) _ _) _ _) _ _) _ _ = W9
  have hE' : set5 w7 ga (.bool (ackS s tag).fr) (.int .i64 (ackS s tag).nx) (.slice ra9 (ackS s tag).rd.length rc9) (.slice ha9 (ackS s tag).hd.length hc9) (.slice ma9 (ackS s tag).ms.length mc9) = W9 := hE
  rw [hE'] at st
  clear hE hE' HC x0 x1 x2 x3 x4 u0 u1 u2 u3 u4 r0 r1 r2 r3 r4
  have HC := Lib.hid st.1
  have HS' := st.2.2 _ _ _ _ _ _ _ _ (by omega) HS.out
  clear HS
  have HS := Lib.hid HS'
  clear HS'
  have HTt' := st.2.2 _ _ _ _ _ _ _ _ (by omega) HTt.out
  clear HTt
  have HTt := Lib.hid HTt'
  clear HTt'
  have Hb' := st.2.2 _ _ _ _ _ _ _ _ (by omega) Hb.out
  clear Hb
  have Hb := Lib.hid Hb'
  clear Hb'
  have Hc' := st.2.2 _ _ _ _ _ _ _ _ (by omega) Hc.out
  clear Hc
  have Hc := Lib.hid Hc'
  clear Hc'
  have Hd' := st.2.2 _ _ _ _ _ _ _ _ (by omega) Hd.out
  clear Hd
  have Hd := Lib.hid Hd'
  clear Hd'
  clear Ha
  have Ha := Lib.hid st.2.1
  clear st HB7 HS7
  skip
  obtain ⟨⟨x0, x1, x2, x3, x4⟩, -⟩ := box5 HS.out.bx
  have hh := rack_any s tag _ _ _ _ _ _ W9 HS.out.sd
  go_upto_region 11 with (go_at_call 28; (with_reducible refine hh.mono ?_); clear hh; rintro e w7 ⟨ra9, rc9, ha9, hc9, ma9, mc9, rfl, hs7, hb7⟩; have HS7 := Lib.hid hs7; have HB7 := Lib.hid hb7; obtain ⟨⟨u0, u1, u2, u3, u4⟩, r0, r1, r2, r3, r4⟩ := box5 (box_bl Hb.out.bx hb7); clear hs7 hb7)
  have st := ask_store _ _ _ _ _ _ _ _ _ _ _ _ HC.out (show w.heap.size ≤ gb by omega) Hb.out HB7.out HS7.out
  generalize hE : World.setCell (World.setCell (World.setCell (World.setCell (World.setCell w7 _ _) _ _) _ _) _ _) _ _ = W10
  have hE' : set5 w7 gb (.bool (ackS s tag).fr) (.int .i64 (ackS s tag).nx) (.slice ra9 (ackS s tag).rd.length rc9) (.slice ha9 (ackS s tag).hd.length hc9) (.slice ma9 (ackS s tag).ms.length mc9) = W10 := hE
  rw [hE'] at st
  clear hE hE' HC x0 x1 x2 x3 x4 u0 u1 u2 u3 u4 r0 r1 r2 r3 r4
  have HC := Lib.hid st.1
  have HS' := st.2.2 _ _ _ _ _ _ _ _ (by omega) HS.out
  clear HS
  have HS := Lib.hid HS'
  clear HS'
  have HTt' := st.2.2 _ _ _ _ _ _ _ _ (by omega) HTt.out
  clear HTt
  have HTt := Lib.hid HTt'
  clear HTt'
  have Ha' := st.2.2 _ _ _ _ _ _ _ _ (by omega) Ha.out
  clear Ha
  have Ha := Lib.hid Ha'
  clear Ha'
  have Hc' := st.2.2 _ _ _ _ _ _ _ _ (by omega) Hc.out
  clear Hc
  have Hc := Lib.hid Hc'
  clear Hc'
  have Hd' := st.2.2 _ _ _ _ _ _ _ _ (by omega) Hd.out
  clear Hd
  have Hd := Lib.hid Hd'
  clear Hd'
  clear Hb
  have Hb := Lib.hid st.2.1
  clear st HB7 HS7
  skip
  obtain ⟨⟨x0, x1, x2, x3, x4⟩, -⟩ := box5 Ha.out.bx
  obtain ⟨⟨y0, y1, y2, y3, y4⟩, -⟩ := box5 Hb.out.bx
  have hh := rsame_any (ackS s tag) (ackS s tag) _ _ _ _ _ _ _ _ _ _ _ _ W10 Ha.out.sd Hb.out.sd
  rw [decide_eq_true (rfl : (ackS s tag) = (ackS s tag))] at hh
  go_upto_region 13 with (go_at_call 26; (with_reducible refine hh.mono ?_); clear hh; rintro e W11 ⟨rfl, hb7⟩; have HB7 := Lib.hid hb7; clear hb7)
  clear x0 x1 x2 x3 x4 y0 y1 y2 y3 y4
  have HS' := HS.out.below _ _ _ _ _ _ HB7.out
  clear HS
  have HS := Lib.hid HS'
  clear HS'
  have HTt' := HTt.out.below _ _ _ _ _ _ HB7.out
  clear HTt
  have HTt := Lib.hid HTt'
  clear HTt'
  have Ha' := Ha.out.below _ _ _ _ _ _ HB7.out
  clear Ha
  have Ha := Lib.hid Ha'
  clear Ha'
  have Hb' := Hb.out.below _ _ _ _ _ _ HB7.out
  clear Hb
  have Hb := Lib.hid Hb'
  clear Hb'
  have Hc' := Hc.out.below _ _ _ _ _ _ HB7.out
  clear Hc
  have Hc := Lib.hid Hc'
  clear Hc'
  have Hd' := Hd.out.below _ _ _ _ _ _ HB7.out
  clear Hd
  have Hd := Lib.hid Hd'
  clear Hd'
  have HC' := HC.out.trans (HB7.out.mono HC.out.size)
  clear HC HB7
  have HC := Lib.hid HC'
  clear HC'
  obtain ⟨⟨x0, x1, x2, x3, x4⟩, -⟩ := box5 HS.out.bx
  have hh := nack_any s tag _ _ _ _ _ _ W11 HS.out.sd
  go_upto_region 14 with (go_at_call 29; (with_reducible refine hh.mono ?_); clear hh; rintro e w7 ⟨ra9, rc9, ha9, hc9, ma9, mc9, rfl, ho7, hsm7, hb7⟩; have hs7 := ho7.sd _ _ _ _ _ _ hsm7; clear ho7 hsm7; have HS7 := Lib.hid hs7; have HB7 := Lib.hid hb7; obtain ⟨⟨u0, u1, u2, u3, u4⟩, r0, r1, r2, r3, r4⟩ := box5 (box_bl Ha.out.bx hb7); clear hs7 hb7)
  have st := ask_store _ _ _ _ _ _ _ _ _ _ _ _ HC.out (show w.heap.size ≤ ga by omega) Ha.out HB7.out HS7.out
  generalize hE : World.setCell (World.setCell (World.setCell (World.setCell (World.setCell w7 _ _) _ _) _ _) _ _) _ _ = W12
  have hE' : set5 w7 ga (.bool (nackS s tag).fr) (.int .i64 (nackS s tag).nx) (.slice ra9 (nackS s tag).rd.length rc9) (.slice ha9 (nackS s tag).hd.length hc9) (.slice ma9 (nackS s tag).ms.length mc9) = W12 := hE
  rw [hE'] at st
  clear hE hE' HC x0 x1 x2 x3 x4 u0 u1 u2 u3 u4 r0 r1 r2 r3 r4
  have HC := Lib.hid st.1
  have HS' := st.2.2 _ _ _ _ _ _ _ _ (by omega) HS.out
  clear HS
  have HS := Lib.hid HS'
  clear HS'
  have HTt' := st.2.2 _ _ _ _ _ _ _ _ (by omega) HTt.out
  clear HTt
  have HTt := Lib.hid HTt'
  clear HTt'
  have Hb' := st.2.2 _ _ _ _ _ _ _ _ (by omega) Hb.out
  clear Hb
  have Hb := Lib.hid Hb'
  clear Hb'
  have Hc' := st.2.2 _ _ _ _ _ _ _ _ (by omega) Hc.out
  clear Hc
  have Hc := Lib.hid Hc'
  clear Hc'
  have Hd' := st.2.2 _ _ _ _ _ _ _ _ (by omega) Hd.out
  clear Hd
  have Hd := Lib.hid Hd'
  clear Hd'
  clear Ha
  have Ha := Lib.hid st.2.1
  clear st HB7 HS7
  skip
  obtain ⟨⟨x0, x1, x2, x3, x4⟩, -⟩ := box5 HS.out.bx
  have hh := rnack_any s tag _ _ _ _ _ _ W12 HS.out.sd
  go_upto_region 15 with (go_at_call 30; (with_reducible refine hh.mono ?_); clear hh; rintro e w7 ⟨ra9, rc9, ha9, hc9, ma9, mc9, rfl, hs7, hb7⟩; have HS7 := Lib.hid hs7; have HB7 := Lib.hid hb7; obtain ⟨⟨u0, u1, u2, u3, u4⟩, r0, r1, r2, r3, r4⟩ := box5 (box_bl Hb.out.bx hb7); clear hs7 hb7)
  have st := ask_store _ _ _ _ _ _ _ _ _ _ _ _ HC.out (show w.heap.size ≤ gb by omega) Hb.out HB7.out HS7.out
  generalize hE : World.setCell (World.setCell (World.setCell (World.setCell (World.setCell w7 _ _) _ _) _ _) _ _) _ _ = W13
  have hE' : set5 w7 gb (.bool (nackS s tag).fr) (.int .i64 (nackS s tag).nx) (.slice ra9 (nackS s tag).rd.length rc9) (.slice ha9 (nackS s tag).hd.length hc9) (.slice ma9 (nackS s tag).ms.length mc9) = W13 := hE
  rw [hE'] at st
  clear hE hE' HC x0 x1 x2 x3 x4 u0 u1 u2 u3 u4 r0 r1 r2 r3 r4
  have HC := Lib.hid st.1
  have HS' := st.2.2 _ _ _ _ _ _ _ _ (by omega) HS.out
  clear HS
  have HS := Lib.hid HS'
  clear HS'
  have HTt' := st.2.2 _ _ _ _ _ _ _ _ (by omega) HTt.out
  clear HTt
  have HTt := Lib.hid HTt'
  clear HTt'
  have Ha' := st.2.2 _ _ _ _ _ _ _ _ (by omega) Ha.out
  clear Ha
  have Ha := Lib.hid Ha'
  clear Ha'
  have Hc' := st.2.2 _ _ _ _ _ _ _ _ (by omega) Hc.out
  clear Hc
  have Hc := Lib.hid Hc'
  clear Hc'
  have Hd' := st.2.2 _ _ _ _ _ _ _ _ (by omega) Hd.out
  clear Hd
  have Hd := Lib.hid Hd'
  clear Hd'
  clear Hb
  have Hb := Lib.hid st.2.1
  clear st HB7 HS7
  skip
  obtain ⟨⟨x0, x1, x2, x3, x4⟩, -⟩ := box5 Ha.out.bx
  obtain ⟨⟨y0, y1, y2, y3, y4⟩, -⟩ := box5 Hb.out.bx
  have hh := rsame_any (nackS s tag) (nackS s tag) _ _ _ _ _ _ _ _ _ _ _ _ W13 Ha.out.sd Hb.out.sd
  rw [decide_eq_true (rfl : (nackS s tag) = (nackS s tag))] at hh
  go_upto_region 17 with (go_at_call 26; (with_reducible refine hh.mono ?_); clear hh; rintro e W14 ⟨rfl, hb7⟩; have HB7 := Lib.hid hb7; clear hb7)
  clear x0 x1 x2 x3 x4 y0 y1 y2 y3 y4
  have HS' := HS.out.below _ _ _ _ _ _ HB7.out
  clear HS
  have HS := Lib.hid HS'
  clear HS'
  have HTt' := HTt.out.below _ _ _ _ _ _ HB7.out
  clear HTt
  have HTt := Lib.hid HTt'
  clear HTt'
  have Ha' := Ha.out.below _ _ _ _ _ _ HB7.out
  clear Ha
  have Ha := Lib.hid Ha'
  clear Ha'
  have Hb' := Hb.out.below _ _ _ _ _ _ HB7.out
  clear Hb
  have Hb := Lib.hid Hb'
  clear Hb'
  have Hc' := Hc.out.below _ _ _ _ _ _ HB7.out
  clear Hc
  have Hc := Lib.hid Hc'
  clear Hc'
  have Hd' := Hd.out.below _ _ _ _ _ _ HB7.out
  clear Hd
  have Hd := Lib.hid Hd'
  clear Hd'
  have HC' := HC.out.trans (HB7.out.mono HC.out.size)
  clear HC HB7
  have HC := Lib.hid HC'
  clear HC'
  obtain ⟨⟨x0, x1, x2, x3, x4⟩, -⟩ := box5 HS.out.bx
  have hh := part_any s _ _ _ _ _ _ aa ac arcs kk W14 HS.out.sd (HAW.out _ HC.out)
  go_upto_region 18 with (go_at_call 31; (with_reducible refine hh.mono ?_); clear hh; rintro e w7 ⟨ra9, rc9, ha9, hc9, ma9, mc9, rfl, ho7, hsm7, hb7⟩; have hs7 := ho7.sd _ _ _ _ _ _ hsm7; clear ho7 hsm7; have HS7 := Lib.hid hs7; have HB7 := Lib.hid hb7; obtain ⟨⟨u0, u1, u2, u3, u4⟩, r0, r1, r2, r3, r4⟩ := box5 (box_bl Ha.out.bx hb7); clear hs7 hb7)
  have st := ask_store _ _ _ _ _ _ _ _ _ _ _ _ HC.out (show w.heap.size ≤ ga by omega) Ha.out HB7.out HS7.out
  generalize hE : World.setCell (World.setCell (World.setCell (World.setCell (World.setCell w7 _ _) _ _) _ _) _ _) _ _ = W15
  have hE' : set5 w7 ga (.bool (partS s arcs kk).fr) (.int .i64 (partS s arcs kk).nx) (.slice ra9 (partS s arcs kk).rd.length rc9) (.slice ha9 (partS s arcs kk).hd.length hc9) (.slice ma9 (partS s arcs kk).ms.length mc9) = W15 := hE
  rw [hE'] at st
  clear hE hE' HC x0 x1 x2 x3 x4 u0 u1 u2 u3 u4 r0 r1 r2 r3 r4
  have HC := Lib.hid st.1
  have HS' := st.2.2 _ _ _ _ _ _ _ _ (by omega) HS.out
  clear HS
  have HS := Lib.hid HS'
  clear HS'
  have HTt' := st.2.2 _ _ _ _ _ _ _ _ (by omega) HTt.out
  clear HTt
  have HTt := Lib.hid HTt'
  clear HTt'
  have Hb' := st.2.2 _ _ _ _ _ _ _ _ (by omega) Hb.out
  clear Hb
  have Hb := Lib.hid Hb'
  clear Hb'
  have Hc' := st.2.2 _ _ _ _ _ _ _ _ (by omega) Hc.out
  clear Hc
  have Hc := Lib.hid Hc'
  clear Hc'
  have Hd' := st.2.2 _ _ _ _ _ _ _ _ (by omega) Hd.out
  clear Hd
  have Hd := Lib.hid Hd'
  clear Hd'
  clear Ha
  have Ha := Lib.hid st.2.1
  clear st HB7 HS7
  skip
  obtain ⟨⟨x0, x1, x2, x3, x4⟩, -⟩ := box5 HS.out.bx
  have hh := rpart_any s _ _ _ _ _ _ aa ac arcs kk W15 HS.out.sd (HAW.out _ HC.out)
  go_upto_region 19 with (go_at_call 32; (with_reducible refine hh.mono ?_); clear hh; rintro e w7 ⟨ra9, rc9, ha9, hc9, ma9, mc9, rfl, hs7, hb7⟩; have HS7 := Lib.hid hs7; have HB7 := Lib.hid hb7; obtain ⟨⟨u0, u1, u2, u3, u4⟩, r0, r1, r2, r3, r4⟩ := box5 (box_bl Hb.out.bx hb7); clear hs7 hb7)
  have st := ask_store _ _ _ _ _ _ _ _ _ _ _ _ HC.out (show w.heap.size ≤ gb by omega) Hb.out HB7.out HS7.out
  generalize hE : World.setCell (World.setCell (World.setCell (World.setCell (World.setCell w7 _ _) _ _) _ _) _ _) _ _ = W16
  have hE' : set5 w7 gb (.bool (partS s arcs kk).fr) (.int .i64 (partS s arcs kk).nx) (.slice ra9 (partS s arcs kk).rd.length rc9) (.slice ha9 (partS s arcs kk).hd.length hc9) (.slice ma9 (partS s arcs kk).ms.length mc9) = W16 := hE
  rw [hE'] at st
  clear hE hE' HC x0 x1 x2 x3 x4 u0 u1 u2 u3 u4 r0 r1 r2 r3 r4
  have HC := Lib.hid st.1
  have HS' := st.2.2 _ _ _ _ _ _ _ _ (by omega) HS.out
  clear HS
  have HS := Lib.hid HS'
  clear HS'
  have HTt' := st.2.2 _ _ _ _ _ _ _ _ (by omega) HTt.out
  clear HTt
  have HTt := Lib.hid HTt'
  clear HTt'
  have Ha' := st.2.2 _ _ _ _ _ _ _ _ (by omega) Ha.out
  clear Ha
  have Ha := Lib.hid Ha'
  clear Ha'
  have Hc' := st.2.2 _ _ _ _ _ _ _ _ (by omega) Hc.out
  clear Hc
  have Hc := Lib.hid Hc'
  clear Hc'
  have Hd' := st.2.2 _ _ _ _ _ _ _ _ (by omega) Hd.out
  clear Hd
  have Hd := Lib.hid Hd'
  clear Hd'
  clear Hb
  have Hb := Lib.hid st.2.1
  clear st HB7 HS7
  skip
  obtain ⟨⟨x0, x1, x2, x3, x4⟩, -⟩ := box5 Ha.out.bx
  obtain ⟨⟨y0, y1, y2, y3, y4⟩, -⟩ := box5 Hb.out.bx
  have hh := rsame_any (partS s arcs kk) (partS s arcs kk) _ _ _ _ _ _ _ _ _ _ _ _ W16 Ha.out.sd Hb.out.sd
  rw [decide_eq_true (rfl : (partS s arcs kk) = (partS s arcs kk))] at hh
  go_upto_region 21 with (go_at_call 26; (with_reducible refine hh.mono ?_); clear hh; rintro e W17 ⟨rfl, hb7⟩; have HB7 := Lib.hid hb7; clear hb7)
  clear x0 x1 x2 x3 x4 y0 y1 y2 y3 y4
  have HS' := HS.out.below _ _ _ _ _ _ HB7.out
  clear HS
  have HS := Lib.hid HS'
  clear HS'
  have HTt' := HTt.out.below _ _ _ _ _ _ HB7.out
  clear HTt
  have HTt := Lib.hid HTt'
  clear HTt'
  have Ha' := Ha.out.below _ _ _ _ _ _ HB7.out
  clear Ha
  have Ha := Lib.hid Ha'
  clear Ha'
  have Hb' := Hb.out.below _ _ _ _ _ _ HB7.out
  clear Hb
  have Hb := Lib.hid Hb'
  clear Hb'
  have Hc' := Hc.out.below _ _ _ _ _ _ HB7.out
  clear Hc
  have Hc := Lib.hid Hc'
  clear Hc'
  have Hd' := Hd.out.below _ _ _ _ _ _ HB7.out
  clear Hd
  have Hd := Lib.hid Hd'
  clear Hd'
  have HC' := HC.out.trans (HB7.out.mono HC.out.size)
  clear HC HB7
  have HC := Lib.hid HC'
  clear HC'
  obtain ⟨⟨x0, x1, x2, x3, x4⟩, -⟩ := box5 HS.out.bx
  have hh := freeze_any s _ _ _ _ _ _ W17 HS.out.sd
  go_upto_region 22 with (go_at_call 33; (with_reducible refine hh.mono ?_); clear hh; rintro e w7 ⟨ra9, rc9, ha9, hc9, ma9, mc9, rfl, ho7, hsm7, hb7⟩; have hs7 := ho7.sd _ _ _ _ _ _ hsm7; clear ho7 hsm7; have HS7 := Lib.hid hs7; have HB7 := Lib.hid hb7; obtain ⟨⟨u0, u1, u2, u3, u4⟩, r0, r1, r2, r3, r4⟩ := box5 (box_bl Ha.out.bx hb7); clear hs7 hb7)
  have st := ask_store _ _ _ _ _ _ _ _ _ _ _ _ HC.out (show w.heap.size ≤ ga by omega) Ha.out HB7.out HS7.out
  generalize hE : World.setCell (World.setCell (World.setCell (World.setCell (World.setCell w7 _ _) _ _) _ _) _ _) _ _ = W18
  have hE' : set5 w7 ga (.bool (setS s true).fr) (.int .i64 (setS s true).nx) (.slice ra9 (setS s true).rd.length rc9) (.slice ha9 (setS s true).hd.length hc9) (.slice ma9 (setS s true).ms.length mc9) = W18 := hE
  rw [hE'] at st
  clear hE hE' HC x0 x1 x2 x3 x4 u0 u1 u2 u3 u4 r0 r1 r2 r3 r4
  have HC := Lib.hid st.1
  have HS' := st.2.2 _ _ _ _ _ _ _ _ (by omega) HS.out
  clear HS
  have HS := Lib.hid HS'
  clear HS'
  have HTt' := st.2.2 _ _ _ _ _ _ _ _ (by omega) HTt.out
  clear HTt
  have HTt := Lib.hid HTt'
  clear HTt'
  have Hb' := st.2.2 _ _ _ _ _ _ _ _ (by omega) Hb.out
  clear Hb
  have Hb := Lib.hid Hb'
  clear Hb'
  have Hc' := st.2.2 _ _ _ _ _ _ _ _ (by omega) Hc.out
  clear Hc
  have Hc := Lib.hid Hc'
  clear Hc'
  have Hd' := st.2.2 _ _ _ _ _ _ _ _ (by omega) Hd.out
  clear Hd
  have Hd := Lib.hid Hd'
  clear Hd'
  clear Ha
  have Ha := Lib.hid st.2.1
  clear st HB7 HS7
  skip
  obtain ⟨⟨x0, x1, x2, x3, x4⟩, -⟩ := box5 HS.out.bx
  have hh := rfreeze_any s _ _ _ _ _ _ W18 HS.out.sd
  go_upto_region 23 with (go_at_call 34; (with_reducible refine hh.mono ?_); clear hh; rintro e w7 ⟨ra9, rc9, ha9, hc9, ma9, mc9, rfl, hs7, hb7⟩; have HS7 := Lib.hid hs7; have HB7 := Lib.hid hb7; obtain ⟨⟨u0, u1, u2, u3, u4⟩, r0, r1, r2, r3, r4⟩ := box5 (box_bl Hb.out.bx hb7); clear hs7 hb7)
  have st := ask_store _ _ _ _ _ _ _ _ _ _ _ _ HC.out (show w.heap.size ≤ gb by omega) Hb.out HB7.out HS7.out
  generalize hE : World.setCell (World.setCell (World.setCell (World.setCell (World.setCell w7 _ _) _ _) _ _) _ _) _ _ = W19
  have hE' : set5 w7 gb (.bool (setS s true).fr) (.int .i64 (setS s true).nx) (.slice ra9 (setS s true).rd.length rc9) (.slice ha9 (setS s true).hd.length hc9) (.slice ma9 (setS s true).ms.length mc9) = W19 := hE
  rw [hE'] at st
  clear hE hE' HC x0 x1 x2 x3 x4 u0 u1 u2 u3 u4 r0 r1 r2 r3 r4
  have HC := Lib.hid st.1
  have HS' := st.2.2 _ _ _ _ _ _ _ _ (by omega) HS.out
  clear HS
  have HS := Lib.hid HS'
  clear HS'
  have HTt' := st.2.2 _ _ _ _ _ _ _ _ (by omega) HTt.out
  clear HTt
  have HTt := Lib.hid HTt'
  clear HTt'
  have Ha' := st.2.2 _ _ _ _ _ _ _ _ (by omega) Ha.out
  clear Ha
  have Ha := Lib.hid Ha'
  clear Ha'
  have Hc' := st.2.2 _ _ _ _ _ _ _ _ (by omega) Hc.out
  clear Hc
  have Hc := Lib.hid Hc'
  clear Hc'
  have Hd' := st.2.2 _ _ _ _ _ _ _ _ (by omega) Hd.out
  clear Hd
  have Hd := Lib.hid Hd'
  clear Hd'
  clear Hb
  have Hb := Lib.hid st.2.1
  clear st HB7 HS7
  skip
  obtain ⟨⟨x0, x1, x2, x3, x4⟩, -⟩ := box5 HS.out.bx
  have hh := thaw_any s _ _ _ _ _ _ W19 HS.out.sd
  go_upto_region 24 with (go_at_call 35; (with_reducible refine hh.mono ?_); clear hh; rintro e w7 ⟨ra9, rc9, ha9, hc9, ma9, mc9, rfl, ho7, hsm7, hb7⟩; have hs7 := ho7.sd _ _ _ _ _ _ hsm7; clear ho7 hsm7; have HS7 := Lib.hid hs7; have HB7 := Lib.hid hb7; obtain ⟨⟨u0, u1, u2, u3, u4⟩, r0, r1, r2, r3, r4⟩ := box5 (box_bl Hc.out.bx hb7); clear hs7 hb7)
  have st := ask_store _ _ _ _ _ _ _ _ _ _ _ _ HC.out (show w.heap.size ≤ gc by omega) Hc.out HB7.out HS7.out
  generalize hE : World.setCell (World.setCell (World.setCell (World.setCell (World.setCell w7 _ _) _ _) _ _) _ _) _ _ = W20
  have hE' : set5 w7 gc (.bool (setS s false).fr) (.int .i64 (setS s false).nx) (.slice ra9 (setS s false).rd.length rc9) (.slice ha9 (setS s false).hd.length hc9) (.slice ma9 (setS s false).ms.length mc9) = W20 := hE
  rw [hE'] at st
  clear hE hE' HC x0 x1 x2 x3 x4 u0 u1 u2 u3 u4 r0 r1 r2 r3 r4
  have HC := Lib.hid st.1
  have HS' := st.2.2 _ _ _ _ _ _ _ _ (by omega) HS.out
  clear HS
  have HS := Lib.hid HS'
  clear HS'
  have HTt' := st.2.2 _ _ _ _ _ _ _ _ (by omega) HTt.out
  clear HTt
  have HTt := Lib.hid HTt'
  clear HTt'
  have Ha' := st.2.2 _ _ _ _ _ _ _ _ (by omega) Ha.out
  clear Ha
  have Ha := Lib.hid Ha'
  clear Ha'
  have Hb' := st.2.2 _ _ _ _ _ _ _ _ (by omega) Hb.out
  clear Hb
  have Hb := Lib.hid Hb'
  clear Hb'
  have Hd' := st.2.2 _ _ _ _ _ _ _ _ (by omega) Hd.out
  clear Hd
  have Hd := Lib.hid Hd'
  clear Hd'
  clear Hc
  have Hc := Lib.hid st.2.1
  clear st HB7 HS7
  skip
  obtain ⟨⟨x0, x1, x2, x3, x4⟩, -⟩ := box5 HS.out.bx
  have hh := rthaw_any s _ _ _ _ _ _ W20 HS.out.sd
  go_upto_region 25 with (go_at_call 36; (with_reducible refine hh.mono ?_); clear hh; rintro e w7 ⟨ra9, rc9, ha9, hc9, ma9, mc9, rfl, hs7, hb7⟩; have HS7 := Lib.hid hs7; have HB7 := Lib.hid hb7; obtain ⟨⟨u0, u1, u2, u3, u4⟩, r0, r1, r2, r3, r4⟩ := box5 (box_bl Hd.out.bx hb7); clear hs7 hb7)
  have st := ask_store _ _ _ _ _ _ _ _ _ _ _ _ HC.out (show w.heap.size ≤ gd by omega) Hd.out HB7.out HS7.out
  generalize hE : World.setCell (World.setCell (World.setCell (World.setCell (World.setCell w7 _ _) _ _) _ _) _ _) _ _ = W21
  have hE' : set5 w7 gd (.bool (setS s false).fr) (.int .i64 (setS s false).nx) (.slice ra9 (setS s false).rd.length rc9) (.slice ha9 (setS s false).hd.length hc9) (.slice ma9 (setS s false).ms.length mc9) = W21 := hE
  rw [hE'] at st
  clear hE hE' HC x0 x1 x2 x3 x4 u0 u1 u2 u3 u4 r0 r1 r2 r3 r4
  have HC := Lib.hid st.1
  have HS' := st.2.2 _ _ _ _ _ _ _ _ (by omega) HS.out
  clear HS
  have HS := Lib.hid HS'
  clear HS'
  have HTt' := st.2.2 _ _ _ _ _ _ _ _ (by omega) HTt.out
  clear HTt
  have HTt := Lib.hid HTt'
  clear HTt'
  have Ha' := st.2.2 _ _ _ _ _ _ _ _ (by omega) Ha.out
  clear Ha
  have Ha := Lib.hid Ha'
  clear Ha'
  have Hb' := st.2.2 _ _ _ _ _ _ _ _ (by omega) Hb.out
  clear Hb
  have Hb := Lib.hid Hb'
  clear Hb'
  have Hc' := st.2.2 _ _ _ _ _ _ _ _ (by omega) Hc.out
  clear Hc
  have Hc := Lib.hid Hc'
  clear Hc'
  clear Hd
  have Hd := Lib.hid st.2.1
  clear st HB7 HS7
  skip
  have qHS0 := fun q : Und W21 => (box5 (box_bl HS.out.bx q.hb)).1.1
  have qHS1 := fun q : Und W21 => (box5 (box_bl HS.out.bx q.hb)).1.2.1
  have qHS2 := fun q : Und W21 => (box5 (box_bl HS.out.bx q.hb)).1.2.2.1
  have qHS3 := fun q : Und W21 => (box5 (box_bl HS.out.bx q.hb)).1.2.2.2.1
  have qHS4 := fun q : Und W21 => (box5 (box_bl HS.out.bx q.hb)).1.2.2.2.2
  have qHTt0 := fun q : Und W21 => (box5 (box_bl HTt.out.bx q.hb)).1.1
  have qHTt1 := fun q : Und W21 => (box5 (box_bl HTt.out.bx q.hb)).1.2.1
  have qHTt2 := fun q : Und W21 => (box5 (box_bl HTt.out.bx q.hb)).1.2.2.1
  have qHTt3 := fun q : Und W21 => (box5 (box_bl HTt.out.bx q.hb)).1.2.2.2.1
  have qHTt4 := fun q : Und W21 => (box5 (box_bl HTt.out.bx q.hb)).1.2.2.2.2
  have qHa0 := fun q : Und W21 => (box5 (box_bl Ha.out.bx q.hb)).1.1
  have qHa1 := fun q : Und W21 => (box5 (box_bl Ha.out.bx q.hb)).1.2.1
  have qHa2 := fun q : Und W21 => (box5 (box_bl Ha.out.bx q.hb)).1.2.2.1
  have qHa3 := fun q : Und W21 => (box5 (box_bl Ha.out.bx q.hb)).1.2.2.2.1
  have qHa4 := fun q : Und W21 => (box5 (box_bl Ha.out.bx q.hb)).1.2.2.2.2
  have qHb0 := fun q : Und W21 => (box5 (box_bl Hb.out.bx q.hb)).1.1
  have qHb1 := fun q : Und W21 => (box5 (box_bl Hb.out.bx q.hb)).1.2.1
  have qHb2 := fun q : Und W21 => (box5 (box_bl Hb.out.bx q.hb)).1.2.2.1
  have qHb3 := fun q : Und W21 => (box5 (box_bl Hb.out.bx q.hb)).1.2.2.2.1
  have qHb4 := fun q : Und W21 => (box5 (box_bl Hb.out.bx q.hb)).1.2.2.2.2
  have qHc0 := fun q : Und W21 => (box5 (box_bl Hc.out.bx q.hb)).1.1
  have qHc1 := fun q : Und W21 => (box5 (box_bl Hc.out.bx q.hb)).1.2.1
  have qHc2 := fun q : Und W21 => (box5 (box_bl Hc.out.bx q.hb)).1.2.2.1
  have qHc3 := fun q : Und W21 => (box5 (box_bl Hc.out.bx q.hb)).1.2.2.2.1
  have qHc4 := fun q : Und W21 => (box5 (box_bl Hc.out.bx q.hb)).1.2.2.2.2
  have qHd0 := fun q : Und W21 => (box5 (box_bl Hd.out.bx q.hb)).1.1
  have qHd1 := fun q : Und W21 => (box5 (box_bl Hd.out.bx q.hb)).1.2.1
  have qHd2 := fun q : Und W21 => (box5 (box_bl Hd.out.bx q.hb)).1.2.2.1
  have qHd3 := fun q : Und W21 => (box5 (box_bl Hd.out.bx q.hb)).1.2.2.2.1
  have qHd4 := fun q : Und W21 => (box5 (box_bl Hd.out.bx q.hb)).1.2.2.2.2
  have K0 := Lib.hid fun q : Und W21 => HT.out q.wx
  have K1 := Lib.hid fun q : Und W21 => psame_any s t _ _ _ _ _ _ _ _ _ _ _ _ q.wx (HS.out.sd.below _ _ _ _ _ _ q.hb) (HTt.out.sd.below _ _ _ _ _ _ q.hb)
  have K2 := Lib.hid fun q : Und W21 => rsame_any s t _ _ _ _ _ _ _ _ _ _ _ _ q.wx (HS.out.sd.below _ _ _ _ _ _ q.hb) (HTt.out.sd.below _ _ _ _ _ _ q.hb)
  have K3 := Lib.hid fun q : Und W21 => (show Calls Try.prog 26 _ q.wx (fun e w' => e = .returned (.bool true) ∧ Below q.wx.heap.size q.wx w') from by have h := rsame_any (setS s true) (setS s true) _ _ _ _ _ _ _ _ _ _ _ _ q.wx (Ha.out.sd.below _ _ _ _ _ _ q.hb) (Hb.out.sd.below _ _ _ _ _ _ q.hb); rw [decide_eq_true (rfl : (setS s true) = (setS s true))] at h; exact h)
  have K4 := Lib.hid fun q : Und W21 => (show Calls Try.prog 26 _ q.wx (fun e w' => e = .returned (.bool true) ∧ Below q.wx.heap.size q.wx w') from by have h := rsame_any (setS s false) (setS s false) _ _ _ _ _ _ _ _ _ _ _ _ q.wx (Hc.out.sd.below _ _ _ _ _ _ q.hb) (Hd.out.sd.below _ _ _ _ _ _ q.hb); rw [decide_eq_true (rfl : (setS s false) = (setS s false))] at h; exact h)
  have K5 := Lib.hid fun q : Und W21 => (show Calls Try.prog 37 _ q.wx (fun e w' => e = .returned (.bool true) ∧ Below q.wx.heap.size q.wx w') from by have h := psame_any s s _ _ _ _ _ _ _ _ _ _ _ _ q.wx (HS.out.sd.below _ _ _ _ _ _ q.hb) (HS.out.sd.below _ _ _ _ _ _ q.hb); rw [decide_eq_true (rfl : s = s)] at h; exact h)
  (refine wp_region_quiet_below (by assumption) (by kernel_rfl) ?_; (try dsimp only [List.append]); (repeat (go_big_quiet_step (first | (go_at_call 19; with_reducible exact Calls.below_of (K0.out _)) | (go_at_call 37; with_reducible exact Calls.below_of (K1.out _)) | (go_at_call 26; with_reducible exact Calls.below_of (K2.out _)) | (go_at_call 26; with_reducible exact Calls.below_of (K3.out _)) | (go_at_call 26; with_reducible exact Calls.below_of (K4.out _)) | (go_at_call 37; with_reducible exact Calls.below_of (K5.out _))))); refine wpQuiet_nil ?_; intro _ hw'; obtain ⟨wq, hw''⟩ := hw'; subst hw''; have HBQ := Lib.hid wq.hb)
  clear qHS0 qHS1 qHS2 qHS3 qHS4 qHTt0 qHTt1 qHTt2 qHTt3 qHTt4 qHa0 qHa1 qHa2 qHa3 qHa4 qHb0 qHb1 qHb2 qHb3 qHb4 qHc0 qHc1 qHc2 qHc3 qHc4 qHd0 qHd1 qHd2 qHd3 qHd4 K0 K1 K2 K3 K4 K5
  have HFIN := Lib.hid (HC.out.trans (HBQ.out.mono HC.out.size))
  go_wp2_with fail
  go_ret
  exact ⟨rfl, HFIN.out⟩

  end Go.Proofs.Ythohjcfpobeplaa.Sh
