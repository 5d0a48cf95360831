/-
  The document's MayRecord of records that may be, walked (printed by tools/gen_slrmay.py).
  The document's Apply of records that may be, walked (printed by tools/gen_slapp.py r).
  The document's Open of records that may be, walked (printed by tools/gen_slropen.py).
-/
import Derived.Test.YthohjcfpobeplaaSlMay
import Derived.Test.YthohjcfpobeplaaShRMay
import Derived.Test.YthohjcfpobeplaaShRSame
import Derived.Test.YthohjcfpobeplaaSlApp
import Derived.Test.YthohjcfpobeplaaShRSet
import Derived.Test.YthohjcfpobeplaaShRAck
import Derived.Test.YthohjcfpobeplaaShRGet
import Derived.Test.YthohjcfpobeplaaShRPut
import Derived.Test.YthohjcfpobeplaaShRLast
import Derived.Deep.CutRange
import Derived.Deep.LoopGhost
import Derived.Deep.RegionHeld3
import Derived.Deep.CutBlock
import Derived.BigRegion

namespace Go.Proofs.Ythohjcfpobeplaa.Sl
open Go.RowKit Rg Sh
set_option linter.unusedVariables false
set_option linter.unusedSimpArgs false

def rmRel (W : World) (l : List Mg) (m : Nat) (v : Value) (wr : World) : Prop :=
  ∃ i : Nat, i ≤ l.length ∧ v = .int .i64 i ∧ m = l.length - i ∧ Below W.heap.size W wr

set_option maxRecDepth 100000 in
set_option maxHeartbeats 4000000 in
theorem rmay_put (bt : List Mg) (ba : Option Addr) (bc : Nat) (ra : Option Addr) (rc : Nat) (ha : Option Addr) (hc : Nat) (ma : Option Addr) (mc : Nat) (w : World) (hr : RcAt w ba bc ra rc ha hc ma mc ⟨1, 0, false, bt, ⟨false, 0, [], [], []⟩⟩) (h1 : 1 ≤ bt.length) (h2 : bt.length ≤ 8) (h3 : ∀ m ∈ bt, MayMg m) :
    Calls Try.prog 125 #[.agg #[.int .i64 1, .int .i64 0, .bool false, .slice ba bt.length bc, .bool false, .int .i64 0, .slice ra 0 rc, .slice ha 0 hc, .slice ma 0 mc]] w fun e w' => e = .returned (.bool true) ∧ Below w.heap.size w w' := by
  obtain ⟨hx, hb0, hWs⟩ := one_box (w := w) (.cells #[.int .i64 1, .int .i64 0, .bool false, .slice ba bt.length bc, .bool false, .int .i64 0, .slice ra 0 rc, .slice ha 0 hc, .slice ma 0 mc] 89)
  obtain ⟨W, hW⟩ : ∃ W, W = w.alloc (.cells #[.int .i64 1, .int .i64 0, .bool false, .slice ba bt.length bc, .bool false, .int .i64 0, .slice ra 0 rc, .slice ha 0 hc, .slice ma 0 mc] 89) := ⟨_, rfl⟩
  rw [← hW] at hx hb0 hWs
  have hr1 := RcAt.below ba bc ra rc ha hc ma mc hr hb0
  have HR1 := Lib.hid hr1
  have HB0 := Lib.hid hb0
  have HBX := Lib.hid (fun (wx : World) (h : Below W.heap.size W wx) => (box9 (box_bl hx h)).1)
  have HD0 : Hid (Below W.heap.size W (w.alloc (.cells #[.int .i64 1, .int .i64 0, .bool false, .slice ba bt.length bc, .bool false, .int .i64 0, .slice ra 0 rc, .slice ha 0 hc, .slice ma 0 mc] 89))) := Lib.hid (by rw [← hW]; exact Below.refl _ _)
  obtain ⟨x0, x1, x2, x3, x4, x5, x6, x7, x8⟩ := HBX.out _ HD0.out
  have HS : Hid (∀ wx, Below W.heap.size W wx → Calls Try.prog 26 #[.agg #[.bool false, .int .i64 0, .slice ra 0 rc, .slice ha 0 hc, .slice ma 0 mc], .agg #[.bool false, .int .i64 0, .slice none 0 0, .slice none 0 0, .slice none 0 0]] wx fun e w' => e = .returned (.bool true) ∧ Below wx.heap.size wx w') := Lib.hid fun wx h => by
    have := rsame_any ⟨false, 0, [], [], []⟩ ⟨false, 0, [], [], []⟩ ra rc ha hc ma mc none 0 none 0 none 0 wx (hr1.sd.below _ _ _ _ _ _ h) (sd_zero wx)
    rwa [decide_eq_true rfl] at this
  have HM := Lib.hid h3
  have hlen := hr.bt.len
  have hmax := hr.bt.max
  unfold maxLen at hmax
  have e1 : ¬ (bt.length : Int) < 1 := by have : 1 ≤ bt.length := h1; omega
  have e2 : ¬ (8 : Int) < (bt.length : Int) := by have : bt.length ≤ 8 := h2; omega
  have hl8 : bt.length ≤ 8 := h2
  clear hr1 hr hx hb0 hW hWs h1 h2 h3
  go_enter Try.func125, Try.ntmps125
  go_wp2_with (go_at_call 26; refine (HS.out _ HD0.out).mono ?_; rintro e w2 ⟨rfl, hd⟩; have HD2 := Lib.hid (HD0.out.trans (hd.mono HD0.out.size)); clear hd; obtain ⟨x0, x1, x2, x3, x4, x5, x6, x7, x8⟩ := HBX.out _ HD2.out)
  go_loopg [3] bt.length (rmRel W bt)
  case atStart => exact ⟨0, Nat.zero_le _, rfl, rfl, HD2.out⟩
  case round =>
    obtain ⟨i, hi, rfl, rfl, hb⟩ := hrel
    have HB := Lib.hid hb
    clear hb
    clear x0 x1 x2 x3 x4 x5 x6 x7 x8
    obtain ⟨x0, x1, x2, x3, x4, x5, x6, x7, x8⟩ := HBX.out _ HB.out
    by_cases hlt : i < bt.length
    · have hlti : (i : Int) < (bt.length : Int) := by omega
      have h0i : (0 : Int) ≤ (i : Int) := by omega
      have h4 : IntKind.i64.wrap ((i : Int) + 1) = (i : Int) + 1 := IntWalk.i64_in _ (by omega)
      have HXM : Hid (decide (MayMg bt[i]) = true) := Lib.hid (decide_eq_true (HM.out _ (List.getElem_mem hlt)))
      have HBT := HR1.out.bt.below HB.out
      obtain ⟨b, o, rfl, d0, d1, d2, d3, d4⟩ := MgsAt.get HBT i hlt
      clear HBT
      have hmm := Lib.hid fun wx => rmayMsg_any bt[i] wx
      generalize bt[i] = x at *
      go_wp2_with (go_at_call 75; refine (hmm.out _).mono ?_; rintro e w3 ⟨rfl, hg⟩; rw [HXM.out]; have HG := Lib.hid (HB.out.trans (hg.below.mono HB.out.size)); clear hg)
      go_roundg (bt.length - (i + 1))
      case measure => omega
      case rel => exact ⟨i + 1, by omega, by go_num, by simp, HG.out⟩
    · obtain rfl : i = bt.length := by omega
      go_wp2_with fail
      go_ret
      exact ⟨rfl, HB0.out.trans (HB.out.mono HB0.out.size)⟩

set_option maxRecDepth 100000 in
set_option maxHeartbeats 4000000 in
theorem rmay_get (t : Int) (ba : Option Addr) (bc : Nat) (ra : Option Addr) (rc : Nat) (ha : Option Addr) (hc : Nat) (ma : Option Addr) (mc : Nat) (w : World) (hr : RcAt w ba bc ra rc ha hc ma mc ⟨2, t, false, [], ⟨false, 0, [], [], []⟩⟩) (h1 : 1 ≤ t) (h2 : t ≤ 1073741824) :
    Calls Try.prog 125 #[.agg #[.int .i64 2, .int .i64 t, .bool false, .slice ba 0 bc, .bool false, .int .i64 0, .slice ra 0 rc, .slice ha 0 hc, .slice ma 0 mc]] w fun e w' => e = .returned (.bool true) ∧ Below w.heap.size w w' := by
  obtain ⟨hx, hb0, hWs⟩ := one_box (w := w) (.cells #[.int .i64 2, .int .i64 t, .bool false, .slice ba 0 bc, .bool false, .int .i64 0, .slice ra 0 rc, .slice ha 0 hc, .slice ma 0 mc] 89)
  obtain ⟨W, hW⟩ : ∃ W, W = w.alloc (.cells #[.int .i64 2, .int .i64 t, .bool false, .slice ba 0 bc, .bool false, .int .i64 0, .slice ra 0 rc, .slice ha 0 hc, .slice ma 0 mc] 89) := ⟨_, rfl⟩
  rw [← hW] at hx hb0 hWs
  have hr1 := RcAt.below ba bc ra rc ha hc ma mc hr hb0
  have HR1 := Lib.hid hr1
  have HB0 := Lib.hid hb0
  have HBX := Lib.hid (fun (wx : World) (h : Below W.heap.size W wx) => (box9 (box_bl hx h)).1)
  have HD0 : Hid (Below W.heap.size W (w.alloc (.cells #[.int .i64 2, .int .i64 t, .bool false, .slice ba 0 bc, .bool false, .int .i64 0, .slice ra 0 rc, .slice ha 0 hc, .slice ma 0 mc] 89))) := Lib.hid (by rw [← hW]; exact Below.refl _ _)
  obtain ⟨x0, x1, x2, x3, x4, x5, x6, x7, x8⟩ := HBX.out _ HD0.out
  have HS : Hid (∀ wx, Below W.heap.size W wx → Calls Try.prog 26 #[.agg #[.bool false, .int .i64 0, .slice ra 0 rc, .slice ha 0 hc, .slice ma 0 mc], .agg #[.bool false, .int .i64 0, .slice none 0 0, .slice none 0 0, .slice none 0 0]] wx fun e w' => e = .returned (.bool true) ∧ Below wx.heap.size wx w') := Lib.hid fun wx h => by
    have := rsame_any ⟨false, 0, [], [], []⟩ ⟨false, 0, [], [], []⟩ ra rc ha hc ma mc none 0 none 0 none 0 wx (hr1.sd.below _ _ _ _ _ _ h) (sd_zero wx)
    rwa [decide_eq_true rfl] at this
  clear hr1 hr hx hb0 hW hWs
  go_enter Try.func125, Try.ntmps125
  go_wp2_with (go_at_call 26; refine (HS.out _ HD0.out).mono ?_; rintro e w2 ⟨rfl, hd⟩; have HD2 := Lib.hid (HD0.out.trans (hd.mono HD0.out.size)); clear hd; obtain ⟨x0, x1, x2, x3, x4, x5, x6, x7, x8⟩ := HBX.out _ HD2.out)
  go_ret
  exact ⟨rfl, HB0.out.trans (HD2.out.mono HB0.out.size)⟩

set_option maxRecDepth 100000 in
set_option maxHeartbeats 4000000 in
theorem rmay_ack (t : Int) (ba : Option Addr) (bc : Nat) (ra : Option Addr) (rc : Nat) (ha : Option Addr) (hc : Nat) (ma : Option Addr) (mc : Nat) (w : World) (hr : RcAt w ba bc ra rc ha hc ma mc ⟨3, t, false, [], ⟨false, 0, [], [], []⟩⟩) (h1 : 1 ≤ t) (h2 : t ≤ 1073741824) :
    Calls Try.prog 125 #[.agg #[.int .i64 3, .int .i64 t, .bool false, .slice ba 0 bc, .bool false, .int .i64 0, .slice ra 0 rc, .slice ha 0 hc, .slice ma 0 mc]] w fun e w' => e = .returned (.bool true) ∧ Below w.heap.size w w' := by
  obtain ⟨hx, hb0, hWs⟩ := one_box (w := w) (.cells #[.int .i64 3, .int .i64 t, .bool false, .slice ba 0 bc, .bool false, .int .i64 0, .slice ra 0 rc, .slice ha 0 hc, .slice ma 0 mc] 89)
  obtain ⟨W, hW⟩ : ∃ W, W = w.alloc (.cells #[.int .i64 3, .int .i64 t, .bool false, .slice ba 0 bc, .bool false, .int .i64 0, .slice ra 0 rc, .slice ha 0 hc, .slice ma 0 mc] 89) := ⟨_, rfl⟩
  rw [← hW] at hx hb0 hWs
  have hr1 := RcAt.below ba bc ra rc ha hc ma mc hr hb0
  have HR1 := Lib.hid hr1
  have HB0 := Lib.hid hb0
  have HBX := Lib.hid (fun (wx : World) (h : Below W.heap.size W wx) => (box9 (box_bl hx h)).1)
  have HD0 : Hid (Below W.heap.size W (w.alloc (.cells #[.int .i64 3, .int .i64 t, .bool false, .slice ba 0 bc, .bool false, .int .i64 0, .slice ra 0 rc, .slice ha 0 hc, .slice ma 0 mc] 89))) := Lib.hid (by rw [← hW]; exact Below.refl _ _)
  obtain ⟨x0, x1, x2, x3, x4, x5, x6, x7, x8⟩ := HBX.out _ HD0.out
  have HS : Hid (∀ wx, Below W.heap.size W wx → Calls Try.prog 26 #[.agg #[.bool false, .int .i64 0, .slice ra 0 rc, .slice ha 0 hc, .slice ma 0 mc], .agg #[.bool false, .int .i64 0, .slice none 0 0, .slice none 0 0, .slice none 0 0]] wx fun e w' => e = .returned (.bool true) ∧ Below wx.heap.size wx w') := Lib.hid fun wx h => by
    have := rsame_any ⟨false, 0, [], [], []⟩ ⟨false, 0, [], [], []⟩ ra rc ha hc ma mc none 0 none 0 none 0 wx (hr1.sd.below _ _ _ _ _ _ h) (sd_zero wx)
    rwa [decide_eq_true rfl] at this
  clear hr1 hr hx hb0 hW hWs
  go_enter Try.func125, Try.ntmps125
  go_wp2_with (go_at_call 26; refine (HS.out _ HD0.out).mono ?_; rintro e w2 ⟨rfl, hd⟩; have HD2 := Lib.hid (HD0.out.trans (hd.mono HD0.out.size)); clear hd; obtain ⟨x0, x1, x2, x3, x4, x5, x6, x7, x8⟩ := HBX.out _ HD2.out)
  go_ret
  exact ⟨rfl, HB0.out.trans (HD2.out.mono HB0.out.size)⟩

set_option maxRecDepth 100000 in
set_option maxHeartbeats 4000000 in
theorem rmay_nack (t : Int) (ba : Option Addr) (bc : Nat) (ra : Option Addr) (rc : Nat) (ha : Option Addr) (hc : Nat) (ma : Option Addr) (mc : Nat) (w : World) (hr : RcAt w ba bc ra rc ha hc ma mc ⟨4, t, false, [], ⟨false, 0, [], [], []⟩⟩) (h1 : 1 ≤ t) (h2 : t ≤ 1073741824) :
    Calls Try.prog 125 #[.agg #[.int .i64 4, .int .i64 t, .bool false, .slice ba 0 bc, .bool false, .int .i64 0, .slice ra 0 rc, .slice ha 0 hc, .slice ma 0 mc]] w fun e w' => e = .returned (.bool true) ∧ Below w.heap.size w w' := by
  obtain ⟨hx, hb0, hWs⟩ := one_box (w := w) (.cells #[.int .i64 4, .int .i64 t, .bool false, .slice ba 0 bc, .bool false, .int .i64 0, .slice ra 0 rc, .slice ha 0 hc, .slice ma 0 mc] 89)
  obtain ⟨W, hW⟩ : ∃ W, W = w.alloc (.cells #[.int .i64 4, .int .i64 t, .bool false, .slice ba 0 bc, .bool false, .int .i64 0, .slice ra 0 rc, .slice ha 0 hc, .slice ma 0 mc] 89) := ⟨_, rfl⟩
  rw [← hW] at hx hb0 hWs
  have hr1 := RcAt.below ba bc ra rc ha hc ma mc hr hb0
  have HR1 := Lib.hid hr1
  have HB0 := Lib.hid hb0
  have HBX := Lib.hid (fun (wx : World) (h : Below W.heap.size W wx) => (box9 (box_bl hx h)).1)
  have HD0 : Hid (Below W.heap.size W (w.alloc (.cells #[.int .i64 4, .int .i64 t, .bool false, .slice ba 0 bc, .bool false, .int .i64 0, .slice ra 0 rc, .slice ha 0 hc, .slice ma 0 mc] 89))) := Lib.hid (by rw [← hW]; exact Below.refl _ _)
  obtain ⟨x0, x1, x2, x3, x4, x5, x6, x7, x8⟩ := HBX.out _ HD0.out
  have HS : Hid (∀ wx, Below W.heap.size W wx → Calls Try.prog 26 #[.agg #[.bool false, .int .i64 0, .slice ra 0 rc, .slice ha 0 hc, .slice ma 0 mc], .agg #[.bool false, .int .i64 0, .slice none 0 0, .slice none 0 0, .slice none 0 0]] wx fun e w' => e = .returned (.bool true) ∧ Below wx.heap.size wx w') := Lib.hid fun wx h => by
    have := rsame_any ⟨false, 0, [], [], []⟩ ⟨false, 0, [], [], []⟩ ra rc ha hc ma mc none 0 none 0 none 0 wx (hr1.sd.below _ _ _ _ _ _ h) (sd_zero wx)
    rwa [decide_eq_true rfl] at this
  clear hr1 hr hx hb0 hW hWs
  go_enter Try.func125, Try.ntmps125
  go_wp2_with (go_at_call 26; refine (HS.out _ HD0.out).mono ?_; rintro e w2 ⟨rfl, hd⟩; have HD2 := Lib.hid (HD0.out.trans (hd.mono HD0.out.size)); clear hd; obtain ⟨x0, x1, x2, x3, x4, x5, x6, x7, x8⟩ := HBX.out _ HD2.out)
  go_ret
  exact ⟨rfl, HB0.out.trans (HD2.out.mono HB0.out.size)⟩

set_option maxRecDepth 100000 in
set_option maxHeartbeats 4000000 in
theorem rmay_frz  (ba : Option Addr) (bc : Nat) (ra : Option Addr) (rc : Nat) (ha : Option Addr) (hc : Nat) (ma : Option Addr) (mc : Nat) (w : World) (hr : RcAt w ba bc ra rc ha hc ma mc ⟨5, 0, false, [], ⟨false, 0, [], [], []⟩⟩)  :
    Calls Try.prog 125 #[.agg #[.int .i64 5, .int .i64 0, .bool false, .slice ba 0 bc, .bool false, .int .i64 0, .slice ra 0 rc, .slice ha 0 hc, .slice ma 0 mc]] w fun e w' => e = .returned (.bool true) ∧ Below w.heap.size w w' := by
  obtain ⟨hx, hb0, hWs⟩ := one_box (w := w) (.cells #[.int .i64 5, .int .i64 0, .bool false, .slice ba 0 bc, .bool false, .int .i64 0, .slice ra 0 rc, .slice ha 0 hc, .slice ma 0 mc] 89)
  obtain ⟨W, hW⟩ : ∃ W, W = w.alloc (.cells #[.int .i64 5, .int .i64 0, .bool false, .slice ba 0 bc, .bool false, .int .i64 0, .slice ra 0 rc, .slice ha 0 hc, .slice ma 0 mc] 89) := ⟨_, rfl⟩
  rw [← hW] at hx hb0 hWs
  have hr1 := RcAt.below ba bc ra rc ha hc ma mc hr hb0
  have HR1 := Lib.hid hr1
  have HB0 := Lib.hid hb0
  have HBX := Lib.hid (fun (wx : World) (h : Below W.heap.size W wx) => (box9 (box_bl hx h)).1)
  have HD0 : Hid (Below W.heap.size W (w.alloc (.cells #[.int .i64 5, .int .i64 0, .bool false, .slice ba 0 bc, .bool false, .int .i64 0, .slice ra 0 rc, .slice ha 0 hc, .slice ma 0 mc] 89))) := Lib.hid (by rw [← hW]; exact Below.refl _ _)
  obtain ⟨x0, x1, x2, x3, x4, x5, x6, x7, x8⟩ := HBX.out _ HD0.out
  have HS : Hid (∀ wx, Below W.heap.size W wx → Calls Try.prog 26 #[.agg #[.bool false, .int .i64 0, .slice ra 0 rc, .slice ha 0 hc, .slice ma 0 mc], .agg #[.bool false, .int .i64 0, .slice none 0 0, .slice none 0 0, .slice none 0 0]] wx fun e w' => e = .returned (.bool true) ∧ Below wx.heap.size wx w') := Lib.hid fun wx h => by
    have := rsame_any ⟨false, 0, [], [], []⟩ ⟨false, 0, [], [], []⟩ ra rc ha hc ma mc none 0 none 0 none 0 wx (hr1.sd.below _ _ _ _ _ _ h) (sd_zero wx)
    rwa [decide_eq_true rfl] at this
  clear hr1 hr hx hb0 hW hWs
  go_enter Try.func125, Try.ntmps125
  go_wp2_with (go_at_call 26; refine (HS.out _ HD0.out).mono ?_; rintro e w2 ⟨rfl, hd⟩; have HD2 := Lib.hid (HD0.out.trans (hd.mono HD0.out.size)); clear hd; obtain ⟨x0, x1, x2, x3, x4, x5, x6, x7, x8⟩ := HBX.out _ HD2.out)
  go_ret
  exact ⟨rfl, HB0.out.trans (HD2.out.mono HB0.out.size)⟩

set_option maxRecDepth 100000 in
set_option maxHeartbeats 4000000 in
theorem rmay_thaw  (ba : Option Addr) (bc : Nat) (ra : Option Addr) (rc : Nat) (ha : Option Addr) (hc : Nat) (ma : Option Addr) (mc : Nat) (w : World) (hr : RcAt w ba bc ra rc ha hc ma mc ⟨6, 0, false, [], ⟨false, 0, [], [], []⟩⟩)  :
    Calls Try.prog 125 #[.agg #[.int .i64 6, .int .i64 0, .bool false, .slice ba 0 bc, .bool false, .int .i64 0, .slice ra 0 rc, .slice ha 0 hc, .slice ma 0 mc]] w fun e w' => e = .returned (.bool true) ∧ Below w.heap.size w w' := by
  obtain ⟨hx, hb0, hWs⟩ := one_box (w := w) (.cells #[.int .i64 6, .int .i64 0, .bool false, .slice ba 0 bc, .bool false, .int .i64 0, .slice ra 0 rc, .slice ha 0 hc, .slice ma 0 mc] 89)
  obtain ⟨W, hW⟩ : ∃ W, W = w.alloc (.cells #[.int .i64 6, .int .i64 0, .bool false, .slice ba 0 bc, .bool false, .int .i64 0, .slice ra 0 rc, .slice ha 0 hc, .slice ma 0 mc] 89) := ⟨_, rfl⟩
  rw [← hW] at hx hb0 hWs
  have hr1 := RcAt.below ba bc ra rc ha hc ma mc hr hb0
  have HR1 := Lib.hid hr1
  have HB0 := Lib.hid hb0
  have HBX := Lib.hid (fun (wx : World) (h : Below W.heap.size W wx) => (box9 (box_bl hx h)).1)
  have HD0 : Hid (Below W.heap.size W (w.alloc (.cells #[.int .i64 6, .int .i64 0, .bool false, .slice ba 0 bc, .bool false, .int .i64 0, .slice ra 0 rc, .slice ha 0 hc, .slice ma 0 mc] 89))) := Lib.hid (by rw [← hW]; exact Below.refl _ _)
  obtain ⟨x0, x1, x2, x3, x4, x5, x6, x7, x8⟩ := HBX.out _ HD0.out
  have HS : Hid (∀ wx, Below W.heap.size W wx → Calls Try.prog 26 #[.agg #[.bool false, .int .i64 0, .slice ra 0 rc, .slice ha 0 hc, .slice ma 0 mc], .agg #[.bool false, .int .i64 0, .slice none 0 0, .slice none 0 0, .slice none 0 0]] wx fun e w' => e = .returned (.bool true) ∧ Below wx.heap.size wx w') := Lib.hid fun wx h => by
    have := rsame_any ⟨false, 0, [], [], []⟩ ⟨false, 0, [], [], []⟩ ra rc ha hc ma mc none 0 none 0 none 0 wx (hr1.sd.below _ _ _ _ _ _ h) (sd_zero wx)
    rwa [decide_eq_true rfl] at this
  clear hr1 hr hx hb0 hW hWs
  go_enter Try.func125, Try.ntmps125
  go_wp2_with (go_at_call 26; refine (HS.out _ HD0.out).mono ?_; rintro e w2 ⟨rfl, hd⟩; have HD2 := Lib.hid (HD0.out.trans (hd.mono HD0.out.size)); clear hd; obtain ⟨x0, x1, x2, x3, x4, x5, x6, x7, x8⟩ := HBX.out _ HD2.out)
  go_ret
  exact ⟨rfl, HB0.out.trans (HD2.out.mono HB0.out.size)⟩

set_option maxRecDepth 100000 in
set_option maxHeartbeats 4000000 in
theorem rmay_state (q : Sd) (ba : Option Addr) (bc : Nat) (ra : Option Addr) (rc : Nat) (ha : Option Addr) (hc : Nat) (ma : Option Addr) (mc : Nat) (w : World) (hr : RcAt w ba bc ra rc ha hc ma mc ⟨7, 0, false, [], q⟩) (h1 : MaySd q) :
    Calls Try.prog 125 #[.agg #[.int .i64 7, .int .i64 0, .bool false, .slice ba 0 bc, .bool q.fr, .int .i64 q.nx, .slice ra q.rd.length rc, .slice ha q.hd.length hc, .slice ma q.ms.length mc]] w fun e w' => e = .returned (.bool true) ∧ Below w.heap.size w w' := by
  obtain ⟨hx, hb0, hWs⟩ := one_box (w := w) (.cells #[.int .i64 7, .int .i64 0, .bool false, .slice ba 0 bc, .bool q.fr, .int .i64 q.nx, .slice ra q.rd.length rc, .slice ha q.hd.length hc, .slice ma q.ms.length mc] 89)
  obtain ⟨W, hW⟩ : ∃ W, W = w.alloc (.cells #[.int .i64 7, .int .i64 0, .bool false, .slice ba 0 bc, .bool q.fr, .int .i64 q.nx, .slice ra q.rd.length rc, .slice ha q.hd.length hc, .slice ma q.ms.length mc] 89) := ⟨_, rfl⟩
  rw [← hW] at hx hb0 hWs
  have hr1 := RcAt.below ba bc ra rc ha hc ma mc hr hb0
  have HR1 := Lib.hid hr1
  have HB0 := Lib.hid hb0
  have HBX := Lib.hid (fun (wx : World) (h : Below W.heap.size W wx) => (box9 (box_bl hx h)).1)
  have HD0 : Hid (Below W.heap.size W (w.alloc (.cells #[.int .i64 7, .int .i64 0, .bool false, .slice ba 0 bc, .bool q.fr, .int .i64 q.nx, .slice ra q.rd.length rc, .slice ha q.hd.length hc, .slice ma q.ms.length mc] 89))) := Lib.hid (by rw [← hW]; exact Below.refl _ _)
  obtain ⟨x0, x1, x2, x3, x4, x5, x6, x7, x8⟩ := HBX.out _ HD0.out
  have HS : Hid (∀ wx, Below W.heap.size W wx → Calls Try.prog 25 #[.agg #[.bool q.fr, .int .i64 q.nx, .slice ra q.rd.length rc, .slice ha q.hd.length hc, .slice ma q.ms.length mc]] wx fun e w' => e = .returned (.bool true) ∧ Below wx.heap.size wx w') := Lib.hid fun wx h => by
    have := rmay_any q ra rc ha hc ma mc wx (hr1.sd.below _ _ _ _ _ _ h)
    rwa [decide_eq_true h1] at this
  clear hr1 hr hx hb0 hW hWs h1
  go_enter Try.func125, Try.ntmps125
  go_wp2_with (go_at_call 25; refine (HS.out _ HD0.out).mono ?_; rintro e w2 ⟨rfl, hd⟩; have HD2 := Lib.hid (HD0.out.trans (hd.mono HD0.out.size)); clear hd)
  go_ret
  exact ⟨rfl, HB0.out.trans (HD2.out.mono HB0.out.size)⟩

theorem rmay_good (r : Rc) (ba : Option Addr) (bc : Nat) (ra : Option Addr) (rc : Nat) (ha : Option Addr) (hc : Nat) (ma : Option Addr) (mc : Nat) (w : World) (hr : RcAt w ba bc ra rc ha hc ma mc r) (hm : MayRc r) :
    Calls Try.prog 125 #[.agg #[.int .i64 r.kd, .int .i64 r.tag, .bool r.back, .slice ba r.bt.length bc, .bool r.sd.fr, .int .i64 r.sd.nx, .slice ra r.sd.rd.length rc, .slice ha r.sd.hd.length hc, .slice ma r.sd.ms.length mc]] w fun e w' => e = .returned (.bool true) ∧ Below w.heap.size w w' := by
  obtain ⟨kd, tag, back, bt, sd⟩ := r
  obtain ⟨hbk, hm⟩ := hm
  obtain rfl : back = false := hbk
  rcases hm with ⟨h1, h2, h3, h4, h5, h6⟩ | ⟨h1, h2, h3, h4, h5⟩ | ⟨h1, h2, h3, h4⟩ | ⟨h1, h2, h3, h4⟩
  · obtain rfl : kd = 1 := h1
    obtain rfl : tag = 0 := h2
    obtain rfl : sd = ⟨false, 0, [], [], []⟩ := h3
    exact rmay_put bt ba bc ra rc ha hc ma mc w hr h4 h5 h6
  · obtain rfl : bt = [] := h4
    obtain rfl : sd = ⟨false, 0, [], [], []⟩ := h5
    rcases h1 with h1 | h1 | h1
    · obtain rfl : kd = 2 := h1
      exact rmay_get tag ba bc ra rc ha hc ma mc w hr h2 h3
    · obtain rfl : kd = 3 := h1
      exact rmay_ack tag ba bc ra rc ha hc ma mc w hr h2 h3
    · obtain rfl : kd = 4 := h1
      exact rmay_nack tag ba bc ra rc ha hc ma mc w hr h2 h3
  · obtain rfl : tag = 0 := h2
    obtain rfl : bt = [] := h3
    obtain rfl : sd = ⟨false, 0, [], [], []⟩ := h4
    rcases h1 with h1 | h1
    · obtain rfl : kd = 5 := h1
      exact rmay_frz ba bc ra rc ha hc ma mc w hr
    · obtain rfl : kd = 6 := h1
      exact rmay_thaw ba bc ra rc ha hc ma mc w hr
  · obtain rfl : kd = 7 := h1
    obtain rfl : tag = 0 := h2
    obtain rfl : bt = [] := h3
    exact rmay_state sd ba bc ra rc ha hc ma mc w hr h4

end Go.Proofs.Ythohjcfpobeplaa.Sl

namespace Go.Proofs.Ythohjcfpobeplaa.Sl
open Go.RowKit Rg Sh
set_option linter.unusedVariables false
set_option linter.unusedSimpArgs false

set_option maxRecDepth 100000 in
set_option maxHeartbeats 4000000 in
theorem rapp_put (s : Sd) (ra2 : Option Addr) (rc2 : Nat) (ha2 : Option Addr) (hc2 : Nat) (ma2 : Option Addr) (mc2 : Nat) (bt : List Mg) (ba : Option Addr) (bc : Nat) (ra : Option Addr) (rc : Nat) (ha : Option Addr) (hc : Nat) (ma : Option Addr) (mc : Nat) (w : World) (hs : SdAt w ra2 rc2 ha2 hc2 ma2 mc2 s) (hr : RcAt w ba bc ra rc ha hc ma mc ⟨1, 0, false, bt, ⟨false, 0, [], [], []⟩⟩) (h1 : 1 ≤ bt.length) (h2 : bt.length ≤ 8) (h3 : ∀ m ∈ bt, MayMg m) :
    Calls Try.prog 101 #[.agg #[.bool s.fr, .int .i64 s.nx, .slice ra2 s.rd.length rc2, .slice ha2 s.hd.length hc2, .slice ma2 s.ms.length mc2], .agg #[.int .i64 1, .int .i64 0, .bool false, .slice ba bt.length bc, .bool false, .int .i64 0, .slice ra 0 rc, .slice ha 0 hc, .slice ma 0 mc]] w (ShR (putS s bt) (putC s bt) w) := by
  obtain ⟨hx, hy, hz, hb0, hWs⟩ := three_box (w := w) (.cells #[.bool s.fr, .int .i64 s.nx, .slice ra2 s.rd.length rc2, .slice ha2 s.hd.length hc2, .slice ma2 s.ms.length mc2] 26) (.cells #[.int .i64 1, .int .i64 0, .bool false, .slice ba bt.length bc, .bool false, .int .i64 0, .slice ra 0 rc, .slice ha 0 hc, .slice ma 0 mc] 89) (.cells #[.bool false, .int .i64 0, .slice none 0 0, .slice none 0 0, .slice none 0 0] 26)
  obtain ⟨W, hW⟩ : ∃ W, W = ((w.alloc (.cells #[.bool s.fr, .int .i64 s.nx, .slice ra2 s.rd.length rc2, .slice ha2 s.hd.length hc2, .slice ma2 s.ms.length mc2] 26)).alloc (.cells #[.int .i64 1, .int .i64 0, .bool false, .slice ba bt.length bc, .bool false, .int .i64 0, .slice ra 0 rc, .slice ha 0 hc, .slice ma 0 mc] 89)).alloc (.cells #[.bool false, .int .i64 0, .slice none 0 0, .slice none 0 0, .slice none 0 0] 26) := ⟨_, rfl⟩
  rw [← hW] at hx hy hz hb0 hWs
  have HB0 := Lib.hid hb0
  have HW := Lib.hid hW
  have HWS := Lib.hid hWs
  have HS1 := Lib.hid (hs.below ra2 rc2 ha2 hc2 ma2 mc2 hb0)
  have HR1 := Lib.hid (RcAt.below ba bc ra rc ha hc ma mc hr hb0)
  have HBX := Lib.hid (fun (wx : World) (h : Below W.heap.size W wx) => And.intro (box5 (box_bl hx h)).1 (And.intro (box9 (box_bl hy h)).1 (box_bl hz h)))
  have HMAY := Lib.hid (rmay_put bt ba bc ra rc ha hc ma mc W HR1.out h1 h2 h3)
  rw [hW] at HMAY
  have HD0 : Hid (Below W.heap.size W (((w.alloc (.cells #[.bool s.fr, .int .i64 s.nx, .slice ra2 s.rd.length rc2, .slice ha2 s.hd.length hc2, .slice ma2 s.ms.length mc2] 26)).alloc (.cells #[.int .i64 1, .int .i64 0, .bool false, .slice ba bt.length bc, .bool false, .int .i64 0, .slice ra 0 rc, .slice ha 0 hc, .slice ma 0 mc] 89)).alloc (.cells #[.bool false, .int .i64 0, .slice none 0 0, .slice none 0 0, .slice none 0 0] 26))) := Lib.hid (by rw [← hW]; exact Below.refl _ _)
  have HLE := Lib.hid h2
  obtain ⟨⟨c0, c1, c2, c3, c4⟩, ⟨x0, x1, x2, x3, x4, x5, x6, x7, x8⟩, -⟩ := HBX.out _ HD0.out
  have HF : Hid (∀ wx, Below W.heap.size W wx → Calls Try.prog 21 #[.agg #[.bool s.fr, .int .i64 s.nx, .slice ra2 s.rd.length rc2, .slice ha2 s.hd.length hc2, .slice ma2 s.ms.length mc2], .slice ba bt.length bc] wx (ShR (putS s bt) (putC s bt) wx)) := Lib.hid fun wx (h : Below W.heap.size W wx) => rput_any s ra2 rc2 ha2 hc2 ma2 mc2 ba bc bt (Nat.le_trans HLE.out (by decide)) wx (HS1.out.below _ _ _ _ _ _ h) (HR1.out.bt.below h) HR1.out.bn
  generalize putS s bt = S at *
  generalize putC s bt = C at *
  clear hs hr hx hy hz hb0 hW hWs h1 h2 h3
  go_enter Try.func101, Try.ntmps101
  go_wp2_with (first | (go_at_call 125; refine HMAY.out.mono ?_; rintro e w1 ⟨rfl, hd⟩; rw [← HW.out] at hd; have HD1 := Lib.hid hd; clear hd; obtain ⟨⟨c0, c1, c2, c3, c4⟩, ⟨x0, x1, x2, x3, x4, x5, x6, x7, x8⟩, hzz⟩ := HBX.out _ HD1.out; have HZ := Lib.hid hzz; obtain ⟨⟨d0, d1, d2, d3, d4⟩, k0, k1, k2, k3, k4⟩ := box5 hzz; clear hzz) | (go_at_call 21; refine (HF.out _ HD1.out).mono ?_; rintro e w3 ⟨ra3, rc3, ha3, hc3, ma3, mc3, rfl, hs3, hb3⟩; have HB3 := Lib.hid (HD1.out.trans (hb3.mono HD1.out.size)); have HS3 := Lib.hid hs3; have HZ3 := Lib.hid (HBX.out _ HB3.out).2.2; obtain ⟨⟨d0, d1, d2, d3, d4⟩, k0, k1, k2, k3, k4⟩ := box5 HZ3.out; clear hs3 hb3))
  refine bodyPost_ret (v := .tuple #[.agg #[.bool S.fr, .int .i64 S.nx, .slice ra3 S.rd.length rc3, .slice ha3 S.hd.length hc3, .slice ma3 S.ms.length mc3], .int .i64 C]) (res_sd (i := 4) (j := 5) (g := w.heap.size + 1 + 1) Try.results101 rfl rfl (set5_box HZ3.out _ _ _ _ _)) rfl ?_
  exact app_end _ _ _ _ _ _ _ _ _ _ _ _ (HB0.out.trans (HB3.out.mono HB0.out.size)) (by omega) HZ3.out HS3.out

set_option maxRecDepth 100000 in
set_option maxHeartbeats 4000000 in
theorem rapp_get (s : Sd) (ra2 : Option Addr) (rc2 : Nat) (ha2 : Option Addr) (hc2 : Nat) (ma2 : Option Addr) (mc2 : Nat) (t : Int) (ba : Option Addr) (bc : Nat) (ra : Option Addr) (rc : Nat) (ha : Option Addr) (hc : Nat) (ma : Option Addr) (mc : Nat) (w : World) (hs : SdAt w ra2 rc2 ha2 hc2 ma2 mc2 s) (hr : RcAt w ba bc ra rc ha hc ma mc ⟨2, t, false, [], ⟨false, 0, [], [], []⟩⟩) (h1 : 1 ≤ t) (h2 : t ≤ 1073741824) :
    Calls Try.prog 101 #[.agg #[.bool s.fr, .int .i64 s.nx, .slice ra2 s.rd.length rc2, .slice ha2 s.hd.length hc2, .slice ma2 s.ms.length mc2], .agg #[.int .i64 2, .int .i64 t, .bool false, .slice ba 0 bc, .bool false, .int .i64 0, .slice ra 0 rc, .slice ha 0 hc, .slice ma 0 mc]] w (ShR ((if getC s = 0 ∧ s.nx ≠ t then s else getS s)) ((if getC s = 0 ∧ s.nx ≠ t then 1 else getC s)) w) := by
  obtain ⟨hx, hy, hz, hb0, hWs⟩ := three_box (w := w) (.cells #[.bool s.fr, .int .i64 s.nx, .slice ra2 s.rd.length rc2, .slice ha2 s.hd.length hc2, .slice ma2 s.ms.length mc2] 26) (.cells #[.int .i64 2, .int .i64 t, .bool false, .slice ba 0 bc, .bool false, .int .i64 0, .slice ra 0 rc, .slice ha 0 hc, .slice ma 0 mc] 89) (.cells #[.bool false, .int .i64 0, .slice none 0 0, .slice none 0 0, .slice none 0 0] 26)
  obtain ⟨W, hW⟩ : ∃ W, W = ((w.alloc (.cells #[.bool s.fr, .int .i64 s.nx, .slice ra2 s.rd.length rc2, .slice ha2 s.hd.length hc2, .slice ma2 s.ms.length mc2] 26)).alloc (.cells #[.int .i64 2, .int .i64 t, .bool false, .slice ba 0 bc, .bool false, .int .i64 0, .slice ra 0 rc, .slice ha 0 hc, .slice ma 0 mc] 89)).alloc (.cells #[.bool false, .int .i64 0, .slice none 0 0, .slice none 0 0, .slice none 0 0] 26) := ⟨_, rfl⟩
  rw [← hW] at hx hy hz hb0 hWs
  have HB0 := Lib.hid hb0
  have HW := Lib.hid hW
  have HWS := Lib.hid hWs
  have HS1 := Lib.hid (hs.below ra2 rc2 ha2 hc2 ma2 mc2 hb0)
  have HR1 := Lib.hid (RcAt.below ba bc ra rc ha hc ma mc hr hb0)
  have HBX := Lib.hid (fun (wx : World) (h : Below W.heap.size W wx) => And.intro (box5 (box_bl hx h)).1 (And.intro (box9 (box_bl hy h)).1 (box_bl hz h)))
  have HMAY := Lib.hid (rmay_get t ba bc ra rc ha hc ma mc W HR1.out h1 h2)
  rw [hW] at HMAY
  have HD0 : Hid (Below W.heap.size W (((w.alloc (.cells #[.bool s.fr, .int .i64 s.nx, .slice ra2 s.rd.length rc2, .slice ha2 s.hd.length hc2, .slice ma2 s.ms.length mc2] 26)).alloc (.cells #[.int .i64 2, .int .i64 t, .bool false, .slice ba 0 bc, .bool false, .int .i64 0, .slice ra 0 rc, .slice ha 0 hc, .slice ma 0 mc] 89)).alloc (.cells #[.bool false, .int .i64 0, .slice none 0 0, .slice none 0 0, .slice none 0 0] 26))) := Lib.hid (by rw [← hW]; exact Below.refl _ _)
  obtain ⟨⟨c0, c1, c2, c3, c4⟩, ⟨x0, x1, x2, x3, x4, x5, x6, x7, x8⟩, -⟩ := HBX.out _ HD0.out
  have HF := Lib.hid fun wx (h : Below W.heap.size W wx) => rget_any s ra2 rc2 ha2 hc2 ma2 mc2 wx (HS1.out.below _ _ _ _ _ _ h)
  have HTG : Hid (getC s = 0 → (getH s).tag = s.nx) := Lib.hid fun h => by unfold getH; rw [if_pos h]
  unfold GetRR at HF
  clear hs hr hx hy hz hb0 hW hWs h1 h2
  go_enter Try.func101, Try.ntmps101
  go_upto_region 8 with (first | (go_at_call 125; refine HMAY.out.mono ?_; rintro e w1 ⟨rfl, hd⟩; rw [← HW.out] at hd; have HD1 := Lib.hid hd; clear hd; obtain ⟨⟨c0, c1, c2, c3, c4⟩, ⟨x0, x1, x2, x3, x4, x5, x6, x7, x8⟩, hzz⟩ := HBX.out _ HD1.out; have HZ := Lib.hid hzz; obtain ⟨⟨d0, d1, d2, d3, d4⟩, k0, k1, k2, k3, k4⟩ := box5 hzz; clear hzz) | (go_at_call 23; refine (HF.out _ HD1.out).mono ?_; rintro e w3 ⟨ra3, rc3, ha3, hc3, ma3, mc3, rfl, hs3, hb3⟩; have HB3 := Lib.hid (HD1.out.trans (hb3.mono HD1.out.size)); have HS3 := Lib.hid hs3; clear hs3 hb3))
  clear c0 c1 c2 c3 c4 d0 d1 d2 d3 d4 k0 k1 k2 k3 k4 x0 x1 x2 x3 x4 x5 x6 x7 x8
  obtain ⟨p1, p2, p3, p4⟩ := two_box (w := w3) (.cells #[.bool (getS s).fr, .int .i64 (getS s).nx, .slice ra3 (getS s).rd.length rc3, .slice ha3 (getS s).hd.length hc3, .slice ma3 (getS s).ms.length mc3] 26) (.cells #[.int .i64 (getH s).tag, .int .i64 ((getH s).m).pub, .int .i64 ((getH s).m).seq, .string ⟨((getH s).m).key.toArray⟩, .string ⟨((getH s).m).body.toArray⟩, .bool ((getH s).m).again] 37)
  generalize (w3.alloc (.cells #[.bool (getS s).fr, .int .i64 (getS s).nx, .slice ra3 (getS s).rd.length rc3, .slice ha3 (getS s).hd.length hc3, .slice ma3 (getS s).ms.length mc3] 26)).alloc (.cells #[.int .i64 (getH s).tag, .int .i64 ((getH s).m).pub, .int .i64 ((getH s).m).seq, .string ⟨((getH s).m).key.toArray⟩, .string ⟨((getH s).m).body.toArray⟩, .bool ((getH s).m).again] 37) = W2 at *
  have HB4 := Lib.hid (HB3.out.trans (p3.mono HB3.out.size))
  have HS4 := Lib.hid (HS3.out.below _ _ _ _ _ _ p3)
  obtain ⟨⟨c0, c1, c2, c3, c4⟩, ⟨x0, x1, x2, x3, x4, x5, x6, x7, x8⟩, hzz⟩ := HBX.out _ HB4.out
  have HZ4 := Lib.hid hzz
  obtain ⟨⟨d0, d1, d2, d3, d4⟩, k0, k1, k2, k3, k4⟩ := box5 hzz
  obtain ⟨⟨g0, g1, g2, g3, g4⟩, -⟩ := box5 p1
  obtain ⟨⟨h0, h1, h2, h3, h4, h5⟩, -⟩ := box6 p2
  clear hzz p1 p2 p3 p4 HZ
  by_cases hc : getC s = 0
  · have e1 : (getC s == 0) = true := by rw [beq_iff_eq]; exact hc
    by_cases hn : s.nx = t
    · have HR : Hid (¬ (getC s = 0 ∧ s.nx ≠ t)) := Lib.hid fun g => g.2 hn
      rw [if_neg HR.out, if_neg HR.out]
      have e2 : ((getH s).tag != t) = false := by rw [bne_eq_false_iff_eq, HTG.out hc, hn]
      clear hc hn
      go_wp2_with fail
      refine bodyPost_ret (v := .tuple #[.agg #[.bool (getS s).fr, .int .i64 (getS s).nx, .slice ra3 (getS s).rd.length rc3, .slice ha3 (getS s).hd.length hc3, .slice ma3 (getS s).ms.length mc3], .int .i64 (getC s)]) (res_sd (i := 4) (j := 5) (g := w.heap.size + 1 + 1) Try.results101 rfl rfl (set5_box HZ4.out _ _ _ _ _)) rfl ?_
      exact app_end _ _ _ _ _ _ _ _ _ _ _ _ (HB0.out.trans (HB4.out.mono HB0.out.size)) (by omega) HZ4.out HS4.out
    · have HR : Hid (getC s = 0 ∧ s.nx ≠ t) := Lib.hid ⟨hc, hn⟩
      rw [if_pos HR.out, if_pos HR.out]
      have e2 : ((getH s).tag != t) = true := by rw [bne_iff_ne, HTG.out hc]; exact hn
      clear hc hn
      go_wp2_with fail
      refine bodyPost_ret (v := .tuple #[.agg #[.bool s.fr, .int .i64 s.nx, .slice ra2 s.rd.length rc2, .slice ha2 s.hd.length hc2, .slice ma2 s.ms.length mc2], .int .i64 1]) (res_sd (i := 4) (j := 5) (g := w.heap.size + 1 + 1) Try.results101 rfl rfl (set5_box HZ4.out _ _ _ _ _)) rfl ?_
      exact app_end _ _ _ _ _ _ _ _ _ _ _ _ (HB0.out.trans (HB4.out.mono HB0.out.size)) (by omega) HZ4.out (HS1.out.below _ _ _ _ _ _ HB4.out)
  · have HR : Hid (¬ (getC s = 0 ∧ s.nx ≠ t)) := Lib.hid fun g => hc g.1
    rw [if_neg HR.out, if_neg HR.out]
    have e1 : (getC s == 0) = false := by rw [beq_eq_false_iff_ne]; exact hc
    clear hc
    go_wp2_with fail
    refine bodyPost_ret (v := .tuple #[.agg #[.bool (getS s).fr, .int .i64 (getS s).nx, .slice ra3 (getS s).rd.length rc3, .slice ha3 (getS s).hd.length hc3, .slice ma3 (getS s).ms.length mc3], .int .i64 (getC s)]) (res_sd (i := 4) (j := 5) (g := w.heap.size + 1 + 1) Try.results101 rfl rfl (set5_box HZ4.out _ _ _ _ _)) rfl ?_
    exact app_end _ _ _ _ _ _ _ _ _ _ _ _ (HB0.out.trans (HB4.out.mono HB0.out.size)) (by omega) HZ4.out HS4.out

set_option maxRecDepth 100000 in
set_option maxHeartbeats 4000000 in
theorem rapp_ack (s : Sd) (ra2 : Option Addr) (rc2 : Nat) (ha2 : Option Addr) (hc2 : Nat) (ma2 : Option Addr) (mc2 : Nat) (t : Int) (ba : Option Addr) (bc : Nat) (ra : Option Addr) (rc : Nat) (ha : Option Addr) (hc : Nat) (ma : Option Addr) (mc : Nat) (w : World) (hs : SdAt w ra2 rc2 ha2 hc2 ma2 mc2 s) (hr : RcAt w ba bc ra rc ha hc ma mc ⟨3, t, false, [], ⟨false, 0, [], [], []⟩⟩) (h1 : 1 ≤ t) (h2 : t ≤ 1073741824) :
    Calls Try.prog 101 #[.agg #[.bool s.fr, .int .i64 s.nx, .slice ra2 s.rd.length rc2, .slice ha2 s.hd.length hc2, .slice ma2 s.ms.length mc2], .agg #[.int .i64 3, .int .i64 t, .bool false, .slice ba 0 bc, .bool false, .int .i64 0, .slice ra 0 rc, .slice ha 0 hc, .slice ma 0 mc]] w (ShR (ackS s t) (outC s t) w) := by
  obtain ⟨hx, hy, hz, hb0, hWs⟩ := three_box (w := w) (.cells #[.bool s.fr, .int .i64 s.nx, .slice ra2 s.rd.length rc2, .slice ha2 s.hd.length hc2, .slice ma2 s.ms.length mc2] 26) (.cells #[.int .i64 3, .int .i64 t, .bool false, .slice ba 0 bc, .bool false, .int .i64 0, .slice ra 0 rc, .slice ha 0 hc, .slice ma 0 mc] 89) (.cells #[.bool false, .int .i64 0, .slice none 0 0, .slice none 0 0, .slice none 0 0] 26)
  obtain ⟨W, hW⟩ : ∃ W, W = ((w.alloc (.cells #[.bool s.fr, .int .i64 s.nx, .slice ra2 s.rd.length rc2, .slice ha2 s.hd.length hc2, .slice ma2 s.ms.length mc2] 26)).alloc (.cells #[.int .i64 3, .int .i64 t, .bool false, .slice ba 0 bc, .bool false, .int .i64 0, .slice ra 0 rc, .slice ha 0 hc, .slice ma 0 mc] 89)).alloc (.cells #[.bool false, .int .i64 0, .slice none 0 0, .slice none 0 0, .slice none 0 0] 26) := ⟨_, rfl⟩
  rw [← hW] at hx hy hz hb0 hWs
  have HB0 := Lib.hid hb0
  have HW := Lib.hid hW
  have HWS := Lib.hid hWs
  have HS1 := Lib.hid (hs.below ra2 rc2 ha2 hc2 ma2 mc2 hb0)
  have HR1 := Lib.hid (RcAt.below ba bc ra rc ha hc ma mc hr hb0)
  have HBX := Lib.hid (fun (wx : World) (h : Below W.heap.size W wx) => And.intro (box5 (box_bl hx h)).1 (And.intro (box9 (box_bl hy h)).1 (box_bl hz h)))
  have HMAY := Lib.hid (rmay_ack t ba bc ra rc ha hc ma mc W HR1.out h1 h2)
  rw [hW] at HMAY
  have HD0 : Hid (Below W.heap.size W (((w.alloc (.cells #[.bool s.fr, .int .i64 s.nx, .slice ra2 s.rd.length rc2, .slice ha2 s.hd.length hc2, .slice ma2 s.ms.length mc2] 26)).alloc (.cells #[.int .i64 3, .int .i64 t, .bool false, .slice ba 0 bc, .bool false, .int .i64 0, .slice ra 0 rc, .slice ha 0 hc, .slice ma 0 mc] 89)).alloc (.cells #[.bool false, .int .i64 0, .slice none 0 0, .slice none 0 0, .slice none 0 0] 26))) := Lib.hid (by rw [← hW]; exact Below.refl _ _)
  obtain ⟨⟨c0, c1, c2, c3, c4⟩, ⟨x0, x1, x2, x3, x4, x5, x6, x7, x8⟩, -⟩ := HBX.out _ HD0.out
  have HF : Hid (∀ wx, Below W.heap.size W wx → Calls Try.prog 28 #[.agg #[.bool s.fr, .int .i64 s.nx, .slice ra2 s.rd.length rc2, .slice ha2 s.hd.length hc2, .slice ma2 s.ms.length mc2], .int .i64 t] wx (ShR (ackS s t) (outC s t) wx)) := Lib.hid fun wx (h : Below W.heap.size W wx) => rack_any s t ra2 rc2 ha2 hc2 ma2 mc2 wx (HS1.out.below _ _ _ _ _ _ h)
  generalize ackS s t = S at *
  generalize outC s t = C at *
  clear hs hr hx hy hz hb0 hW hWs h1 h2
  go_enter Try.func101, Try.ntmps101
  go_wp2_with (first | (go_at_call 125; refine HMAY.out.mono ?_; rintro e w1 ⟨rfl, hd⟩; rw [← HW.out] at hd; have HD1 := Lib.hid hd; clear hd; obtain ⟨⟨c0, c1, c2, c3, c4⟩, ⟨x0, x1, x2, x3, x4, x5, x6, x7, x8⟩, hzz⟩ := HBX.out _ HD1.out; have HZ := Lib.hid hzz; obtain ⟨⟨d0, d1, d2, d3, d4⟩, k0, k1, k2, k3, k4⟩ := box5 hzz; clear hzz) | (go_at_call 28; refine (HF.out _ HD1.out).mono ?_; rintro e w3 ⟨ra3, rc3, ha3, hc3, ma3, mc3, rfl, hs3, hb3⟩; have HB3 := Lib.hid (HD1.out.trans (hb3.mono HD1.out.size)); have HS3 := Lib.hid hs3; have HZ3 := Lib.hid (HBX.out _ HB3.out).2.2; obtain ⟨⟨d0, d1, d2, d3, d4⟩, k0, k1, k2, k3, k4⟩ := box5 HZ3.out; clear hs3 hb3))
  refine bodyPost_ret (v := .tuple #[.agg #[.bool S.fr, .int .i64 S.nx, .slice ra3 S.rd.length rc3, .slice ha3 S.hd.length hc3, .slice ma3 S.ms.length mc3], .int .i64 C]) (res_sd (i := 4) (j := 5) (g := w.heap.size + 1 + 1) Try.results101 rfl rfl (set5_box HZ3.out _ _ _ _ _)) rfl ?_
  exact app_end _ _ _ _ _ _ _ _ _ _ _ _ (HB0.out.trans (HB3.out.mono HB0.out.size)) (by omega) HZ3.out HS3.out

set_option maxRecDepth 100000 in
set_option maxHeartbeats 4000000 in
theorem rapp_nack (s : Sd) (ra2 : Option Addr) (rc2 : Nat) (ha2 : Option Addr) (hc2 : Nat) (ma2 : Option Addr) (mc2 : Nat) (t : Int) (ba : Option Addr) (bc : Nat) (ra : Option Addr) (rc : Nat) (ha : Option Addr) (hc : Nat) (ma : Option Addr) (mc : Nat) (w : World) (hs : SdAt w ra2 rc2 ha2 hc2 ma2 mc2 s) (hr : RcAt w ba bc ra rc ha hc ma mc ⟨4, t, false, [], ⟨false, 0, [], [], []⟩⟩) (h1 : 1 ≤ t) (h2 : t ≤ 1073741824) :
    Calls Try.prog 101 #[.agg #[.bool s.fr, .int .i64 s.nx, .slice ra2 s.rd.length rc2, .slice ha2 s.hd.length hc2, .slice ma2 s.ms.length mc2], .agg #[.int .i64 4, .int .i64 t, .bool false, .slice ba 0 bc, .bool false, .int .i64 0, .slice ra 0 rc, .slice ha 0 hc, .slice ma 0 mc]] w (ShR (nackS s t) (outC s t) w) := by
  obtain ⟨hx, hy, hz, hb0, hWs⟩ := three_box (w := w) (.cells #[.bool s.fr, .int .i64 s.nx, .slice ra2 s.rd.length rc2, .slice ha2 s.hd.length hc2, .slice ma2 s.ms.length mc2] 26) (.cells #[.int .i64 4, .int .i64 t, .bool false, .slice ba 0 bc, .bool false, .int .i64 0, .slice ra 0 rc, .slice ha 0 hc, .slice ma 0 mc] 89) (.cells #[.bool false, .int .i64 0, .slice none 0 0, .slice none 0 0, .slice none 0 0] 26)
  obtain ⟨W, hW⟩ : ∃ W, W = ((w.alloc (.cells #[.bool s.fr, .int .i64 s.nx, .slice ra2 s.rd.length rc2, .slice ha2 s.hd.length hc2, .slice ma2 s.ms.length mc2] 26)).alloc (.cells #[.int .i64 4, .int .i64 t, .bool false, .slice ba 0 bc, .bool false, .int .i64 0, .slice ra 0 rc, .slice ha 0 hc, .slice ma 0 mc] 89)).alloc (.cells #[.bool false, .int .i64 0, .slice none 0 0, .slice none 0 0, .slice none 0 0] 26) := ⟨_, rfl⟩
  rw [← hW] at hx hy hz hb0 hWs
  have HB0 := Lib.hid hb0
  have HW := Lib.hid hW
  have HWS := Lib.hid hWs
  have HS1 := Lib.hid (hs.below ra2 rc2 ha2 hc2 ma2 mc2 hb0)
  have HR1 := Lib.hid (RcAt.below ba bc ra rc ha hc ma mc hr hb0)
  have HBX := Lib.hid (fun (wx : World) (h : Below W.heap.size W wx) => And.intro (box5 (box_bl hx h)).1 (And.intro (box9 (box_bl hy h)).1 (box_bl hz h)))
  have HMAY := Lib.hid (rmay_nack t ba bc ra rc ha hc ma mc W HR1.out h1 h2)
  rw [hW] at HMAY
  have HD0 : Hid (Below W.heap.size W (((w.alloc (.cells #[.bool s.fr, .int .i64 s.nx, .slice ra2 s.rd.length rc2, .slice ha2 s.hd.length hc2, .slice ma2 s.ms.length mc2] 26)).alloc (.cells #[.int .i64 4, .int .i64 t, .bool false, .slice ba 0 bc, .bool false, .int .i64 0, .slice ra 0 rc, .slice ha 0 hc, .slice ma 0 mc] 89)).alloc (.cells #[.bool false, .int .i64 0, .slice none 0 0, .slice none 0 0, .slice none 0 0] 26))) := Lib.hid (by rw [← hW]; exact Below.refl _ _)
  obtain ⟨⟨c0, c1, c2, c3, c4⟩, ⟨x0, x1, x2, x3, x4, x5, x6, x7, x8⟩, -⟩ := HBX.out _ HD0.out
  have HF : Hid (∀ wx, Below W.heap.size W wx → Calls Try.prog 30 #[.agg #[.bool s.fr, .int .i64 s.nx, .slice ra2 s.rd.length rc2, .slice ha2 s.hd.length hc2, .slice ma2 s.ms.length mc2], .int .i64 t] wx (ShR (nackS s t) (outC s t) wx)) := Lib.hid fun wx (h : Below W.heap.size W wx) => rnack_any s t ra2 rc2 ha2 hc2 ma2 mc2 wx (HS1.out.below _ _ _ _ _ _ h)
  generalize nackS s t = S at *
  generalize outC s t = C at *
  clear hs hr hx hy hz hb0 hW hWs h1 h2
  go_enter Try.func101, Try.ntmps101
  go_wp2_with (first | (go_at_call 125; refine HMAY.out.mono ?_; rintro e w1 ⟨rfl, hd⟩; rw [← HW.out] at hd; have HD1 := Lib.hid hd; clear hd; obtain ⟨⟨c0, c1, c2, c3, c4⟩, ⟨x0, x1, x2, x3, x4, x5, x6, x7, x8⟩, hzz⟩ := HBX.out _ HD1.out; have HZ := Lib.hid hzz; obtain ⟨⟨d0, d1, d2, d3, d4⟩, k0, k1, k2, k3, k4⟩ := box5 hzz; clear hzz) | (go_at_call 30; refine (HF.out _ HD1.out).mono ?_; rintro e w3 ⟨ra3, rc3, ha3, hc3, ma3, mc3, rfl, hs3, hb3⟩; have HB3 := Lib.hid (HD1.out.trans (hb3.mono HD1.out.size)); have HS3 := Lib.hid hs3; have HZ3 := Lib.hid (HBX.out _ HB3.out).2.2; obtain ⟨⟨d0, d1, d2, d3, d4⟩, k0, k1, k2, k3, k4⟩ := box5 HZ3.out; clear hs3 hb3))
  refine bodyPost_ret (v := .tuple #[.agg #[.bool S.fr, .int .i64 S.nx, .slice ra3 S.rd.length rc3, .slice ha3 S.hd.length hc3, .slice ma3 S.ms.length mc3], .int .i64 C]) (res_sd (i := 4) (j := 5) (g := w.heap.size + 1 + 1) Try.results101 rfl rfl (set5_box HZ3.out _ _ _ _ _)) rfl ?_
  exact app_end _ _ _ _ _ _ _ _ _ _ _ _ (HB0.out.trans (HB3.out.mono HB0.out.size)) (by omega) HZ3.out HS3.out

set_option maxRecDepth 100000 in
set_option maxHeartbeats 4000000 in
theorem rapp_frz (s : Sd) (ra2 : Option Addr) (rc2 : Nat) (ha2 : Option Addr) (hc2 : Nat) (ma2 : Option Addr) (mc2 : Nat)  (ba : Option Addr) (bc : Nat) (ra : Option Addr) (rc : Nat) (ha : Option Addr) (hc : Nat) (ma : Option Addr) (mc : Nat) (w : World) (hs : SdAt w ra2 rc2 ha2 hc2 ma2 mc2 s) (hr : RcAt w ba bc ra rc ha hc ma mc ⟨5, 0, false, [], ⟨false, 0, [], [], []⟩⟩)  :
    Calls Try.prog 101 #[.agg #[.bool s.fr, .int .i64 s.nx, .slice ra2 s.rd.length rc2, .slice ha2 s.hd.length hc2, .slice ma2 s.ms.length mc2], .agg #[.int .i64 5, .int .i64 0, .bool false, .slice ba 0 bc, .bool false, .int .i64 0, .slice ra 0 rc, .slice ha 0 hc, .slice ma 0 mc]] w (ShR (setS s true) (setC s true) w) := by
  obtain ⟨hx, hy, hz, hb0, hWs⟩ := three_box (w := w) (.cells #[.bool s.fr, .int .i64 s.nx, .slice ra2 s.rd.length rc2, .slice ha2 s.hd.length hc2, .slice ma2 s.ms.length mc2] 26) (.cells #[.int .i64 5, .int .i64 0, .bool false, .slice ba 0 bc, .bool false, .int .i64 0, .slice ra 0 rc, .slice ha 0 hc, .slice ma 0 mc] 89) (.cells #[.bool false, .int .i64 0, .slice none 0 0, .slice none 0 0, .slice none 0 0] 26)
  obtain ⟨W, hW⟩ : ∃ W, W = ((w.alloc (.cells #[.bool s.fr, .int .i64 s.nx, .slice ra2 s.rd.length rc2, .slice ha2 s.hd.length hc2, .slice ma2 s.ms.length mc2] 26)).alloc (.cells #[.int .i64 5, .int .i64 0, .bool false, .slice ba 0 bc, .bool false, .int .i64 0, .slice ra 0 rc, .slice ha 0 hc, .slice ma 0 mc] 89)).alloc (.cells #[.bool false, .int .i64 0, .slice none 0 0, .slice none 0 0, .slice none 0 0] 26) := ⟨_, rfl⟩
  rw [← hW] at hx hy hz hb0 hWs
  have HB0 := Lib.hid hb0
  have HW := Lib.hid hW
  have HWS := Lib.hid hWs
  have HS1 := Lib.hid (hs.below ra2 rc2 ha2 hc2 ma2 mc2 hb0)
  have HR1 := Lib.hid (RcAt.below ba bc ra rc ha hc ma mc hr hb0)
  have HBX := Lib.hid (fun (wx : World) (h : Below W.heap.size W wx) => And.intro (box5 (box_bl hx h)).1 (And.intro (box9 (box_bl hy h)).1 (box_bl hz h)))
  have HMAY := Lib.hid (rmay_frz  ba bc ra rc ha hc ma mc W HR1.out )
  rw [hW] at HMAY
  have HD0 : Hid (Below W.heap.size W (((w.alloc (.cells #[.bool s.fr, .int .i64 s.nx, .slice ra2 s.rd.length rc2, .slice ha2 s.hd.length hc2, .slice ma2 s.ms.length mc2] 26)).alloc (.cells #[.int .i64 5, .int .i64 0, .bool false, .slice ba 0 bc, .bool false, .int .i64 0, .slice ra 0 rc, .slice ha 0 hc, .slice ma 0 mc] 89)).alloc (.cells #[.bool false, .int .i64 0, .slice none 0 0, .slice none 0 0, .slice none 0 0] 26))) := Lib.hid (by rw [← hW]; exact Below.refl _ _)
  obtain ⟨⟨c0, c1, c2, c3, c4⟩, ⟨x0, x1, x2, x3, x4, x5, x6, x7, x8⟩, -⟩ := HBX.out _ HD0.out
  have HF : Hid (∀ wx, Below W.heap.size W wx → Calls Try.prog 34 #[.agg #[.bool s.fr, .int .i64 s.nx, .slice ra2 s.rd.length rc2, .slice ha2 s.hd.length hc2, .slice ma2 s.ms.length mc2]] wx (ShR (setS s true) (setC s true) wx)) := Lib.hid fun wx (h : Below W.heap.size W wx) => rfreeze_any s ra2 rc2 ha2 hc2 ma2 mc2 wx (HS1.out.below _ _ _ _ _ _ h)
  generalize setS s true = S at *
  generalize setC s true = C at *
  clear hs hr hx hy hz hb0 hW hWs 
  go_enter Try.func101, Try.ntmps101
  go_wp2_with (first | (go_at_call 125; refine HMAY.out.mono ?_; rintro e w1 ⟨rfl, hd⟩; rw [← HW.out] at hd; have HD1 := Lib.hid hd; clear hd; obtain ⟨⟨c0, c1, c2, c3, c4⟩, ⟨x0, x1, x2, x3, x4, x5, x6, x7, x8⟩, hzz⟩ := HBX.out _ HD1.out; have HZ := Lib.hid hzz; obtain ⟨⟨d0, d1, d2, d3, d4⟩, k0, k1, k2, k3, k4⟩ := box5 hzz; clear hzz) | (go_at_call 34; refine (HF.out _ HD1.out).mono ?_; rintro e w3 ⟨ra3, rc3, ha3, hc3, ma3, mc3, rfl, hs3, hb3⟩; have HB3 := Lib.hid (HD1.out.trans (hb3.mono HD1.out.size)); have HS3 := Lib.hid hs3; have HZ3 := Lib.hid (HBX.out _ HB3.out).2.2; obtain ⟨⟨d0, d1, d2, d3, d4⟩, k0, k1, k2, k3, k4⟩ := box5 HZ3.out; clear hs3 hb3))
  refine bodyPost_ret (v := .tuple #[.agg #[.bool S.fr, .int .i64 S.nx, .slice ra3 S.rd.length rc3, .slice ha3 S.hd.length hc3, .slice ma3 S.ms.length mc3], .int .i64 C]) (res_sd (i := 4) (j := 5) (g := w.heap.size + 1 + 1) Try.results101 rfl rfl (set5_box HZ3.out _ _ _ _ _)) rfl ?_
  exact app_end _ _ _ _ _ _ _ _ _ _ _ _ (HB0.out.trans (HB3.out.mono HB0.out.size)) (by omega) HZ3.out HS3.out

set_option maxRecDepth 100000 in
set_option maxHeartbeats 4000000 in
theorem rapp_thaw (s : Sd) (ra2 : Option Addr) (rc2 : Nat) (ha2 : Option Addr) (hc2 : Nat) (ma2 : Option Addr) (mc2 : Nat)  (ba : Option Addr) (bc : Nat) (ra : Option Addr) (rc : Nat) (ha : Option Addr) (hc : Nat) (ma : Option Addr) (mc : Nat) (w : World) (hs : SdAt w ra2 rc2 ha2 hc2 ma2 mc2 s) (hr : RcAt w ba bc ra rc ha hc ma mc ⟨6, 0, false, [], ⟨false, 0, [], [], []⟩⟩)  :
    Calls Try.prog 101 #[.agg #[.bool s.fr, .int .i64 s.nx, .slice ra2 s.rd.length rc2, .slice ha2 s.hd.length hc2, .slice ma2 s.ms.length mc2], .agg #[.int .i64 6, .int .i64 0, .bool false, .slice ba 0 bc, .bool false, .int .i64 0, .slice ra 0 rc, .slice ha 0 hc, .slice ma 0 mc]] w (ShR (setS s false) (setC s false) w) := by
  obtain ⟨hx, hy, hz, hb0, hWs⟩ := three_box (w := w) (.cells #[.bool s.fr, .int .i64 s.nx, .slice ra2 s.rd.length rc2, .slice ha2 s.hd.length hc2, .slice ma2 s.ms.length mc2] 26) (.cells #[.int .i64 6, .int .i64 0, .bool false, .slice ba 0 bc, .bool false, .int .i64 0, .slice ra 0 rc, .slice ha 0 hc, .slice ma 0 mc] 89) (.cells #[.bool false, .int .i64 0, .slice none 0 0, .slice none 0 0, .slice none 0 0] 26)
  obtain ⟨W, hW⟩ : ∃ W, W = ((w.alloc (.cells #[.bool s.fr, .int .i64 s.nx, .slice ra2 s.rd.length rc2, .slice ha2 s.hd.length hc2, .slice ma2 s.ms.length mc2] 26)).alloc (.cells #[.int .i64 6, .int .i64 0, .bool false, .slice ba 0 bc, .bool false, .int .i64 0, .slice ra 0 rc, .slice ha 0 hc, .slice ma 0 mc] 89)).alloc (.cells #[.bool false, .int .i64 0, .slice none 0 0, .slice none 0 0, .slice none 0 0] 26) := ⟨_, rfl⟩
  rw [← hW] at hx hy hz hb0 hWs
  have HB0 := Lib.hid hb0
  have HW := Lib.hid hW
  have HWS := Lib.hid hWs
  have HS1 := Lib.hid (hs.below ra2 rc2 ha2 hc2 ma2 mc2 hb0)
  have HR1 := Lib.hid (RcAt.below ba bc ra rc ha hc ma mc hr hb0)
  have HBX := Lib.hid (fun (wx : World) (h : Below W.heap.size W wx) => And.intro (box5 (box_bl hx h)).1 (And.intro (box9 (box_bl hy h)).1 (box_bl hz h)))
  have HMAY := Lib.hid (rmay_thaw  ba bc ra rc ha hc ma mc W HR1.out )
  rw [hW] at HMAY
  have HD0 : Hid (Below W.heap.size W (((w.alloc (.cells #[.bool s.fr, .int .i64 s.nx, .slice ra2 s.rd.length rc2, .slice ha2 s.hd.length hc2, .slice ma2 s.ms.length mc2] 26)).alloc (.cells #[.int .i64 6, .int .i64 0, .bool false, .slice ba 0 bc, .bool false, .int .i64 0, .slice ra 0 rc, .slice ha 0 hc, .slice ma 0 mc] 89)).alloc (.cells #[.bool false, .int .i64 0, .slice none 0 0, .slice none 0 0, .slice none 0 0] 26))) := Lib.hid (by rw [← hW]; exact Below.refl _ _)
  obtain ⟨⟨c0, c1, c2, c3, c4⟩, ⟨x0, x1, x2, x3, x4, x5, x6, x7, x8⟩, -⟩ := HBX.out _ HD0.out
  have HF : Hid (∀ wx, Below W.heap.size W wx → Calls Try.prog 36 #[.agg #[.bool s.fr, .int .i64 s.nx, .slice ra2 s.rd.length rc2, .slice ha2 s.hd.length hc2, .slice ma2 s.ms.length mc2]] wx (ShR (setS s false) (setC s false) wx)) := Lib.hid fun wx (h : Below W.heap.size W wx) => rthaw_any s ra2 rc2 ha2 hc2 ma2 mc2 wx (HS1.out.below _ _ _ _ _ _ h)
  generalize setS s false = S at *
  generalize setC s false = C at *
  clear hs hr hx hy hz hb0 hW hWs 
  go_enter Try.func101, Try.ntmps101
  go_wp2_with (first | (go_at_call 125; refine HMAY.out.mono ?_; rintro e w1 ⟨rfl, hd⟩; rw [← HW.out] at hd; have HD1 := Lib.hid hd; clear hd; obtain ⟨⟨c0, c1, c2, c3, c4⟩, ⟨x0, x1, x2, x3, x4, x5, x6, x7, x8⟩, hzz⟩ := HBX.out _ HD1.out; have HZ := Lib.hid hzz; obtain ⟨⟨d0, d1, d2, d3, d4⟩, k0, k1, k2, k3, k4⟩ := box5 hzz; clear hzz) | (go_at_call 36; refine (HF.out _ HD1.out).mono ?_; rintro e w3 ⟨ra3, rc3, ha3, hc3, ma3, mc3, rfl, hs3, hb3⟩; have HB3 := Lib.hid (HD1.out.trans (hb3.mono HD1.out.size)); have HS3 := Lib.hid hs3; have HZ3 := Lib.hid (HBX.out _ HB3.out).2.2; obtain ⟨⟨d0, d1, d2, d3, d4⟩, k0, k1, k2, k3, k4⟩ := box5 HZ3.out; clear hs3 hb3))
  refine bodyPost_ret (v := .tuple #[.agg #[.bool S.fr, .int .i64 S.nx, .slice ra3 S.rd.length rc3, .slice ha3 S.hd.length hc3, .slice ma3 S.ms.length mc3], .int .i64 C]) (res_sd (i := 4) (j := 5) (g := w.heap.size + 1 + 1) Try.results101 rfl rfl (set5_box HZ3.out _ _ _ _ _)) rfl ?_
  exact app_end _ _ _ _ _ _ _ _ _ _ _ _ (HB0.out.trans (HB3.out.mono HB0.out.size)) (by omega) HZ3.out HS3.out

set_option maxRecDepth 100000 in
set_option maxHeartbeats 4000000 in
theorem rapp_state (s : Sd) (ra2 : Option Addr) (rc2 : Nat) (ha2 : Option Addr) (hc2 : Nat) (ma2 : Option Addr) (mc2 : Nat) (q : Sd) (ba : Option Addr) (bc : Nat) (ra : Option Addr) (rc : Nat) (ha : Option Addr) (hc : Nat) (ma : Option Addr) (mc : Nat) (w : World) (hs : SdAt w ra2 rc2 ha2 hc2 ma2 mc2 s) (hr : RcAt w ba bc ra rc ha hc ma mc ⟨7, 0, false, [], q⟩) (h1 : MaySd q) :
    Calls Try.prog 101 #[.agg #[.bool s.fr, .int .i64 s.nx, .slice ra2 s.rd.length rc2, .slice ha2 s.hd.length hc2, .slice ma2 s.ms.length mc2], .agg #[.int .i64 7, .int .i64 0, .bool false, .slice ba 0 bc, .bool q.fr, .int .i64 q.nx, .slice ra q.rd.length rc, .slice ha q.hd.length hc, .slice ma q.ms.length mc]] w (ShR (q) (0) w) := by
  obtain ⟨hx, hy, hz, hb0, hWs⟩ := three_box (w := w) (.cells #[.bool s.fr, .int .i64 s.nx, .slice ra2 s.rd.length rc2, .slice ha2 s.hd.length hc2, .slice ma2 s.ms.length mc2] 26) (.cells #[.int .i64 7, .int .i64 0, .bool false, .slice ba 0 bc, .bool q.fr, .int .i64 q.nx, .slice ra q.rd.length rc, .slice ha q.hd.length hc, .slice ma q.ms.length mc] 89) (.cells #[.bool false, .int .i64 0, .slice none 0 0, .slice none 0 0, .slice none 0 0] 26)
  obtain ⟨W, hW⟩ : ∃ W, W = ((w.alloc (.cells #[.bool s.fr, .int .i64 s.nx, .slice ra2 s.rd.length rc2, .slice ha2 s.hd.length hc2, .slice ma2 s.ms.length mc2] 26)).alloc (.cells #[.int .i64 7, .int .i64 0, .bool false, .slice ba 0 bc, .bool q.fr, .int .i64 q.nx, .slice ra q.rd.length rc, .slice ha q.hd.length hc, .slice ma q.ms.length mc] 89)).alloc (.cells #[.bool false, .int .i64 0, .slice none 0 0, .slice none 0 0, .slice none 0 0] 26) := ⟨_, rfl⟩
  rw [← hW] at hx hy hz hb0 hWs
  have HB0 := Lib.hid hb0
  have HW := Lib.hid hW
  have HWS := Lib.hid hWs
  have HS1 := Lib.hid (hs.below ra2 rc2 ha2 hc2 ma2 mc2 hb0)
  have HR1 := Lib.hid (RcAt.below ba bc ra rc ha hc ma mc hr hb0)
  have HBX := Lib.hid (fun (wx : World) (h : Below W.heap.size W wx) => And.intro (box5 (box_bl hx h)).1 (And.intro (box9 (box_bl hy h)).1 (box_bl hz h)))
  have HMAY := Lib.hid (rmay_state q ba bc ra rc ha hc ma mc W HR1.out h1)
  rw [hW] at HMAY
  have HD0 : Hid (Below W.heap.size W (((w.alloc (.cells #[.bool s.fr, .int .i64 s.nx, .slice ra2 s.rd.length rc2, .slice ha2 s.hd.length hc2, .slice ma2 s.ms.length mc2] 26)).alloc (.cells #[.int .i64 7, .int .i64 0, .bool false, .slice ba 0 bc, .bool q.fr, .int .i64 q.nx, .slice ra q.rd.length rc, .slice ha q.hd.length hc, .slice ma q.ms.length mc] 89)).alloc (.cells #[.bool false, .int .i64 0, .slice none 0 0, .slice none 0 0, .slice none 0 0] 26))) := Lib.hid (by rw [← hW]; exact Below.refl _ _)
  obtain ⟨⟨c0, c1, c2, c3, c4⟩, ⟨x0, x1, x2, x3, x4, x5, x6, x7, x8⟩, -⟩ := HBX.out _ HD0.out
  clear hs hr hx hy hz hb0 hW hWs h1
  go_enter Try.func101, Try.ntmps101
  go_wp2_with (go_at_call 125; refine HMAY.out.mono ?_; rintro e w1 ⟨rfl, hd⟩; rw [← HW.out] at hd; have HD1 := Lib.hid hd; clear hd; obtain ⟨⟨c0, c1, c2, c3, c4⟩, ⟨x0, x1, x2, x3, x4, x5, x6, x7, x8⟩, hzz⟩ := HBX.out _ HD1.out; have HZ := Lib.hid hzz; obtain ⟨⟨d0, d1, d2, d3, d4⟩, k0, k1, k2, k3, k4⟩ := box5 hzz; clear hzz)
  refine bodyPost_ret (v := .tuple #[.agg #[.bool q.fr, .int .i64 q.nx, .slice ra q.rd.length rc, .slice ha q.hd.length hc, .slice ma q.ms.length mc], .int .i64 0]) (res_sd (i := 4) (j := 5) (g := w.heap.size + 1 + 1) Try.results101 rfl rfl (set5_box HZ.out _ _ _ _ _)) rfl ?_
  exact app_end _ _ _ _ _ _ _ _ _ _ _ _ (HB0.out.trans (HD1.out.mono HB0.out.size)) (by omega) HZ.out (HR1.out.sd.below _ _ _ _ _ _ HD1.out)

theorem rapply_any (s : Sd) (ra2 : Option Addr) (rc2 : Nat) (ha2 : Option Addr) (hc2 : Nat) (ma2 : Option Addr) (mc2 : Nat) (r : Rc) (ba : Option Addr) (bc : Nat) (ra : Option Addr) (rc : Nat) (ha : Option Addr) (hc : Nat) (ma : Option Addr) (mc : Nat) (w : World) (hs : SdAt w ra2 rc2 ha2 hc2 ma2 mc2 s) (hr : RcAt w ba bc ra rc ha hc ma mc r) (hm : MayRc r) :
    Calls Try.prog 101 #[.agg #[.bool s.fr, .int .i64 s.nx, .slice ra2 s.rd.length rc2, .slice ha2 s.hd.length hc2, .slice ma2 s.ms.length mc2], .agg #[.int .i64 r.kd, .int .i64 r.tag, .bool r.back, .slice ba r.bt.length bc, .bool r.sd.fr, .int .i64 r.sd.nx, .slice ra r.sd.rd.length rc, .slice ha r.sd.hd.length hc, .slice ma r.sd.ms.length mc]] w (ShR (appS s r) (appC s r) w) := by
  obtain ⟨kd, tag, back, bt, sd⟩ := r
  obtain ⟨hbk, hm⟩ := hm
  obtain rfl : back = false := hbk
  rcases hm with ⟨h1, h2, h3, h4, h5, h6⟩ | ⟨h1, h2, h3, h4, h5⟩ | ⟨h1, h2, h3, h4⟩ | ⟨h1, h2, h3, h4⟩
  · obtain rfl : kd = 1 := h1
    obtain rfl : tag = 0 := h2
    obtain rfl : sd = ⟨false, 0, [], [], []⟩ := h3
    exact rapp_put s ra2 rc2 ha2 hc2 ma2 mc2 bt ba bc ra rc ha hc ma mc w hs hr h4 h5 h6
  · obtain rfl : bt = [] := h4
    obtain rfl : sd = ⟨false, 0, [], [], []⟩ := h5
    rcases h1 with h1 | h1 | h1
    · obtain rfl : kd = 2 := h1
      exact rapp_get s ra2 rc2 ha2 hc2 ma2 mc2 tag ba bc ra rc ha hc ma mc w hs hr h2 h3
    · obtain rfl : kd = 3 := h1
      exact rapp_ack s ra2 rc2 ha2 hc2 ma2 mc2 tag ba bc ra rc ha hc ma mc w hs hr h2 h3
    · obtain rfl : kd = 4 := h1
      exact rapp_nack s ra2 rc2 ha2 hc2 ma2 mc2 tag ba bc ra rc ha hc ma mc w hs hr h2 h3
  · obtain rfl : tag = 0 := h2
    obtain rfl : bt = [] := h3
    obtain rfl : sd = ⟨false, 0, [], [], []⟩ := h4
    rcases h1 with h1 | h1
    · obtain rfl : kd = 5 := h1
      exact rapp_frz s ra2 rc2 ha2 hc2 ma2 mc2 ba bc ra rc ha hc ma mc w hs hr
    · obtain rfl : kd = 6 := h1
      exact rapp_thaw s ra2 rc2 ha2 hc2 ma2 mc2 ba bc ra rc ha hc ma mc w hs hr
  · obtain rfl : kd = 7 := h1
    obtain rfl : tag = 0 := h2
    obtain rfl : bt = [] := h3
    exact rapp_state s ra2 rc2 ha2 hc2 ma2 mc2 sd ba bc ra rc ha hc ma mc w hs hr h4

end Go.Proofs.Ythohjcfpobeplaa.Sl

namespace Go.Proofs.Ythohjcfpobeplaa.Sl
open Go.RowKit Rg Sh
set_option linter.unusedVariables false
set_option linter.unusedSimpArgs false

theorem bx_store_r {w w2 : World} {B g : Nat} (ra : Option Addr) (rc : Nat) (ha : Option Addr) (hc : Nat) (ma : Option Addr) (mc : Nat) {s' : Sd} (hb : Below B w w2) (hg : B ≤ g) (hs : SdAt w2 ra rc ha hc ma mc s')
    (hx : w2.heap[g]? = some (.cells #[.bool false, .int .i64 0, .slice none 0 0, .slice none 0 0, .slice none 0 0] 26 (0, 0))) : Below B w (set5 w2 g (.bool s'.fr) (.int .i64 s'.nx) (.slice ra s'.rd.length rc) (.slice ha s'.hd.length hc) (.slice ma s'.ms.length mc)) ∧
    Bx (set5 w2 g (.bool s'.fr) (.int .i64 s'.nx) (.slice ra s'.rd.length rc) (.slice ha s'.hd.length hc) (.slice ma s'.ms.length mc)) g ra rc ha hc ma mc s' :=
  ⟨set5_below hb hg _ _ _ _ _, set5_box hx _ _ _ _ _, sd_keep _ _ _ _ _ _ hs hx fun b hb => set5_heap _ _ _ _ _ _ _ _ hb⟩
theorem RlAt.get {w : World} {a : Option Addr} {cap : Nat} {l : List Rx} (h : RlAt w a cap l) (i : Nat) (hi : i < l.length) :
    ∃ b o, a = some ⟨b, o, none⟩ ∧ (∀ wx, Below w.heap.size w wx → (wx.cell? ⟨b, o + i * 9, none⟩ = some (.int .i64 l[i].r.kd) ∧ wx.cell? ⟨b, o + i * 9 + 1, none⟩ = some (.int .i64 l[i].r.tag) ∧ wx.cell? ⟨b, o + i * 9 + 2, none⟩ = some (.bool l[i].r.back) ∧ wx.cell? ⟨b, o + i * 9 + 3, none⟩ = some (.slice l[i].ba l[i].r.bt.length l[i].bc) ∧ wx.cell? ⟨b, o + i * 9 + 4, none⟩ = some (.bool l[i].r.sd.fr) ∧ wx.cell? ⟨b, o + i * 9 + 5, none⟩ = some (.int .i64 l[i].r.sd.nx) ∧ wx.cell? ⟨b, o + i * 9 + 6, none⟩ = some (.slice l[i].ra l[i].r.sd.rd.length l[i].rc) ∧ wx.cell? ⟨b, o + i * 9 + 7, none⟩ = some (.slice l[i].ha l[i].r.sd.hd.length l[i].hc) ∧ wx.cell? ⟨b, o + i * 9 + 8, none⟩ = some (.slice l[i].ma l[i].r.sd.ms.length l[i].mc))) ∧ RxAt w l[i] := by
  obtain ⟨b, o, ha, hc⟩ := h.at'.at' (by omega)
  refine ⟨b, o, ha, fun wx hb => ?_, h.all _ (List.getElem_mem hi)⟩
  have up : ∀ {q : Nat} {v : Value}, w.cell? ⟨b, q, none⟩ = some v → wx.cell? ⟨b, q, none⟩ = some v := fun {q v} hv => (hb.cell (p := ⟨b, q, none⟩) (lt_of_cell hv)).trans hv
  exact ⟨up (hc i hi 0 _ rfl), up (hc i hi 1 _ rfl), up (hc i hi 2 _ rfl), up (hc i hi 3 _ rfl), up (hc i hi 4 _ rfl), up (hc i hi 5 _ rfl), up (hc i hi 6 _ rfl), up (hc i hi 7 _ rfl), up (hc i hi 8 _ rfl)⟩
def ropRel (W : World) (l : List Rx) (g : Nat) (m : Nat) (v : Value) (wr : World) : Prop :=
  ∃ (i : Nat) (s : Sd) (ra2 : Option Addr) (rc2 : Nat) (ha2 : Option Addr) (hc2 : Nat) (ma2 : Option Addr) (mc2 : Nat), i ≤ l.length ∧ v = .int .i64 i ∧ m = l.length - i ∧ Below W.heap.size W wr ∧ wr.heap[W.heap.size]? = some (.cells #[.bool false, .int .i64 0, .slice none 0 0, .slice none 0 0, .slice none 0 0] 26 (0, 0)) ∧ Bx wr g ra2 rc2 ha2 hc2 ma2 mc2 s ∧ openF sd1 (rcs l) = openF s ((rcs l).drop i)
theorem rcs_drop {l : List Rx} {i : Nat} (h : i < l.length) : (rcs l).drop i = l[i].r :: (rcs l).drop (i + 1) := by
  have h1 : i < (rcs l).length := by simpa [rcs] using h
  rw [List.drop_eq_getElem_cons h1]
  simp [rcs]

set_option maxRecDepth 100000 in
set_option maxHeartbeats 4000000 in
theorem ropen_any (a : Option Addr) (cap : Nat) (l : List Rx) (w : World) (hf : RlAt w a cap l) (hm : ∀ x ∈ l, MayRc x.r) :
    Calls Try.prog 60 #[.slice a l.length cap] w (ShR (openF sd1 (rcs l)).1 (openF sd1 (rcs l)).2 w) := by
  obtain ⟨hx, hb0, hWs⟩ := one_box (w := w) (.cells #[.bool false, .int .i64 0, .slice none 0 0, .slice none 0 0, .slice none 0 0] 26)
  have HF := Lib.hid hf
  have HM := Lib.hid hm
  have HX0 := Lib.hid hx
  have HB0 := Lib.hid hb0
  have HWS := Lib.hid hWs
  have hmax := hf.at'.max
  have hlen := hf.at'.len
  unfold maxLen at hmax
  clear hf hm hx hb0 hWs
  go_enter Try.func60, Try.ntmps60
  go_wp2_with (go_at_call 39; refine (rnew_any _).mono ?_; rintro e w1 ⟨rfl, hb1⟩; have HB1 := Lib.hid hb1; clear hb1)
  have hs1 := HB1.out.size
  rw [HWS.out] at hs1
  have hb2 : Below w.heap.size w w1 := HB0.out.trans (HB1.out.mono HB0.out.size)
  have p1 := box_al (box_bl HX0.out HB1.out) (.cells #[.bool false, .int .i64 1, .slice none 0 0, .slice none 0 0, .slice none 0 0] 26)
  have p2 := heap_alloc_new w1 (.cells #[.bool false, .int .i64 1, .slice none 0 0, .slice none 0 0, .slice none 0 0] 26)
  have p3 := hb2.alloc hb2.size (.cells #[.bool false, .int .i64 1, .slice none 0 0, .slice none 0 0, .slice none 0 0] 26)
  generalize w1.alloc (.cells #[.bool false, .int .i64 1, .slice none 0 0, .slice none 0 0, .slice none 0 0] 26) = W3 at *
  have HC := Lib.hid (And.intro p1 (And.intro p2 p3))
  have hgn : w.heap.size < w1.heap.size := by omega
  clear p1 p2 p3 hb2 hs1 HB1
  generalize w1.heap.size = g at *
  go_loopg [5] l.length (ropRel w l g)
  case atStart => exact ⟨0, sd1, none, 0, none, 0, none, 0, Nat.zero_le _, rfl, rfl, HC.out.2.2, HC.out.1, ⟨HC.out.2.1, sd_nil _⟩, rfl⟩
  case round =>
    obtain ⟨i, s, ra2, rc2, ha2, hc2, ma2, mc2, hi, rfl, rfl, hb, hz, hx, he⟩ := hrel
    have HB := Lib.hid hb
    have HZ := Lib.hid hz
    have HX := Lib.hid hx
    have HE := Lib.hid he
    clear hb hz hx he
    by_cases hlt : i < l.length
    · have hlti : (i : Int) < (l.length : Int) := by omega
      have h0i : (0 : Int) ≤ (i : Int) := by omega
      have h4 : IntKind.i64.wrap ((i : Int) + 1) = (i : Int) + 1 := IntWalk.i64_in _ (by omega)
      have HE2 : Hid (openF sd1 (rcs l) = openF s (l[i].r :: (rcs l).drop (i + 1))) := Lib.hid (by rw [← rcs_drop hlt]; exact HE.out)
      have HMX := Lib.hid (HM.out l[i] (List.getElem_mem hlt))
      obtain ⟨b, o, haa, hcx, hxa⟩ := (HF.out.below HB.out).get i hlt
      subst haa
      have HCX := Lib.hid hcx
      have HXA := Lib.hid hxa
      clear hcx hxa HE
      generalize l[i] = x at *
      go_upto_region 5 with fail
      obtain ⟨⟨c0, c1, c2, c3, c4⟩, -⟩ := box5 HX.out.bx
      obtain ⟨x0, x1, x2, x3, x4, x5, x6, x7, x8⟩ := HCX.out _ (Below.refl _ _)
      go_cut [6, 7] from 9 to 28 (fun vp vc wx => ∃ (gp : Nat) (ra3 : Option Addr) (rc3 : Nat) (ha3 : Option Addr) (hc3 : Nat) (ma3 : Option Addr) (mc3 : Nat), vp = .pointer (some ⟨gp, 0, none⟩) ∧ vc = .int .i64 (appC s x.r) ∧ Bx wx gp ra3 rc3 ha3 hc3 ma3 mc3 (appS s x.r) ∧ Below wr.heap.size wr wx ∧ wr.heap.size ≤ gp)
      case first =>
        have HSK := Lib.hid (fun (wz : World) (k : Below wr.heap.size wr wz) => And.intro (box5 (box_bl HX.out.bx k)).1 (HCX.out wz k))
        have hSS := HSK.out _ (Below.refl _ _)
        have HDR : Hid (Below wr.heap.size wr wr.drew) := Lib.hid (Below.refl _ _).drew
        have HDA : Hid (Below wr.heap.size wr (wr.alloc (.cells #[.bool false, .int .i64 0, .slice none 0 0, .slice none 0 0, .slice none 0 0] 26)).drew) := Lib.hid ((Below.refl _ _).alloc (Nat.le_refl _) _).drew
        have HDB : Hid (Below wr.heap.size wr (wr.drew.alloc (.cells #[.bool false, .int .i64 0, .slice none 0 0, .slice none 0 0, .slice none 0 0] 26))) := Lib.hid ((Below.refl _ _).drew.alloc (Nat.le_refl _) _)
        go_region_held3 (fun wx => (wx.cell? ⟨g, 0, none⟩ = some (.bool s.fr) ∧ wx.cell? ⟨g, 1, none⟩ = some (.int .i64 s.nx) ∧ wx.cell? ⟨g, 2, none⟩ = some (.slice ra2 s.rd.length rc2) ∧ wx.cell? ⟨g, 3, none⟩ = some (.slice ha2 s.hd.length hc2) ∧ wx.cell? ⟨g, 4, none⟩ = some (.slice ma2 s.ms.length mc2)) ∧ (wx.cell? ⟨b, o + i * 9, none⟩ = some (.int .i64 x.r.kd) ∧ wx.cell? ⟨b, o + i * 9 + 1, none⟩ = some (.int .i64 x.r.tag) ∧ wx.cell? ⟨b, o + i * 9 + 2, none⟩ = some (.bool x.r.back) ∧ wx.cell? ⟨b, o + i * 9 + 3, none⟩ = some (.slice x.ba x.r.bt.length x.bc) ∧ wx.cell? ⟨b, o + i * 9 + 4, none⟩ = some (.bool x.r.sd.fr) ∧ wx.cell? ⟨b, o + i * 9 + 5, none⟩ = some (.int .i64 x.r.sd.nx) ∧ wx.cell? ⟨b, o + i * 9 + 6, none⟩ = some (.slice x.ra x.r.sd.rd.length x.rc) ∧ wx.cell? ⟨b, o + i * 9 + 7, none⟩ = some (.slice x.ha x.r.sd.hd.length x.hc) ∧ wx.cell? ⟨b, o + i * 9 + 8, none⟩ = some (.slice x.ma x.r.sd.ms.length x.mc)))
          (first | (refine HSK.out _ ?_; first | with_reducible exact HDR.out | with_reducible exact HDA.out | with_reducible exact HDB.out | with_reducible exact HB7.out | with_reducible exact Below.refl _ _ | with_reducible exact low_al HB7.out (Nat.le_refl _) _ | exact set5_below HB7.out (Nat.le_refl _) _ _ _ _ _))
          (first | (go_at_call 101; (first | (have hh := rapply_any s ra2 rc2 ha2 hc2 ma2 mc2 x.r x.ba x.bc x.ra x.rc x.ha x.hc x.ma x.mc wr.drew (HX.out.sd.below _ _ _ _ _ _ HDR.out) (HXA.out.below HDR.out) HMX.out; (with_reducible refine hh.mono ?_); clear hh) | (have hh := rapply_any s ra2 rc2 ha2 hc2 ma2 mc2 x.r x.ba x.bc x.ra x.rc x.ha x.hc x.ma x.mc (wr.alloc (.cells #[.bool false, .int .i64 0, .slice none 0 0, .slice none 0 0, .slice none 0 0] 26)).drew (HX.out.sd.below _ _ _ _ _ _ HDA.out) (HXA.out.below HDA.out) HMX.out; (with_reducible refine hh.mono ?_); clear hh) | (have hh := rapply_any s ra2 rc2 ha2 hc2 ma2 mc2 x.r x.ba x.bc x.ra x.rc x.ha x.hc x.ma x.mc (wr.drew.alloc (.cells #[.bool false, .int .i64 0, .slice none 0 0, .slice none 0 0, .slice none 0 0] 26)) (HX.out.sd.below _ _ _ _ _ _ HDB.out) (HXA.out.below HDB.out) HMX.out; (with_reducible refine hh.mono ?_); clear hh)); rintro e w7 ⟨ra3, rc3, ha3, hc3, ma3, mc3, rfl, hs7, hb7⟩; have HB7 : Hid (Below wr.heap.size wr w7) := Lib.hid (by first | with_reducible exact HDR.out.trans (hb7.mono HDR.out.size) | with_reducible exact HDA.out.trans (hb7.mono HDA.out.size) | with_reducible exact HDB.out.trans (hb7.mono HDB.out.size)); (try (have hz7 : w7.heap[wr.heap.size]? = some (.cells #[.bool false, .int .i64 0, .slice none 0 0, .slice none 0 0, .slice none 0 0] 26 (0, 0)) := (by first | with_reducible exact box_bl (w := (wr.alloc (.cells #[.bool false, .int .i64 0, .slice none 0 0, .slice none 0 0, .slice none 0 0] 26)).drew) (heap_alloc_new wr (.cells #[.bool false, .int .i64 0, .slice none 0 0, .slice none 0 0, .slice none 0 0] 26)) hb7 | with_reducible exact box_bl (heap_alloc_new wr.drew (.cells #[.bool false, .int .i64 0, .slice none 0 0, .slice none 0 0, .slice none 0 0] 26)) hb7); obtain ⟨⟨u0, u1, u2, u3, u4⟩, r0, r1, r2, r3, r4⟩ := box5 hz7; have HZ7 := Lib.hid (bx_store_r _ _ _ _ _ _ HB7.out (Nat.le_refl _) hs7 hz7); clear hz7)); have HS7 := Lib.hid hs7; clear hs7 hb7; dsimp only) | fail)
        all_goals
          go_wp2_with fail
          go_meet
          case rel => first | exact ⟨_, _, _, _, _, _, _, rfl, rfl, HZ7.out.2, HZ7.out.1, Nat.le_refl _⟩ | exact ⟨_, _, _, _, _, _, _, rfl, rfl, ⟨heap_alloc_new w7 _, sd_al _ _ _ _ _ _ HS7.out _⟩, low_al HB7.out (Nat.le_refl _) _, HB7.out.size⟩
      case rest =>
      obtain ⟨gp, ra3, rc3, ha3, hc3, ma3, mc3, rfl, rfl, hxp, hbp, hgp⟩ := hcut
      clear c0 c1 c2 c3 c4 x0 x1 x2 x3 x4 x5 x6 x7 x8
      generalize wc = W5 at *
      have HXP := Lib.hid hxp
      have HB5 := Lib.hid (HB.out.trans (hbp.mono HB.out.size))
      have HZ5 := Lib.hid (box_bl HZ.out hbp)
      have HX5 := Lib.hid (HX.out.below _ _ _ _ _ _ hbp)
      obtain ⟨⟨c0, c1, c2, c3, c4⟩, k0, k1, k2, k3, k4⟩ := box5 HX5.out.bx
      obtain ⟨⟨d0, d1, d2, d3, d4⟩, -⟩ := box5 hxp.bx
      obtain ⟨⟨e0, e1, e2, e3, e4⟩, q0, q1, q2, q3, q4⟩ := box5 HZ5.out
      have hgg : ¬ gp = g := by have := (box_lt HX.out.bx).1; omega
      clear hxp hbp
      by_cases hc : appC s x.r = 0
      · have e1 : (appC s x.r != 0) = false := by rw [bne_eq_false_iff_eq]; exact hc
        have HN : Hid (openF sd1 (rcs l) = openF (appS s x.r) ((rcs l).drop (i + 1))) := Lib.hid (by rcases open_next HE2.out with ⟨-, h⟩ | ⟨h, -⟩; exact h; exact absurd hc h)
        clear hc
        have HFN : Hid (∀ (x y z u v : Value), Below w.heap.size w (set5 W5 g x y z u v) ∧ (set5 W5 g x y z u v).heap[w.heap.size]? = some (.cells #[.bool false, .int .i64 0, .slice none 0 0, .slice none 0 0, .slice none 0 0] 26 (0, 0)) ∧ (set5 W5 g x y z u v).heap[g]? = some (.cells #[x, y, z, u, v] 26 (0, 0)) ∧ SdAt (set5 W5 g x y z u v) ra3 rc3 ha3 hc3 ma3 mc3 (appS s ‹Rx›.r)) := Lib.hid fun y0 y1 y2 y3 y4 =>
          ⟨set5_below HB5.out (by omega) _ _ _ _ _, (set5_heap _ _ _ _ _ _ _ _ (by omega)).trans HZ5.out, set5_box HX5.out.bx _ _ _ _ _, sd_keep _ _ _ _ _ _ HXP.out.sd HX5.out.bx fun b hb => set5_heap _ _ _ _ _ _ _ _ hb⟩
        go_wp2_with fail
        go_roundg (l.length - (i + 1))
        case measure => omega
        case rel => exact ⟨i + 1, appS s x.r, ra3, rc3, ha3, hc3, ma3, mc3, by omega, by go_num, by simp, (HFN.out _ _ _ _ _).1, (HFN.out _ _ _ _ _).2.1, ⟨(HFN.out _ _ _ _ _).2.2.1, (HFN.out _ _ _ _ _).2.2.2⟩, HN.out⟩
      · have e1 : (appC s x.r != 0) = true := by rw [bne_iff_ne]; exact hc
        have HN : Hid (openF sd1 (rcs l) = (s, appC s x.r)) := Lib.hid (by rcases open_next HE2.out with ⟨h, -⟩ | ⟨-, h⟩; exact absurd h hc; rw [app_not hc] at h; exact h)
        clear hc
        go_wp2_with fail
        refine bodyPost_ret (v := .tuple #[.agg #[.bool s.fr, .int .i64 s.nx, .slice ra2 s.rd.length rc2, .slice ha2 s.hd.length hc2, .slice ma2 s.ms.length mc2], .int .i64 (appC s x.r)]) (res_sd (i := 2) (j := 3) (g := w.heap.size) Try.results60 rfl rfl (set5_box HZ5.out _ _ _ _ _)) rfl ?_
        rw [HN.out]
        exact app_end _ _ _ _ _ _ _ _ _ _ _ _ HB5.out (Nat.le_refl _) HZ5.out HX5.out.sd
    · obtain rfl : i = l.length := by omega
      have HN : Hid (openF sd1 (rcs l) = (s, 0)) := Lib.hid (by rw [HE.out, List.drop_eq_nil_of_le (by simp [rcs])]; rfl)
      obtain ⟨⟨c0, c1, c2, c3, c4⟩, -⟩ := box5 HX.out.bx
      obtain ⟨⟨e0, e1, e2, e3, e4⟩, q0, q1, q2, q3, q4⟩ := box5 HZ.out
      go_wp2_with fail
      refine bodyPost_ret (v := .tuple #[.agg #[.bool s.fr, .int .i64 s.nx, .slice ra2 s.rd.length rc2, .slice ha2 s.hd.length hc2, .slice ma2 s.ms.length mc2], .int .i64 0]) (res_sd (i := 2) (j := 3) (g := w.heap.size) Try.results60 rfl rfl (set5_box HZ.out _ _ _ _ _)) rfl ?_
      rw [HN.out]
      exact app_end _ _ _ _ _ _ _ _ _ _ _ _ HB.out (Nat.le_refl _) HZ.out HX.out.sd

end Go.Proofs.Ythohjcfpobeplaa.Sl
