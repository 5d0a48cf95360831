/-
  Law 12's ShardParts, walked.
-/
import Derived.Test.YthohjcfpobeplaaShPrtP
import Derived.Test.YthohjcfpobeplaaShPart
import Derived.Test.YthohjcfpobeplaaShTold
import Derived.Test.YthohjcfpobeplaaShEq
import Derived.Test.YthohjcfpobeplaaRgArg
import Derived.Deep.CutRange
import Derived.Deep.RegionHeld3
import Derived.BigRegion
namespace Go.Proofs.Ythohjcfpobeplaa.Sh
open Go.RowKit Rg Go.Sort
set_option linter.unusedVariables false
set_option linter.unusedSimpArgs false

set_option maxHeartbeats 400000 in
theorem few9_any (a : Option Addr) (cap : Nat) (n : Nat) (w : World) :
    Calls Try.prog 18 #[.slice a n cap] w fun e w' => e = .returned (.bool (decide (n ≤ 60))) ∧ w = w' := by
  obtain ⟨q, hq⟩ : ∃ q, decide (n ≤ 60) = q := ⟨_, rfl⟩
  have h : decide ((n : Int) ≤ 60) = q := by rw [← hq, decide_eq_decide]; omega
  rw [hq]
  clear hq
  go_enter Try.func18, Try.ntmps18
  go_wp2_with fail
  go_ret
  exact ⟨ret_bool (by first | exact h | simp [← h]), rfl⟩
def prtRelA (W : World) (l : List OpD) (g : Nat) (m : Nat) (v6 : Value) (wr : World) : Prop :=
  ∃ i : Nat, i ≤ l.length ∧ m = l.length - i ∧ v6 = .int .i64 i ∧ Below W.heap.size W wr ∧ ∃ ra rc ha hc ma mc, Bx wr g ra rc ha hc ma mc (putsF (l.take i))
def prtRelB (W : World) (f : Sd) (l : List Ar) (g : Nat) (m : Nat) (v12 v13 v14 : Value) (wr : World) : Prop :=
  ∃ k : Nat, k ≤ 16 ∧ m = 16 - k ∧ v14 = .int .i64 k ∧ v12 = .int .i64 (cntB (fun x : Mg => x.key) l f.rd k : Nat) ∧ v13 = .int .i64 (cntB (fun x : Mk => x.key) l f.ms k : Nat) ∧ Below W.heap.size W wr ∧ ∃ ra rc ha hc ma mc, Bx wr g ra rc ha hc ma mc f
def prtRelC (W : World) (f : Sd) (p : Mg → Bool) (m : Nat) (v17 v18 : Value) (wr : World) : Prop :=
  ∃ i : Nat, i ≤ f.rd.length ∧ m = f.rd.length - i ∧ v18 = .int .i64 i ∧ v17 = .int .i64 (((f.rd.take i).filter p).length : Nat) ∧ Below W.heap.size W wr

set_option maxRecDepth 100000 in
set_option maxHeartbeats 8000000 in
theorem parts_any (a : Option Addr) (cap : Nat) (l : List OpD) (a1 : Option Addr) (cap1 : Nat) (arcs : List Ar) (w : World) (w0 : OpsAt w a cap l) (w1' : AArg w a1 cap1 arcs) :
    Calls Try.prog 6 #[.slice a l.length cap, .slice a1 arcs.length cap1] w fun e w' => e = .returned (.bool true) ∧ Below w.heap.size w w' := by
  have HT := Lib.hid told_any
  have HO := Lib.hid w0
  have HA := Lib.hid w1'.at'
  have hcap := w0.max
  have hlen := w0.len
  have mixed : Try.prog.follows .mixedOrders = true := by kernel_rfl
  have HFW := Lib.hid fun wx => few9_any a1 cap1 arcs.length wx
  have HRM := Lib.hid (Rg.may_any a1 cap1 arcs w HA.out)
  clear w0 w1'
  by_cases h120 : (80 : Int) < (l.length : Int)
  · go_enter Try.func6, Try.ntmps6
    go_wp2_with (go_at_call 19; refine (HT.out _).mono ?_; rintro e w5 ⟨rfl, hb5⟩; have HB6 := Lib.hid (hb5); clear hb5)
    go_ret
    exact ⟨rfl, HB6.out⟩
  have hl9 : l.length ≤ 80 := by omega
  by_cases hfw : arcs.length ≤ 60
  case neg =>
    have HFD : Hid (decide (arcs.length ≤ 60) = false) := Lib.hid (decide_eq_false hfw)
    clear hfw
    go_enter Try.func6, Try.ntmps6
    go_wp2_with (first | (go_at_call 18; refine (HFW.out _).mono ?_; rintro e w4 ⟨rfl, rfl⟩; rw [HFD.out]) | (go_at_call 19; refine (HT.out _).mono ?_; rintro e w5 ⟨rfl, hb5⟩; have HB6 := Lib.hid (hb5); clear hb5))
    go_ret
    exact ⟨rfl, HB6.out⟩
  have HFD : Hid (decide (arcs.length ≤ 60) = true) := Lib.hid (decide_eq_true hfw)
  by_cases hma : May arcs
  case neg =>
    have HMD : Hid (decide (May arcs) = false) := Lib.hid (decide_eq_false hma)
    clear hfw hma
    go_enter Try.func6, Try.ntmps6
    go_wp2_with (first | (go_at_call 18; refine (HFW.out _).mono ?_; rintro e w4 ⟨rfl, rfl⟩; rw [HFD.out]) | (go_at_call 43; refine HRM.out.mono ?_; rintro e w4 ⟨rfl, hd⟩; rw [HMD.out]; have HB4 := Lib.hid hd.below; clear hd) | (go_at_call 19; refine (HT.out _).mono ?_; rintro e w5 ⟨rfl, hb5⟩; have HB6 := Lib.hid (HB4.out.trans (hb5.mono HB4.out.size)); clear hb5))
    go_ret
    exact ⟨rfl, HB6.out⟩
  have HMD : Hid (decide (May arcs) = true) := Lib.hid (decide_eq_true hma)
  have HMA := Lib.hid hma
  clear hfw hma
  go_enter Try.func6, Try.ntmps6
  go_wp2_with (first | (go_at_call 18; refine (HFW.out _).mono ?_; rintro e w4 ⟨rfl, rfl⟩; rw [HFD.out]) | (go_at_call 43; refine HRM.out.mono ?_; rintro e w4 ⟨rfl, hd⟩; rw [HMD.out]; have HB4 := Lib.hid hd.below; clear hd) | (go_at_call 38; refine (new_any w4).mono ?_; rintro e w1 ⟨rfl, hb1⟩; have HB1 := Lib.hid (HB4.out.trans (hb1.mono HB4.out.size)); clear hb1))
  obtain ⟨hx1, hn1, hz1⟩ := one_box (w := w1) (.cells #[.bool false, .int .i64 1, .slice none 0 0, .slice none 0 0, .slice none 0 0] 26)
  have HB := Lib.hid (HB1.out.trans (hn1.mono HB1.out.size))
  have HX1 := Lib.hid (show Bx (w1.alloc (.cells #[.bool false, .int .i64 1, .slice none 0 0, .slice none 0 0, .slice none 0 0] 26)) w1.heap.size none 0 none 0 none 0 (putsF (l.take 0)) from ⟨hx1, sd_nil _⟩)
  have hg1 : w.heap.size ≤ w1.heap.size := HB1.out.size
  generalize w1.heap.size = g at *
  clear hn1 hz1 hx1
  go_loopg [6] l.length (prtRelA w l g)
  case atStart => exact ⟨0, Nat.zero_le _, rfl, rfl, HB.out, none, 0, none, 0, none, 0, HX1.out⟩
  case round =>
    obtain ⟨i, hi, rfl, rfl, hb, ra, rc, ha, hc, ma, mc, hx⟩ := hrel
    have HB2 := Lib.hid hb
    have HX := Lib.hid hx
    clear HX1 HB hb hx
    by_cases hlt : i < l.length
    case pos =>
      have h1 : (i : Int) < (l.length : Int) := by omega
      have h0i : (0 : Int) ≤ (i : Int) := by omega
      have h2 : IntKind.i64.wrap ((i : Int) + 1) = (i : Int) + 1 := IntWalk.i64_in _ (by omega)
      have HPS := Lib.hid (puts_snoc l i hlt)
      have HM := Lib.hid (puts_ok (l.take i)).1
      obtain ⟨bb, oo, haa, hcc⟩ := (HO.out.below HB2.out).at' (by omega)
      subst haa
      obtain ⟨ao, co, hoc, hop⟩ := hcc i hlt
      clear hcc hop
      generalize putsF (l.take i) = s at *
      generalize l[i] = o at *
      have hoc' := hoc
      obtain ⟨c0, c1, c2, c3, c4, c5⟩ := hoc'
      have HOC := Lib.hid hoc
      clear hoc
      obtain ⟨⟨x0, x1, x2, x3, x4⟩, xf0, xf1, xf2, xf3, xf4⟩ := box5 HX.out.bx
      obtain ⟨g0, g1, g2⟩ := box_lt HX.out.bx
      go_upto_region 7 with fail
      go_cut [7, 8] from 40 to 50 (fun vp vc wx => ∃ (gp : Nat) (ra6 : Option Addr) (rc6 : Nat) (ha6 : Option Addr) (hc6 : Nat) (ma6 : Option Addr) (mc6 : Nat), vp = .pointer (some ⟨gp, 0, none⟩) ∧ vc = .int .i64 (putC s (nextF s o)) ∧ Bx wx gp ra6 rc6 ha6 hc6 ma6 mc6 (putS s (nextF s o)) ∧ Below wr.heap.size wr wx ∧ wr.heap.size ≤ gp)
      case first =>
        have HSK := Lib.hid (fun (wz : World) (k : Below wr.heap.size wr wz) => And.intro (box5 (box_bl HX.out.bx k)).1 (And.intro ((k.cell (p := ⟨bb, oo + i * 6, none⟩) (lt_of_cell HOC.out.1)).trans HOC.out.1) (And.intro ((k.cell (p := ⟨bb, oo + i * 6 + 1, none⟩) (lt_of_cell HOC.out.2.1)).trans HOC.out.2.1) (And.intro ((k.cell (p := ⟨bb, oo + i * 6 + 2, none⟩) (lt_of_cell HOC.out.2.2.1)).trans HOC.out.2.2.1) (And.intro ((k.cell (p := ⟨bb, oo + i * 6 + 3, none⟩) (lt_of_cell HOC.out.2.2.2.1)).trans HOC.out.2.2.2.1) (And.intro ((k.cell (p := ⟨bb, oo + i * 6 + 4, none⟩) (lt_of_cell HOC.out.2.2.2.2.1)).trans HOC.out.2.2.2.2.1) ((k.cell (p := ⟨bb, oo + i * 6 + 5, none⟩) (lt_of_cell HOC.out.2.2.2.2.2)).trans HOC.out.2.2.2.2.2)))))))
        have hSS := HSK.out _ (Below.refl _ _)
        have HDR : Hid (Below wr.heap.size wr wr.drew) := Lib.hid (Below.refl _ _).drew
        have HDA : Hid (Below wr.heap.size wr (wr.alloc (.cells #[.bool false, .int .i64 0, .slice none 0 0, .slice none 0 0, .slice none 0 0] 26)).drew) := Lib.hid ((Below.refl _ _).alloc (Nat.le_refl _) _).drew
        have HDB : Hid (Below wr.heap.size wr (wr.drew.alloc (.cells #[.bool false, .int .i64 0, .slice none 0 0, .slice none 0 0, .slice none 0 0] 26))) := Lib.hid ((Below.refl _ _).drew.alloc (Nat.le_refl _) _)
        have HLT9 : Hid (wr.heap.size < (wr.alloc (.cells #[.bool false, .int .i64 0, .slice none 0 0, .slice none 0 0, .slice none 0 0] 26)).drew.heap.size) := Lib.hid (by show _ < (wr.alloc (.cells #[.bool false, .int .i64 0, .slice none 0 0, .slice none 0 0, .slice none 0 0] 26)).heap.size; simp)
        go_region_held3 (fun wx => ((wx.cell? ⟨g, 0, none⟩ = some (.bool s.fr) ∧ wx.cell? ⟨g, 1, none⟩ = some (.int .i64 s.nx) ∧ wx.cell? ⟨g, 2, none⟩ = some (.slice ra s.rd.length rc) ∧ wx.cell? ⟨g, 3, none⟩ = some (.slice ha s.hd.length hc) ∧ wx.cell? ⟨g, 4, none⟩ = some (.slice ma s.ms.length mc)) ∧ (wx.cell? ⟨bb, oo + i * 6, none⟩ = some (.int .i64 o.kind) ∧ wx.cell? ⟨bb, oo + i * 6 + 1, none⟩ = some (.int .i64 o.pub) ∧ wx.cell? ⟨bb, oo + i * 6 + 2, none⟩ = some (.int .i64 o.key) ∧ wx.cell? ⟨bb, oo + i * 6 + 3, none⟩ = some (.int .i64 o.many) ∧ wx.cell? ⟨bb, oo + i * 6 + 4, none⟩ = some (.int .i64 o.n) ∧ wx.cell? ⟨bb, oo + i * 6 + 5, none⟩ = some (.slice ao o.l.length co))))
          (first | (refine HSK.out _ ?_; first | with_reducible exact HDR.out | with_reducible exact HDA.out | with_reducible exact HDB.out | with_reducible exact HB6.out | with_reducible exact HB7.out | with_reducible exact Below.refl _ _ | with_reducible exact low_al HB6.out (Nat.le_refl _) _ | with_reducible exact low_al HB7.out (Nat.le_refl _) _ | exact set5_below HB7.out (Nat.le_refl _) _ _ _ _ _ | exact set5_below HB7.out HB6.out.size _ _ _ _ _))
          (first |
          (go_at_call 41; refine (next_any s ra rc ha hc ma mc o ao co HM.out _ (HX.out.sd.below _ _ _ _ _ _ (by first | with_reducible exact HDR.out | with_reducible exact HDA.out | with_reducible exact HDB.out))).mono ?_; rintro e w6 ⟨v6, rfl, ho6, hb6⟩; obtain ⟨an, cn, rfl, hr6, hn6⟩ := OwnE.at mgE ho6; have HR6 := Lib.hid hr6; have HN6 := Lib.hid hn6; have HB6 : Hid (Below wr.heap.size wr w6) := Lib.hid (by first | with_reducible exact HDR.out.trans (hb6.mono HDR.out.size) | with_reducible exact HDA.out.trans (hb6.mono HDA.out.size) | with_reducible exact HDB.out.trans (hb6.mono HDB.out.size)); (try (have hz6 : w6.heap[wr.heap.size]? = some (.cells #[.bool false, .int .i64 0, .slice none 0 0, .slice none 0 0, .slice none 0 0] 26 (0, 0)) := (by first | with_reducible exact box_bl (w := (wr.alloc (.cells #[.bool false, .int .i64 0, .slice none 0 0, .slice none 0 0, .slice none 0 0] 26)).drew) (heap_alloc_new wr (.cells #[.bool false, .int .i64 0, .slice none 0 0, .slice none 0 0, .slice none 0 0] 26)) hb6 | with_reducible exact box_bl (heap_alloc_new wr.drew (.cells #[.bool false, .int .i64 0, .slice none 0 0, .slice none 0 0, .slice none 0 0] 26)) hb6); have HZ6 := Lib.hid (And.intro hz6 (Nat.lt_of_lt_of_le HLT9.out hb6.size)); clear hz6)); clear ho6 hr6 hn6 hb6; dsimp only) |
          (go_at_call 20; have hh := put_any s ra rc ha hc ma mc an cn (nextF s o) (next_le s o) w6 (HX.out.sd.below _ _ _ _ _ _ HB6.out) HR6.out HN6.out; (with_reducible refine hh.mono ?_); clear hh; rintro e w7 ⟨ra6, rc6, ha6, hc6, ma6, mc6, rfl, ho7, hsm7, hb7⟩; have HB7 : Hid (Below wr.heap.size wr w7) := Lib.hid (HB6.out.trans (hb7.mono HB6.out.size)); (try (have hz7 : w7.heap[wr.heap.size]? = some (.cells #[.bool false, .int .i64 0, .slice none 0 0, .slice none 0 0, .slice none 0 0] 26 (0, 0)) := box_bl HZ6.out.1 hb7; obtain ⟨⟨u0, u1, u2, u3, u4⟩, r0, r1, r2, r3, r4⟩ := box5 hz7; have HZ7 := Lib.hid (bx_store _ _ _ _ _ _ HB7.out (Nat.le_refl _) HZ6.out.2 ho7 hsm7 hz7); clear hz7)); have HS7 := Lib.hid (ho7.sd _ _ _ _ _ _ hsm7); clear ho7 hsm7 hb7; dsimp only) |
          (go_at_call 20; have hh := put_any s ra rc ha hc ma mc an cn (nextF s o) (next_le s o) (w6.alloc (.cells #[.bool false, .int .i64 0, .slice none 0 0, .slice none 0 0, .slice none 0 0] 26)) (HX.out.sd.below _ _ _ _ _ _ (low_al HB6.out (Nat.le_refl _) _)) (HR6.out.below ((Below.refl _ _).alloc (Nat.le_refl _) _)) HN6.out; (with_reducible refine hh.mono ?_); clear hh; rintro e w7 ⟨ra6, rc6, ha6, hc6, ma6, mc6, rfl, ho7, hsm7, hb7⟩; have HB7 : Hid (Below wr.heap.size wr w7) := Lib.hid ((low_al HB6.out (Nat.le_refl _) (.cells #[.bool false, .int .i64 0, .slice none 0 0, .slice none 0 0, .slice none 0 0] 26)).trans (hb7.mono (low_al HB6.out (Nat.le_refl _) (.cells #[.bool false, .int .i64 0, .slice none 0 0, .slice none 0 0, .slice none 0 0] 26)).size)); have hz7 := box_bl (heap_alloc_new w6 (.cells #[.bool false, .int .i64 0, .slice none 0 0, .slice none 0 0, .slice none 0 0] 26)) hb7; obtain ⟨⟨u0, u1, u2, u3, u4⟩, r0, r1, r2, r3, r4⟩ := box5 hz7; have HZ7 := Lib.hid (bx_store _ _ _ _ _ _ HB7.out HB6.out.size (by simp) ho7 hsm7 hz7); clear hz7; have HS7 := Lib.hid (ho7.sd _ _ _ _ _ _ hsm7); clear ho7 hsm7 hb7; dsimp only) | fail)
        all_goals
          go_wp2_with fail
          go_meet
          case rel => first | exact ⟨_, _, _, _, _, _, _, rfl, rfl, HZ7.out.2, HZ7.out.1, Nat.le_refl _⟩ | exact ⟨_, _, _, _, _, _, _, rfl, rfl, HZ7.out.2, HZ7.out.1, HB6.out.size⟩ | exact ⟨_, _, _, _, _, _, _, rfl, rfl, ⟨heap_alloc_new w7 _, sd_al _ _ _ _ _ _ HS7.out _⟩, low_al HB7.out (Nat.le_refl _) _, HB7.out.size⟩
      case rest =>
      obtain ⟨gp, ra6, rc6, ha6, hc6, ma6, mc6, rfl, rfl, hx6, hb6, hgp⟩ := hcut
      have HX6 := Lib.hid hx6
      have HB6 := Lib.hid hb6
      have HXg := Lib.hid (HX.out.below _ _ _ _ _ _ hb6)
      clear x0 x1 x2 x3 x4 xf0 xf1 xf2 xf3 xf4 g0 g1 g2 hx6 hb6 c0 c1 c2 c3 c4 c5
      obtain ⟨⟨x0, x1, x2, x3, x4⟩, xf0, xf1, xf2, xf3, xf4⟩ := box5 HXg.out.bx
      obtain ⟨⟨y0, y1, y2, y3, y4⟩, -⟩ := box5 HX6.out.bx
      by_cases hc0 : putC s (nextF s o) = 0
      · rw [hc0]
        clear hc0
        go_wp2_with fail
        have HMV := Lib.hid (bx_move2 _ _ _ _ _ _ _ _ _ _ _ _ (HB2.out.trans (HB6.out.mono HB2.out.size)) hg1 HXg.out HX6.out)
        go_roundg (l.length - (i + 1))
        case measure => omega
        case rel => exact ⟨i + 1, by omega, rfl, by go_num, HMV.out.1, _, _, _, _, _, _, by rw [HPS.out]; exact HMV.out.2⟩
      · have hcb : (putC s (nextF s o) == 0) = false := by rw [beq_eq_false_iff_ne]; exact hc0
        have HPN := Lib.hid (put_not hc0)
        clear hc0
        go_wp2_with fail
        go_roundg (l.length - (i + 1))
        case measure => omega
        case rel => exact ⟨i + 1, by omega, rfl, by go_num, HB2.out.trans (HB6.out.mono HB2.out.size), _, _, _, _, _, _, by rw [HPS.out, HPN.out]; exact HXg.out⟩
    case neg =>
      obtain rfl : i = l.length := by omega
      have h1 : ¬ ((l.length : Int) < (l.length : Int)) := by omega
      obtain ⟨hm, hfr, hhd⟩ := puts_ok (l.take l.length)
      generalize putsF (l.take l.length) = s at *
      obtain ⟨q1, q2, q3, -⟩ := frz_is hm hfr
      have HPC := Lib.hid (partC_state (l := arcs) 0 hm HMA.out (fun e => by rw [hfr] at e; cases e.1))
      have HQ := Lib.hid (And.intro q1 q2)
      have HMF := Lib.hid q3
      have HFF := Lib.hid (And.intro (show (frz s).fr = true from rfl) (show (frz s).hd = [] from hhd))
      obtain ⟨⟨x0, x1, x2, x3, x4⟩, xf0, xf1, xf2, xf3, xf4⟩ := box5 HX.out.bx
      obtain ⟨g0, g1, g2⟩ := box_lt HX.out.bx
      have HAW := Lib.hid fun wx (h : Below w.heap.size w wx) => HA.out.below h
      clear hm hfr hhd q1 q2 q3
      go_wp2_with (first | (go_at_call 31; refine (part_any s _ _ _ _ _ _ a1 cap1 arcs 0 _ HX.out.sd (HAW.out _ HB2.out)).mono ?_; rintro e w7 ⟨ra6, rc6, ha6, hc6, ma6, mc6, rfl, -, -, hb7⟩; rw [HPC.out.1]; have HB7 := Lib.hid hb7; clear x0 x1 x2 x3 x4 xf0 xf1 xf2 xf3 xf4 g0 g1 g2; obtain ⟨⟨x0, x1, x2, x3, x4⟩, xf0, xf1, xf2, xf3, xf4⟩ := box5 (box_bl HX.out.bx hb7); obtain ⟨g0, g1, g2⟩ := box_lt (box_bl HX.out.bx hb7); clear hb7) |
        (go_at_call 33; have hb8 := low_al HB7.out (Nat.le_refl _) (.cells #[.bool (partS s arcs 0).fr, .int .i64 (partS s arcs 0).nx, .slice ra6 (partS s arcs 0).rd.length rc6, .slice ha6 (partS s arcs 0).hd.length hc6, .slice ma6 (partS s arcs 0).ms.length mc6] 26); have hh := freeze_any s _ _ _ _ _ _ _ (HX.out.sd.below _ _ _ _ _ _ hb8); rw [HQ.out.1, HQ.out.2] at hh; (with_reducible refine hh.mono ?_); clear hh; rintro e w9 ⟨ra7, rc7, ha7, hc7, ma7, mc7, rfl, ho9, hsm9, hb9⟩; have HB9 := Lib.hid (hb8.trans (hb9.mono hb8.size)); have HST := Lib.hid (bx_store _ _ _ _ _ _ (HB2.out.trans (HB9.out.mono HB2.out.size)) hg1 (Nat.lt_of_lt_of_le (box_lt HX.out.bx).1 (Nat.le_trans hb8.size (Nat.le_refl _))) ho9 hsm9 (box_bl HX.out.bx HB9.out)); clear x0 x1 x2 x3 x4 xf0 xf1 xf2 xf3 xf4 g0 g1 g2; obtain ⟨⟨x0, x1, x2, x3, x4⟩, xf0, xf1, xf2, xf3, xf4⟩ := box5 (box_bl HX.out.bx HB9.out); clear ho9 hsm9 hb9 hb8))
      have HB10 := Lib.hid HST.out.1
      have HX10 := Lib.hid HST.out.2
      clear HST x0 x1 x2 x3 x4 xf0 xf1 xf2 xf3 xf4
      generalize frz s = f at *
      go_loopg [12, 13, 14] 16 (prtRelB w f arcs g)
      case atStart => exact ⟨0, Nat.zero_le _, rfl, rfl, by rw [cnt_zero _ HMA.out]; rfl, by rw [cnt_zero _ HMA.out]; rfl, HB10.out, _, _, _, _, _, _, HX10.out⟩
      case round =>
        clear HB2 HX HB7 HB9 HB10 HX10 HPC HQ
        obtain ⟨k, hk, rfl, rfl, rfl, rfl, hb, ra, rc, ha, hc, ma, mc, hx⟩ := hrel
        have HB2 := Lib.hid hb
        have HX := Lib.hid hx
        clear hb hx
        obtain ⟨⟨x0, x1, x2, x3, x4⟩, xf0, xf1, xf2, xf3, xf4⟩ := box5 HX.out.bx
        obtain ⟨g0, g1, g2⟩ := box_lt HX.out.bx
        have hl1 := cnt_le (fun x : Mg => x.key) arcs f.rd k
        have hl2 := cnt_le (fun x : Mk => x.key) arcs f.ms k
        have hl3 : f.rd.length ≤ 1000 := HX.out.sd.sm.1
        have hl4 : f.ms.length ≤ 1000 := HX.out.sd.sm.2.2
        by_cases hkt : k < 16
        case pos =>
          have h3 : (k : Int) < 16 := by omega
          have h4 : IntKind.i64.wrap ((k : Int) + 1) = (k : Int) + 1 := IntWalk.i64_in _ (by omega)
          obtain ⟨e1, e2⟩ := prt_is (l := arcs) (k : Int) HMF.out HMA.out HFF.out.1 HFF.out.2
          have hh := part_any f _ _ _ _ _ _ a1 cap1 arcs (k : Int) wr HX.out.sd (HAW.out _ HB2.out)
          rw [e1, e2] at hh
          have hpm := prt_may arcs (k : Int) HMF.out
          unfold prtF at hh hpm
          have hs1 := cnt_step (fun x : Mg => x.key) arcs f.rd k
          have hs2 := cnt_step (fun x : Mk => x.key) arcs f.ms k
          try simp only at hs1 hs2
          have HFA := Lib.hid fun i h hp => filter_at (fun m : Mg => partF arcs (k : Int) m.key) f.rd i h hp
          have HSN := Lib.hid fun i h => filter_snoc (fun m : Mg => partF arcs (k : Int) m.key) f.rd i h
          have HFL := Lib.hid fun i => filter_len (fun m : Mg => partF arcs (k : Int) m.key) f.rd i
          obtain ⟨R, hR⟩ : ∃ R, f.rd.filter (fun m => partF arcs (k : Int) m.key) = R := ⟨_, rfl⟩
          obtain ⟨M, hM⟩ : ∃ M, f.ms.filter (fun m => partF arcs (k : Int) m.key) = M := ⟨_, rfl⟩
          have HR := Lib.hid hR
          rw [hR, hM] at hh hpm
          rw [hR] at hs1
          rw [hM] at hs2
          try simp only at HFA
          rw [hR] at HFA
          have HPT : Hid (Calls Try.prog 31 #[.agg #[.bool f.fr, .int .i64 f.nx, .slice ra f.rd.length rc, .slice ha f.hd.length hc, .slice ma f.ms.length mc], .slice a1 arcs.length cap1, .int .i64 (k : Int)] wr fun e w' => ∃ (ra6 : Option Addr) (rc6 : Nat) (ha6 : Option Addr) (hc6 : Nat) (ma6 : Option Addr) (mc6 : Nat), e = .returned (.tuple #[.agg #[.bool false, .int .i64 f.nx, .slice ra6 R.length rc6, .slice ha6 0 hc6, .slice ma6 M.length mc6], .int .i64 0]) ∧ SdAt w' ra6 rc6 ha6 hc6 ma6 mc6 ⟨false, f.nx, R, [], M⟩ ∧ Below wr.heap.size wr w') := Lib.hid (hh.mono (by rintro e w' ⟨ra6, rc6, ha6, hc6, ma6, mc6, rfl, ho, hsm, hb⟩; exact ⟨ra6, rc6, ha6, hc6, ma6, mc6, rfl, ho.sd _ _ _ _ _ _ hsm, hb⟩))
          have HMP := Lib.hid fun (ra6 : Option Addr) (rc6 : Nat) (ha6 : Option Addr) (hc6 : Nat) (ma6 : Option Addr) (mc6 : Nat) wx h => may_any ⟨false, f.nx, R, [], M⟩ ra6 rc6 ha6 hc6 ma6 mc6 wx h
          rw [decide_eq_true hpm] at HMP
          have HS12 := Lib.hid (And.intro hs1 hs2)
          have hRl : R.length ≤ f.rd.length := by rw [← hR]; exact List.length_filter_le _ _
          have hMl : M.length ≤ f.ms.length := by rw [← hM]; exact List.length_filter_le _ _
          have wn : IntKind.i64.wrap (((cntB (fun x : Mg => x.key) arcs f.rd k : Nat) : Int) + (R.length : Int)) = ((cntB (fun x : Mg => x.key) arcs f.rd (k + 1) : Nat) : Int) := by rw [IntWalk.i64_in _ (by omega)]; omega
          have wm : IntKind.i64.wrap (((cntB (fun x : Mk => x.key) arcs f.ms k : Nat) : Int) + (M.length : Int)) = ((cntB (fun x : Mk => x.key) arcs f.ms (k + 1) : Nat) : Int) := by rw [IntWalk.i64_in _ (by omega)]; omega
          generalize cntB (fun x : Mg => x.key) arcs f.rd k = n1 at *
          generalize cntB (fun x : Mk => x.key) arcs f.ms k = n2 at *
          clear e1 e2 hh hpm hR hM hs1 hs2 hl1 hl2
          go_wp2_with (first | (go_at_call 31; (with_reducible refine HPT.out.mono ?_); rintro e w7 ⟨ra6, rc6, ha6, hc6, ma6, mc6, rfl, hs7, hb7⟩; have HB7 := Lib.hid hb7; have HS7 := Lib.hid hs7; clear x0 x1 x2 x3 x4 xf0 xf1 xf2 xf3 xf4 g0 g1 g2; obtain ⟨⟨x0, x1, x2, x3, x4⟩, xf0, xf1, xf2, xf3, xf4⟩ := box5 (box_bl HX.out.bx hb7); obtain ⟨g0, g1, g2⟩ := box_lt (box_bl HX.out.bx hb7); clear hb7 hs7) |
            (go_at_call 24; have hh := HMP.out _ _ _ _ _ _ _ (sd_al _ _ _ _ _ _ HS7.out (.cells #[.bool false, .int .i64 f.nx, .slice ra6 R.length rc6, .slice ha6 0 hc6, .slice ma6 M.length mc6] 26)); refine hh.mono ?_; clear hh; rintro e w8 ⟨rfl, hb8⟩; have HB8 := Lib.hid ((low_al HB7.out (Nat.le_refl _) (.cells #[.bool false, .int .i64 f.nx, .slice ra6 R.length rc6, .slice ha6 0 hc6, .slice ma6 M.length mc6] 26)).trans (hb8.mono (low_al HB7.out (Nat.le_refl _) (.cells #[.bool false, .int .i64 f.nx, .slice ra6 R.length rc6, .slice ha6 0 hc6, .slice ma6 M.length mc6] 26)).size)); have HP8 := Lib.hid (box_bl (heap_alloc_new w7 (.cells #[.bool false, .int .i64 f.nx, .slice ra6 R.length rc6, .slice ha6 0 hc6, .slice ma6 M.length mc6] 26)) hb8); have HS8 := Lib.hid ((sd_al _ _ _ _ _ _ HS7.out (.cells #[.bool false, .int .i64 f.nx, .slice ra6 R.length rc6, .slice ha6 0 hc6, .slice ma6 M.length mc6] 26)).below _ _ _ _ _ _ hb8); clear hb8))
          clear x0 x1 x2 x3 x4 xf0 xf1 xf2 xf3 xf4 g0 g1 g2
          go_loopg [17, 18] f.rd.length (prtRelC w8 f (fun m : Mg => partF arcs (k : Int) m.key))
          case atStart => exact ⟨0, Nat.zero_le _, rfl, rfl, rfl, Below.refl _ _⟩
          case round =>
            obtain ⟨i, hi, rfl, rfl, rfl, hb⟩ := hrel
            have HBi := Lib.hid hb
            have HBW := Lib.hid (HB8.out.trans (hb.mono HB8.out.size))
            clear hb
            have HX2 := Lib.hid (HX.out.below _ _ _ _ _ _ HBW.out)
            obtain ⟨⟨x0, x1, x2, x3, x4⟩, -⟩ := box5 HX2.out.bx
            obtain ⟨⟨y0, y1, y2, y3, y4⟩, -⟩ := box5 (box_bl HP8.out HBi.out)
            have hat := HFL.out i
            by_cases hlt : i < f.rd.length
            case pos =>
              have h5 : (i : Int) < (f.rd.length : Int) := by omega
              have h0i : (0 : Int) ≤ (i : Int) := by omega
              have h6 : IntKind.i64.wrap ((i : Int) + 1) = (i : Int) + 1 := IntWalk.i64_in _ (by omega)
              obtain ⟨sb, so, rfl, z0, z1, z2, z3, z4⟩ := MgsAt.get HX2.out.sd.rd i hlt
              have HKL : Hid ((f.rd[i]).key.length ≤ 1000) := Lib.hid (by have := (HMF.out.2.2.2.2.2.2.2.2.2.1 _ (List.mem_append_right _ (List.getElem_mem hlt))).1.1.2.2.2.2.2; omega)
              have hsn := HSN.out i hlt
              have hfa := HFA.out i hlt
              try simp only at hsn hfa
              have HOF : Hid (∀ wx, Calls Try.prog 45 #[.string ⟨f.rd[i].key.toArray⟩] wx fun e w' => e = .returned (.int .u32 (ofB f.rd[i].key)) ∧ wx = w') := Lib.hid fun wx => of_any ⟨f.rd[i].key.toArray⟩ (by show f.rd[i].key.toArray.size ≤ maxLen; unfold maxLen; simp; have := HKL.out; omega) wx
              have HOW := Lib.hid (Rg.owner_any a1 cap1 arcs (ofB f.rd[i].key) wr (HAW.out _ (HB2.out.trans (HBW.out.mono HB2.out.size))))
              cases hq : partF arcs (k : Int) f.rd[i].key with
              | false =>
                have HSQ := Lib.hid (show ((f.rd.take (i + 1)).filter fun m => partF arcs (k : Int) m.key).length = ((f.rd.take i).filter fun m => partF arcs (k : Int) m.key).length from by rw [hsn, hq]; rfl)
                have hq' : (ownerA arcs (ofB f.rd[i].key) == (k : Int)) = false := hq
                clear hq hsn hfa HKL
                generalize f.rd[i] = x at *
                generalize ofB x.key = pt at *
                generalize ownerA arcs pt = y at *
                go_wp2_with (first | (go_at_call 45; refine (HOF.out _).mono ?_; rintro e w5 ⟨rfl, rfl⟩) | (go_at_call 44; refine HOW.out.mono ?_; rintro e w5 ⟨rfl, hd⟩; have HD := Lib.hid hd.below; clear hd))
                go_roundg (f.rd.length - (i + 1))
                case measure => omega
                case rel => exact ⟨i + 1, by omega, rfl, by go_num, by rw [HSQ.out], HBi.out.trans (HD.out.mono HBi.out.size)⟩
              | true =>
                have HSQ := Lib.hid (show ((f.rd.take (i + 1)).filter fun m => partF arcs (k : Int) m.key).length = ((f.rd.take i).filter fun m => partF arcs (k : Int) m.key).length + 1 from by rw [hsn, hq, if_pos rfl, List.length_append]; rfl)
                have hq' : (ownerA arcs (ofB f.rd[i].key) == (k : Int)) = true := hq
                obtain ⟨hn, hne⟩ := hfa hq
                clear hq hsn hfa HKL
                generalize ((f.rd.take i).filter fun m => partF arcs (k : Int) m.key).length = at' at *
                have HS9 := Lib.hid (HS8.out.below _ _ _ _ _ _ HBi.out)
                obtain ⟨rb, ro, hra, v0, v1, v2, v3, v4⟩ := MgsAt.get HS9.out.rd at' hn
                try simp only at hra v0 v1 v2 v3 v4
                rw [hne] at v0 v1 v2 v3 v4
                subst hra
                have hatl : ((at' : Nat) : Int) < (R.length : Int) := by omega
                have h0a : (0 : Int) ≤ (at' : Int) := by omega
                have ha1 : IntKind.i64.wrap ((at' : Int) + 1) = (at' : Int) + 1 := IntWalk.i64_in _ (by omega)
                have hd1 : decide ((R.length : Int) ≤ (at' : Int)) = false := decide_eq_false (by omega)
                have hd2 : decide (R.length ≤ at') = false := decide_eq_false (by omega)
                clear hne hn
                generalize f.rd[i] = x at *
                have hne := fun wx => mg_neq x x true (decide_eq_true rfl) wx
                generalize ofB x.key = pt at *
                generalize ownerA arcs pt = y at *
                go_wp2_with (first | (go_at_call 45; refine (HOF.out _).mono ?_; rintro e w5 ⟨rfl, rfl⟩) | (go_at_call 44; refine HOW.out.mono ?_; rintro e w5 ⟨rfl, hd⟩; have HD := Lib.hid hd.below; have upc : ∀ {b q : Nat} {v : Value}, wr.cell? ⟨b, q, none⟩ = some v → w5.cell? ⟨b, q, none⟩ = some v := (fun {b q v} hv => (hd.below.cell (p := ⟨b, q, none⟩) (lt_of_cell hv)).trans hv); replace x0 := upc x0; replace x1 := upc x1; replace x2 := upc x2; replace x3 := upc x3; replace x4 := upc x4; replace y0 := upc y0; replace y1 := upc y1; replace y2 := upc y2; replace y3 := upc y3; replace y4 := upc y4; replace z0 := upc z0; replace z1 := upc z1; replace z2 := upc z2; replace z3 := upc z3; replace z4 := upc z4; replace v0 := upc v0; replace v1 := upc v1; replace v2 := upc v2; replace v3 := upc v3; replace v4 := upc v4; clear hd upc))
                go_quiet (fail)
                go_wp2_with fail
                go_roundg (f.rd.length - (i + 1))
                case measure => omega
                case rel => exact ⟨i + 1, by omega, rfl, by go_num, by rw [HSQ.out]; go_num, (HBi.out.trans (HD.out.mono HBi.out.size)).trans ((Below.drewN (Below.refl _ _) _).mono (Nat.le_trans HBi.out.size HD.out.size))⟩
            case neg =>
              obtain rfl : i = f.rd.length := by omega
              have h5 : ¬ (f.rd.length : Int) < (f.rd.length : Int) := by omega
              have hRR : ((f.rd.take f.rd.length).filter fun m => partF arcs (k : Int) m.key).length = R.length := by rw [List.take_length, HR.out]
              rw [hRR]
              have hne1 : ((R.length : Int) != (R.length : Int)) = false := by rw [bne_eq_false_iff_eq]
              clear hRR hat
              go_wp2_with fail
              go_quiet (fail)
              go_wp2_with fail
              go_roundg (16 - (k + 1))
              case measure => omega
              case rel => exact ⟨k + 1, by omega, rfl, by go_num, rfl, rfl, (HB2.out.trans (HBW.out.mono HB2.out.size)).trans ((Below.drewN (Below.refl _ _) _).mono (Nat.le_trans HB2.out.size HBW.out.size)), _, _, _, _, _, _, HX2.out.below _ _ _ _ _ _ (Below.drewN (Below.refl _ _) _)⟩
        case neg =>
          obtain rfl : k = 16 := by omega
          have h3 : ¬ ((16 : Nat) : Int) < 16 := by omega
          have e1 : ((((cntB (fun x : Mg => x.key) arcs f.rd 16 : Nat) : Int)) == (f.rd.length : Int)) = true := by rw [cnt_all _ HMA.out]; simp
          have e2 : ((((cntB (fun x : Mk => x.key) arcs f.ms 16 : Nat) : Int)) == (f.ms.length : Int)) = true := by rw [cnt_all _ HMA.out]; simp
          generalize cntB (fun x : Mg => x.key) arcs f.rd 16 = n1 at *
          generalize cntB (fun x : Mk => x.key) arcs f.ms 16 = n2 at *
          clear hl1 hl2
          go_wp2_with (go_at_call 19; refine (HT.out wr).mono ?_; rintro e w5 ⟨rfl, hb5⟩; clear x0 x1 x2 x3 x4 xf0 xf1 xf2 xf3 xf4; obtain ⟨⟨x0, x1, x2, x3, x4⟩, -⟩ := box5 (box_bl HX.out.bx hb5); have HB5 := Lib.hid (HB2.out.trans (hb5.mono HB2.out.size)); clear hb5)
          go_ret
          exact ⟨rfl, HB5.out⟩

end Go.Proofs.Ythohjcfpobeplaa.Sh
