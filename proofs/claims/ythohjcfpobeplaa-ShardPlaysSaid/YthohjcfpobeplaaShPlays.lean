/-
  Law 12's ShardPlays, walked.
-/
import Derived.Test.YthohjcfpobeplaaShStep
import Derived.Test.YthohjcfpobeplaaShTold
import Derived.Test.YthohjcfpobeplaaShFew
namespace Go.Proofs.Ythohjcfpobeplaa.Sh
open Go.RowKit Rg Go.Sort
set_option linter.unusedVariables false
set_option linter.unusedSimpArgs false

def playRel (W : World) (l : List OpD) (g : Nat) (m : Nat) (v5 : Value) (wr : World) : Prop :=
  ∃ i : Nat, i ≤ l.length ∧ m = l.length - i ∧ v5 = .int .i64 i ∧ Below W.heap.size W wr ∧ ∃ ra rc ha hc ma mc ra2 rc2 ha2 hc2 ma2 mc2, Bx wr g ra rc ha hc ma mc (playF (l.take i)) ∧ Bx wr (g + 1) ra2 rc2 ha2 hc2 ma2 mc2 (playF (l.take i))

set_option maxRecDepth 100000 in
set_option maxHeartbeats 4000000 in
theorem plays_any (a : Option Addr) (cap : Nat) (l : List OpD) (w : World) (w0 : OpsAt w a cap l) :
    Calls Try.prog 4 #[.slice a l.length cap] w fun e w' => e = .returned (.bool true) ∧ Below w.heap.size w w' := by
  have HT := Lib.hid told_any
  have HO := Lib.hid w0
  have hcap := w0.max
  have hlen := w0.len
  clear w0
  by_cases h120 : (120 : Int) < (l.length : Int)
  · go_enter Try.func4, Try.ntmps4
    go_wp2_with fail
    refine (HT.out w).mono ?_
    rintro e w2 ⟨rfl, hb⟩
    have HB3 := Lib.hid hb
    clear hb
    go_wp2_with fail
    go_ret
    exact ⟨rfl, HB3.out⟩
  have hl9 : l.length ≤ 120 := by omega
  go_enter Try.func4, Try.ntmps4
  go_wp2_with fail
  refine (new_any w).mono ?_
  rintro e w1 ⟨rfl, hb1⟩
  have HB1 := Lib.hid hb1
  clear hb1
  go_wp2_with fail
  refine (rnew_any w1).mono ?_
  rintro e w2 ⟨rfl, hb2⟩
  have HB2 := Lib.hid (HB1.out.trans (hb2.mono HB1.out.size))
  clear hb2
  go_wp2_with fail
  obtain ⟨p1, p2, p3, p4⟩ := two_box (w := w2) (.cells #[.bool false, .int .i64 1, .slice none 0 0, .slice none 0 0, .slice none 0 0] 26) (.cells #[.bool false, .int .i64 1, .slice none 0 0, .slice none 0 0, .slice none 0 0] 26)
  generalize (w2.alloc (.cells #[.bool false, .int .i64 1, .slice none 0 0, .slice none 0 0, .slice none 0 0] 26)).alloc (.cells #[.bool false, .int .i64 1, .slice none 0 0, .slice none 0 0, .slice none 0 0] 26) = W3 at *
  have HX0 := Lib.hid (show Bx W3 w2.heap.size none 0 none 0 none 0 sd1 from ⟨p1, sd_nil _⟩)
  have HY0 := Lib.hid (show Bx W3 (w2.heap.size + 1) none 0 none 0 none 0 sd1 from ⟨p2, sd_nil _⟩)
  have HB3 := Lib.hid (HB2.out.trans (p3.mono HB2.out.size))
  have hg1 : w.heap.size ≤ w2.heap.size := HB2.out.size
  clear p1 p2 p3 p4
  generalize w2.heap.size = g at *
  go_loopg [5] l.length (playRel w l g)
  case atStart => exact ⟨0, Nat.zero_le _, rfl, rfl, HB3.out, none, 0, none, 0, none, 0, none, 0, none, 0, none, 0, HX0.out, HY0.out⟩
  case round =>
    obtain ⟨i, hi, rfl, rfl, hb, ra, rc, ha, hc, ma, mc, ra2, rc2, ha2, hc2, ma2, mc2, hx, hy⟩ := hrel
    have HB4 := Lib.hid hb
    have HX := Lib.hid hx
    have HY := Lib.hid hy
    clear HX0 HY0 HB3 hb hx hy
    by_cases hlt : i < l.length
    · have h1 : (i : Int) < (l.length : Int) := by omega
      have h0i : (0 : Int) ≤ (i : Int) := by omega
      have h2 : IntKind.i64.wrap ((i : Int) + 1) = (i : Int) + 1 := IntWalk.i64_in _ (by omega)
      have wi : IntKind.i64.wrap (i : Int) = (i : Int) := IntWalk.i64_in _ (by omega)
      have HPS := Lib.hid (play_snoc l i hlt)
      have HPM := Lib.hid (play_may (l.take i))
      obtain ⟨bb, oo, haa, hcc⟩ := (HO.out.below HB4.out).at' (by omega)
      subst haa
      obtain ⟨ao, co, ⟨c0, c1, c2, c3, c4, c5⟩, hop⟩ := hcc i hlt
      have HOP := Lib.hid hop
      clear hcc hop
      generalize l[i] = o at *
      generalize playF (l.take i) = s at *
      by_cases hbt : (∀ m ∈ o.l, ShortM m) ∧ o.l.length ≤ 12
      case neg =>
        go_wp2_with (first | (go_at_call 17; refine (batch_any ao co o.l wr HOP.out.at').mono ?_; rintro e w4 ⟨rfl, hg4⟩; rw [decide_eq_false hbt]; have HB5 := Lib.hid (HB4.out.trans (hg4.below.mono HB4.out.size)); clear hg4) | (go_at_call 19; refine (HT.out _).mono ?_; rintro e w5 ⟨rfl, hb5⟩; have HB6 := Lib.hid (HB5.out.trans (hb5.mono HB5.out.size)); clear hb5))
        go_ret
        exact ⟨rfl, HB6.out⟩
      case pos =>
        go_wp2_with (first | (go_at_call 17; refine (batch_any ao co o.l wr HOP.out.at').mono ?_; rintro e w4 ⟨rfl, hg4⟩; rw [decide_eq_true hbt]; have HG4 := Lib.hid hg4.below; clear hg4))
        have hx := HX.out.below _ _ _ _ _ _ HG4.out
        have hy := HY.out.below _ _ _ _ _ _ HG4.out
        obtain ⟨⟨x0, x1, x2, x3, x4⟩, -⟩ := box5 hx.bx
        obtain ⟨⟨y0, y1, y2, y3, y4⟩, -⟩ := box5 hy.bx
        have up : ∀ {q : Nat} {v : Value}, wr.cell? ⟨bb, q, none⟩ = some v → w4.cell? ⟨bb, q, none⟩ = some v := fun {q v} hv => (HG4.out.cell (p := ⟨bb, q, none⟩) (lt_of_cell hv)).trans hv
        replace c0 := up c0
        replace c1 := up c1
        replace c2 := up c2
        replace c3 := up c3
        replace c4 := up c4
        replace c5 := up c5
        have HX4 := Lib.hid hx
        have HY4 := Lib.hid hy
        have HOP4 := Lib.hid (HOP.out.below HG4.out)
        have hl4 := hbt.2
        clear hx hy up hbt
        go_region_with (first | (go_at_call 40; refine (do_any s _ _ _ _ _ _ _ _ _ _ _ _ o ao co HPM.out (fun _ => by omega) _ (HX4.out.sd.below _ _ _ _ _ _ (Below.refl _ _).drew) (HY4.out.sd.below _ _ _ _ _ _ (Below.refl _ _).drew) (HOP4.out.below (Below.refl _ _).drew)).mono ?_; rintro e w7 ⟨ra3, rc3, ha3, hc3, ma3, mc3, ra4, rc4, ha4, hc4, ma4, mc4, rfl, hs3, hs4, hb7⟩; have HB7 := Lib.hid ((Below.refl _ _).drew.trans (hb7.mono (Nat.le_refl _))); have HS3 := Lib.hid hs3; have HS4 := Lib.hid hs4; clear hs3 hs4 hb7; obtain ⟨⟨u0, u1, u2, u3, u4⟩, q0, q1, q2, q3, q4⟩ := box5 (box_bl HX4.out.bx HB7.out); obtain ⟨⟨z0, z1, z2, z3, z4⟩, t0, t1, t2, t3, t4⟩ := box5 (box_bl HY4.out.bx HB7.out); dsimp only))
        all_goals
          generalize hE : World.setCell (World.setCell (World.setCell (World.setCell (World.setCell w7 _ _) _ _) _ _) _ _) _ _ = E
          have hE' : set5 w7 g (.bool (stepF s o).fr) (.int .i64 (stepF s o).nx) (.slice ra3 (stepF s o).rd.length rc3) (.slice ha3 (stepF s o).hd.length hc3) (.slice ma3 (stepF s o).ms.length mc3) = E := hE
          clear hE
          generalize hF : World.setCell (World.setCell (World.setCell (World.setCell (World.setCell E _ _) _ _) _ _) _ _) _ _ = F
          have hF' : set5 E (g + 1) (.bool (stepF s o).fr) (.int .i64 (stepF s o).nx) (.slice ra4 (stepF s o).rd.length rc4) (.slice ha4 (stepF s o).hd.length hc4) (.slice ma4 (stepF s o).ms.length mc4) = F := hF
          clear hF
          have k1 := box_bl HX4.out.bx HB7.out
          have k2 := box_bl HY4.out.bx HB7.out
          have gE : E.heap[g]? = _ := hE' ▸ set5_box k1 _ _ _ _ _
          have gE1 : E.heap[g + 1]? = _ := hE' ▸ (set5_heap _ _ _ _ _ _ _ _ (by omega)).trans k2
          have gF : F.heap[g]? = _ := hF' ▸ (set5_heap _ _ _ _ _ _ _ _ (by omega)).trans gE
          have gF1 : F.heap[g + 1]? = _ := hF' ▸ set5_box gE1 _ _ _ _ _
          have e3 : SdAt F ra3 rc3 ha3 hc3 ma3 mc3 (stepF s o) := hF' ▸ sd_keep _ _ _ _ _ _ (hE' ▸ sd_keep _ _ _ _ _ _ HS3.out k1 fun b hb => set5_heap _ _ _ _ _ _ _ _ hb) gE1 fun b hb => set5_heap _ _ _ _ _ _ _ _ hb
          have e4 : SdAt F ra4 rc4 ha4 hc4 ma4 mc4 (stepF s o) := hF' ▸ sd_keep _ _ _ _ _ _ (hE' ▸ sd_keep _ _ _ _ _ _ HS4.out k1 fun b hb => set5_heap _ _ _ _ _ _ _ _ hb) gE1 fun b hb => set5_heap _ _ _ _ _ _ _ _ hb
          have hw7 : Below w.heap.size w w7 := (HB4.out.trans (HG4.out.mono HB4.out.size)).trans (HB7.out.mono (Nat.le_trans HB4.out.size HG4.out.size))
          have hbF : Below w.heap.size w F := hF' ▸ set5_below (hE' ▸ set5_below hw7 hg1 _ _ _ _ _) (Nat.le_succ_of_le hg1) _ _ _ _ _
          have hxF : Bx F g ra3 rc3 ha3 hc3 ma3 mc3 (playF (l.take (i + 1))) := by rw [HPS.out]; exact ⟨gF, e3⟩
          have hyF : Bx F (g + 1) ra4 rc4 ha4 hc4 ma4 mc4 (playF (l.take (i + 1))) := by rw [HPS.out]; exact ⟨gF1, e4⟩
          have HFIN := Lib.hid (And.intro hbF (And.intro hxF hyF))
          clear hE' hF' k1 k2 gE gE1 gF gF1 e3 e4 hw7 hbF hxF hyF
          go_wp2_with fail
          go_roundg (l.length - (i + 1))
          case measure => omega
          case rel => exact ⟨i + 1, by omega, rfl, by simp, HFIN.out.1, _, _, _, _, _, _, _, _, _, _, _, _, HFIN.out.2.1, HFIN.out.2.2⟩
    · obtain rfl : i = l.length := by omega
      have h1 : ¬ ((l.length : Int) < (l.length : Int)) := by omega
      have HM := Lib.hid (play_may (l.take l.length))
      generalize playF (l.take l.length) = S at *
      go_wp2_with fail
      refine (HT.out wr).mono ?_
      rintro e w4 ⟨rfl, hb⟩
      have hx := HX.out.below _ _ _ _ _ _ hb
      obtain ⟨⟨b0, b1, b2, b3, b4⟩, -⟩ := box5 hx.bx
      have HB5 := Lib.hid (HB4.out.trans (hb.mono HB4.out.size))
      have HMAY := Lib.hid (may_any _ _ _ _ _ _ _ w4 hx.sd)
      clear hb hx
      go_wp2_with (first | (go_at_call 24; refine HMAY.out.mono ?_; rintro e w5 ⟨rfl, hb5⟩; have HB6 := Lib.hid (HB5.out.trans (hb5.mono HB5.out.size)); rw [decide_eq_true HM.out]; clear hb5))
      go_ret
      exact ⟨rfl, HB6.out⟩

end Go.Proofs.Ythohjcfpobeplaa.Sh
