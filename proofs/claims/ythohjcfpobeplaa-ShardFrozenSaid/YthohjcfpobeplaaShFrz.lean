/-
  Law 12's ShardFrozen, walked.
-/
import Derived.Test.YthohjcfpobeplaaShStep
import Derived.Test.YthohjcfpobeplaaShSame
import Derived.Test.YthohjcfpobeplaaShTold
namespace Go.Proofs.Ythohjcfpobeplaa.Sh
open Go.RowKit Rg Go.Sort
set_option linter.unusedVariables false
set_option linter.unusedSimpArgs false

def frozRel (W : World) (l : List OpD) (g : Nat) (m : Nat) (v7 : Value) (wr : World) : Prop :=
  ∃ (i : Nat), i ≤ l.length ∧ m = l.length - i ∧ v7 = .int .i64 i ∧ Below W.heap.size W wr ∧ ∃ ra rc ha hc ma mc ra2 rc2 ha2 hc2 ma2 mc2, Bx wr g ra rc ha hc ma mc (play7 (l.take i)) ∧ Bx wr (g + 1) ra2 rc2 ha2 hc2 ma2 mc2 (play7 (l.take i))
def nkRel (W : World) (B g : Nat) (m : Nat) (wr : World) : Prop :=
  ∃ (f : Sd) (ra : Option Addr) (rc : Nat) (ha : Option Addr) (hc : Nat) (ma : Option Addr) (mc : Nat), MaySd f ∧ f.fr = true ∧ m = f.hd.length ∧ Below B W wr ∧ Bx wr g ra rc ha hc ma mc f

set_option maxRecDepth 100000 in
set_option maxHeartbeats 4000000 in
theorem frozen_any (a : Option Addr) (cap : Nat) (l : List OpD) (o1 : OpD) (a1 : Option Addr) (cap1 : Nat) (w : World) (w0 : OpsAt w a cap l) (w1' : OpAt w a1 cap1 o1) :
    Calls Try.prog 9 #[.slice a l.length cap, .agg #[.int .i64 o1.kind, .int .i64 o1.pub, .int .i64 o1.key, .int .i64 o1.many, .int .i64 o1.n, .slice a1 o1.l.length cap1]] w fun e w' => e = .returned (.bool true) ∧ Below w.heap.size w w' := by
  have HT := Lib.hid told_any
  have hcap := w0.max
  have hlen := w0.len
  obtain ⟨s1, s2, s3⟩ := one_box (w := w) (.cells #[.int .i64 o1.kind, .int .i64 o1.pub, .int .i64 o1.key, .int .i64 o1.many, .int .i64 o1.n, .slice a1 o1.l.length cap1] 48)
  obtain ⟨W0, hW0⟩ : ∃ W0, W0 = w.alloc (.cells #[.int .i64 o1.kind, .int .i64 o1.pub, .int .i64 o1.key, .int .i64 o1.many, .int .i64 o1.n, .slice a1 o1.l.length cap1] 48) := ⟨_, rfl⟩
  rw [← hW0] at s1 s2 s3
  have HO := Lib.hid (w0.below s2)
  have HO1 := Lib.hid (w1'.below s2)
  have HOX := Lib.hid s1
  have HB00 := Lib.hid s2
  have HW0 := Lib.hid hW0
  have HWS0 := Lib.hid s3
  clear w0 w1' s1 s2 s3 hW0
  by_cases h120 : (60 : Int) < (l.length : Int)
  · go_enter Try.func9, Try.ntmps9
    go_wp2_with fail
    rw [← HW0.out]
    refine (HT.out W0).mono ?_
    rintro e w2 ⟨rfl, hb⟩
    have HB3 := Lib.hid hb
    clear hb
    go_wp2_with fail
    go_ret
    exact ⟨rfl, HB00.out.trans (HB3.out.mono HB00.out.size)⟩
  have hl9 : l.length ≤ 60 := by omega
  go_enter Try.func9, Try.ntmps9
  go_wp2_with fail
  rw [← HW0.out]
  refine (new_any W0).mono ?_
  rintro e w1 ⟨rfl, hb1⟩
  have HB1 := Lib.hid hb1
  clear hb1
  go_wp2_with fail
  refine (rnew_any w1).mono ?_
  rintro e w2 ⟨rfl, hb2⟩
  have HB2 := Lib.hid (HB1.out.trans (hb2.mono HB1.out.size))
  clear hb2
  go_wp2_with fail
  obtain ⟨p1, p2, p3, p4⟩ := two_box (w := w2) (.cells #[.bool false, .int .i64 1, .slice none 0 0, .slice none 0 0, .slice none 0 0] 26) (.cells #[.bool false, .int .i64 1, .slice none 0 0, .slice none 0 0, .slice none 0 0] 26)
  generalize (w2.alloc (.cells #[.bool false, .int .i64 1, .slice none 0 0, .slice none 0 0, .slice none 0 0] 26)).alloc (.cells #[.bool false, .int .i64 1, .slice none 0 0, .slice none 0 0, .slice none 0 0] 26) = W3 at *
  have HX0 := Lib.hid (show Bx W3 w2.heap.size none 0 none 0 none 0 sd1 from ⟨p1, sd_nil _⟩)
  have HY0 := Lib.hid (show Bx W3 (w2.heap.size + 1) none 0 none 0 none 0 sd1 from ⟨p2, sd_nil _⟩)
  have HB3 := Lib.hid (HB2.out.trans (p3.mono HB2.out.size))
  have hg1 : W0.heap.size ≤ w2.heap.size := HB2.out.size
  clear p1 p2 p3 p4
  generalize w2.heap.size = g at *
  go_loopg [7] l.length (frozRel W0 l g)
  case atStart => exact ⟨0, Nat.zero_le _, rfl, rfl, HB3.out, none, 0, none, 0, none, 0, none, 0, none, 0, none, 0, HX0.out, HY0.out⟩
  case round =>
    obtain ⟨i, hi, rfl, rfl, hb, ra, rc, ha, hc, ma, mc, ra2, rc2, ha2, hc2, ma2, mc2, hx, hy⟩ := hrel
    have HB4 := Lib.hid hb
    have HX := Lib.hid hx
    have HY := Lib.hid hy
    clear HX0 HY0 HB3 hb hx hy
    by_cases hlt : i < l.length
    · have h1 : (i : Int) < (l.length : Int) := by omega
      have h0i : (0 : Int) ≤ (i : Int) := by omega
      have h2 : IntKind.i64.wrap ((i : Int) + 1) = (i : Int) + 1 := IntWalk.i64_in _ (by omega)
      have wi : IntKind.i64.wrap (i : Int) = (i : Int) := IntWalk.i64_in _ (by omega)
      have HPS := Lib.hid (play7_snoc l i hlt)
      have HPM := Lib.hid (play7_may (l.take i))
      obtain ⟨bb, oo, haa, hcc⟩ := (HO.out.below HB4.out).at' (by omega)
      subst haa
      obtain ⟨ao, co, ⟨c0, c1, c2, c3, c4, c5⟩, hop⟩ := hcc i hlt
      have HOP := Lib.hid (show OpAt wr ao co (op7 l[i]) from ⟨hop.at', hop.nil⟩)
      have HK9 := Lib.hid (op7_kd l[i])
      have HSN := Lib.hid (step_nx (play7 (l.take i)) (op7 l[i]))
      clear hcc hop
      generalize play7 (l.take i) = s at *
      obtain ⟨hk1, hk2⟩ := u64_mod l[i].kind 7 (by decide)
      rw [show ((7 : Nat) : Int) = 7 from rfl] at hk1
      have hko : (op7 l[i]).kind = (u64m l[i].kind 7 : Nat) := rfl
      have hkp : (op7 l[i]).pub = l[i].pub := rfl
      have hkk : (op7 l[i]).key = l[i].key := rfl
      have hkm : (op7 l[i]).many = l[i].many := rfl
      have hkn : (op7 l[i]).n = l[i].n := rfl
      have hkl : (op7 l[i]).l = l[i].l := rfl
      have HKO := Lib.hid (And.intro hko (And.intro hkp (And.intro hkk (And.intro hkm (And.intro hkn hkl)))))
      clear hko hkp hkk hkm hkn hkl
      generalize op7 l[i] = o at *
      generalize l[i] = x at *
      generalize u64m x.kind 7 = kd at *
      have wkd : IntKind.i64.wrap (kd : Int) = (kd : Int) := IntWalk.i64_in _ (by omega)
      obtain ⟨⟨x0, x1, x2, x3, x4⟩, -⟩ := box5 HX.out.bx
      obtain ⟨⟨y0, y1, y2, y3, y4⟩, -⟩ := box5 HY.out.bx
      obtain ⟨g0, g1, g2⟩ := box_lt HX.out.bx
      obtain ⟨g3, g4, g5⟩ := box_lt HY.out.bx
      have HDO : Hid (∀ wx, SdAt wx ra rc ha hc ma mc s → SdAt wx ra2 rc2 ha2 hc2 ma2 mc2 s → OpAt wx ao co o → Calls Try.prog 40 #[.agg #[.bool s.fr, .int .i64 s.nx, .slice ra s.rd.length rc, .slice ha s.hd.length hc, .slice ma s.ms.length mc], .agg #[.bool s.fr, .int .i64 s.nx, .slice ra2 s.rd.length rc2, .slice ha2 s.hd.length hc2, .slice ma2 s.ms.length mc2], .agg #[.int .i64 kd, .int .i64 x.pub, .int .i64 x.key, .int .i64 x.many, .int .i64 x.n, .slice ao x.l.length co]] wx (DoR s o wx)) := Lib.hid (fun wx h1 h2 h3 => by
        have h := do_any s ra rc ha hc ma mc ra2 rc2 ha2 hc2 ma2 mc2 o ao co HPM.out (fun e => absurd e (by have := HK9.out; omega)) wx h1 h2 h3
        rwa [HKO.out.1, HKO.out.2.1, HKO.out.2.2.1, HKO.out.2.2.2.1, HKO.out.2.2.2.2.1, HKO.out.2.2.2.2.2] at h)
      obtain ⟨t1, t2, t3⟩ := one_box (w := wr) (.cells #[.int .i64 kd, .int .i64 x.pub, .int .i64 x.key, .int .i64 x.many, .int .i64 x.n, .slice ao x.l.length co] 48)
      have HX4 := Lib.hid (HX.out.below _ _ _ _ _ _ t2)
      have HY4 := Lib.hid (HY.out.below _ _ _ _ _ _ t2)
      have HOP4 := Lib.hid (HOP.out.below t2)
      have HG4 := Lib.hid t2
      clear t1 t2 t3
      go_wp2_with (go_at_call 40; refine (HDO.out _ HX4.out.sd HY4.out.sd HOP4.out).mono ?_; rintro e w7 ⟨ra3, rc3, ha3, hc3, ma3, mc3, ra4, rc4, ha4, hc4, ma4, mc4, rfl, hs3, hs4, hb7⟩; have HB7 := Lib.hid hb7; have HS3 := Lib.hid hs3; have HS4 := Lib.hid hs4; clear hs3 hs4 hb7; obtain ⟨⟨u0, u1, u2, u3, u4⟩, q0, q1, q2, q3, q4⟩ := box5 (box_bl HX4.out.bx HB7.out); obtain ⟨⟨z0, z1, z2, z3, z4⟩, r0, r1, r2, r3, r4⟩ := box5 (box_bl HY4.out.bx HB7.out))
      generalize hE : World.setCell (World.setCell (World.setCell (World.setCell (World.setCell w7 _ _) _ _) _ _) _ _) _ _ = E
      have hE' : set5 w7 g (.bool (stepF s o).fr) (.int .i64 (stepF s o).nx) (.slice ra3 (stepF s o).rd.length rc3) (.slice ha3 (stepF s o).hd.length hc3) (.slice ma3 (stepF s o).ms.length mc3) = E := hE
      clear hE
      generalize hF : World.setCell (World.setCell (World.setCell (World.setCell (World.setCell E _ _) _ _) _ _) _ _) _ _ = F
      have hF' : set5 E (g + 1) (.bool (stepF s o).fr) (.int .i64 (stepF s o).nx) (.slice ra4 (stepF s o).rd.length rc4) (.slice ha4 (stepF s o).hd.length hc4) (.slice ma4 (stepF s o).ms.length mc4) = F := hF
      clear hF
      have k1 := box_bl HX4.out.bx HB7.out
      have k2 := box_bl HY4.out.bx HB7.out
      have gE : E.heap[g]? = _ := hE' ▸ set5_box k1 _ _ _ _ _
      have gE1 : E.heap[g + 1]? = _ := hE' ▸ (set5_heap _ _ _ _ _ _ _ _ (by omega)).trans k2
      have gF : F.heap[g]? = _ := hF' ▸ (set5_heap _ _ _ _ _ _ _ _ (by omega)).trans gE
      have gF1 : F.heap[g + 1]? = _ := hF' ▸ set5_box gE1 _ _ _ _ _
      have e3 : SdAt F ra3 rc3 ha3 hc3 ma3 mc3 (stepF s o) := hF' ▸ sd_keep _ _ _ _ _ _ (hE' ▸ sd_keep _ _ _ _ _ _ HS3.out k1 fun b hb => set5_heap _ _ _ _ _ _ _ _ hb) gE1 fun b hb => set5_heap _ _ _ _ _ _ _ _ hb
      have e4 : SdAt F ra4 rc4 ha4 hc4 ma4 mc4 (stepF s o) := hF' ▸ sd_keep _ _ _ _ _ _ (hE' ▸ sd_keep _ _ _ _ _ _ HS4.out k1 fun b hb => set5_heap _ _ _ _ _ _ _ _ hb) gE1 fun b hb => set5_heap _ _ _ _ _ _ _ _ hb
      have hw7 : Below W0.heap.size W0 w7 := (HB4.out.trans (HG4.out.mono HB4.out.size)).trans (HB7.out.mono (Nat.le_trans HB4.out.size HG4.out.size))
      have hbF : Below W0.heap.size W0 F := hF' ▸ set5_below (hE' ▸ set5_below hw7 hg1 _ _ _ _ _) (Nat.le_succ_of_le hg1) _ _ _ _ _
      have HXF := Lib.hid (show Bx F g ra3 rc3 ha3 hc3 ma3 mc3 (stepF s o) from ⟨gF, e3⟩)
      have HYF := Lib.hid (show Bx F (g + 1) ra4 rc4 ha4 hc4 ma4 mc4 (stepF s o) from ⟨gF1, e4⟩)
      have HBF := Lib.hid hbF
      have HMS := Lib.hid (step_may o HPM.out)
      clear hE' hF' k1 k2 gE gE1 gF gF1 e3 e4 hw7 hbF HDO HX4 HY4 HOP4 HG4 HB7 HS3 HS4 u0 u1 u2 u3 u4 q0 q1 q2 q3 q4 z0 z1 z2 z3 z4 r0 r1 r2 r3 r4 x0 x1 x2 x3 x4 y0 y1 y2 y3 y4 c0 c1 c2 c3 c4 c5
      go_wp2_with fail
      go_roundg (l.length - (i + 1))
      case measure => omega
      case rel => exact ⟨i + 1, by omega, rfl, by go_num, HBF.out, _, _, _, _, _, _, _, _, _, _, _, _, by rw [HPS.out]; exact HXF.out, by rw [HPS.out]; exact HYF.out⟩
    · obtain rfl : i = l.length := by omega
      have h1 : ¬ ((l.length : Int) < (l.length : Int)) := by omega
      have hmay := play7_may (l.take l.length)
      have hfr := play7_fr (l.take l.length)
      have hlast := play7_last (l.take l.length)
      rw [List.length_take, Nat.min_self] at hlast
      generalize play7 (l.take l.length) = s at *
      obtain ⟨q1, q2, q3, q4, q5, q6, q7⟩ := frz_is hmay hfr
      have q8 := frz_put o1 hmay hfr (by have := hlast (u64m o1.pub 4) (nameF (u64m o1.key 6)); omega)
      have HQ := Lib.hid (And.intro q1 (And.intro q2 (And.intro q4 (And.intro q5 (And.intro q6 (And.intro q7 q8))))))
      have HMS := Lib.hid hmay
      have HMF := Lib.hid q3
      clear q1 q2 q3 q4 q5 q6 q7 q8 hmay hfr hlast
      obtain ⟨g0, g1, g2⟩ := box_lt HX.out.bx
      obtain ⟨⟨x0, x1, x2, x3, x4⟩, -⟩ := box5 HX.out.bx
      have HFZ := Lib.hid (freeze_any s _ _ _ _ _ _ wr HX.out.sd)
      rw [HQ.out.1, HQ.out.2.1] at HFZ
      go_upto_region 11 with (go_at_call 33; refine HFZ.out.mono ?_; rintro e w4 ⟨ra5, rc5, ha5, hc5, ma5, mc5, rfl, hs4, hsm4, hb4⟩; have HS4 := Lib.hid (hs4.sd _ _ _ _ _ _ hsm4); have HB5 := Lib.hid hb4; clear hs4 hsm4 hb4)
      obtain ⟨t1, t2, t3⟩ := one_box (w := w4) (.cells #[.bool (frz s).fr, .int .i64 (frz s).nx, .slice ra5 (frz s).rd.length rc5, .slice ha5 (frz s).hd.length hc5, .slice ma5 (frz s).ms.length mc5] 26)
      obtain ⟨W5, hW5⟩ : ∃ W5, W5 = w4.alloc (.cells #[.bool (frz s).fr, .int .i64 (frz s).nx, .slice ra5 (frz s).rd.length rc5, .slice ha5 (frz s).hd.length hc5, .slice ma5 (frz s).ms.length mc5] 26) := ⟨_, rfl⟩
      rw [← hW5] at t1 t2 t3 ⊢
      have hx9 : Bx W5 w4.heap.size ra5 rc5 ha5 hc5 ma5 mc5 (frz s) := ⟨t1, HS4.out.below _ _ _ _ _ _ t2⟩
      have hb9 := HB5.out.trans (t2.mono HB5.out.size)
      have HX9 := Lib.hid hx9
      have HS9 := Lib.hid (And.intro (HX.out.below _ _ _ _ _ _ hb9) (And.intro (HB4.out.trans (hb9.mono HB4.out.size)) (show W0.heap.size ≤ w4.heap.size from Nat.le_trans HB4.out.size HB5.out.size)))
      have HOP9 := Lib.hid (HO1.out.below (HB4.out.trans (hb9.mono HB4.out.size)))
      have HOX9 := Lib.hid (box_bl HOX.out (HB4.out.trans (hb9.mono HB4.out.size)))
      have HQF : Hid (putC (frz s) (nextF (frz s) o1) = 6) := Lib.hid HQ.out.2.2.2.2.2.2
      have HQG := Lib.hid HQ.out.2.2.1
      have HQT := Lib.hid HQ.out.2.2.2.1
      have HQW := Lib.hid (And.intro HQ.out.2.2.2.2.1 HQ.out.2.2.2.2.2.1)
      clear t1 t2 t3 hW5 hx9 hb9 HFZ HS4 HB5 HX HY HB4 HQ g0 g1 g2 x0 x1 x2 x3 x4 HOX
      have HFF := Lib.hid (show (frz s).fr = true from rfl)
      generalize frz s = f at *
      generalize w4.heap.size = g9 at *
      obtain ⟨⟨x0, x1, x2, x3, x4⟩, -⟩ := box5 HX9.out.bx
      obtain ⟨⟨z0, z1, z2, z3, z4, z5⟩, -⟩ := box6 HOX9.out
      obtain ⟨m0, m1, m2⟩ := box_lt HX9.out.bx
      obtain ⟨m3, m4, m5⟩ := box_lt HOX9.out
      go_cut [11, 12] from 57 to 64 (fun v11 v12 wx => v12 = .int .i64 6 ∧ Below W5.heap.size W5 wx)
      case first =>
        have HSK := Lib.hid (fun (wz : World) (k : Below W5.heap.size W5 wz) => And.intro (box5 (box_bl HX9.out.bx k)).1 (box6 (box_bl HOX9.out k)).1)
        have hSS := HSK.out _ (Below.refl _ _)
        have HDR : Hid (Below W5.heap.size W5 W5.drew) := Lib.hid (Below.refl _ _).drew
        have HDA : Hid (Below W5.heap.size W5 (W5.alloc (.cells #[.bool false, .int .i64 0, .slice none 0 0, .slice none 0 0, .slice none 0 0] 26)).drew) := Lib.hid ((Below.refl _ _).alloc (Nat.le_refl _) _).drew
        have HDB : Hid (Below W5.heap.size W5 (W5.drew.alloc (.cells #[.bool false, .int .i64 0, .slice none 0 0, .slice none 0 0, .slice none 0 0] 26))) := Lib.hid ((Below.refl _ _).drew.alloc (Nat.le_refl _) _)
        go_region_held3 (fun wx => (wx.cell? ⟨g9, 0, none⟩ = some (.bool f.fr) ∧ wx.cell? ⟨g9, 1, none⟩ = some (.int .i64 f.nx) ∧ wx.cell? ⟨g9, 2, none⟩ = some (.slice ra5 f.rd.length rc5) ∧ wx.cell? ⟨g9, 3, none⟩ = some (.slice ha5 f.hd.length hc5) ∧ wx.cell? ⟨g9, 4, none⟩ = some (.slice ma5 f.ms.length mc5)) ∧
            (wx.cell? ⟨w.heap.size, 0, none⟩ = some (.int .i64 o1.kind) ∧ wx.cell? ⟨w.heap.size, 1, none⟩ = some (.int .i64 o1.pub) ∧ wx.cell? ⟨w.heap.size, 2, none⟩ = some (.int .i64 o1.key) ∧ wx.cell? ⟨w.heap.size, 3, none⟩ = some (.int .i64 o1.many) ∧ wx.cell? ⟨w.heap.size, 4, none⟩ = some (.int .i64 o1.n) ∧ wx.cell? ⟨w.heap.size, 5, none⟩ = some (.slice a1 o1.l.length cap1)))
          (first | (refine HSK.out _ ?_; first | with_reducible exact HDR.out | with_reducible exact HDA.out | with_reducible exact HDB.out | with_reducible exact HB6.out | with_reducible exact HB7.out | with_reducible exact Below.refl _ _ | with_reducible exact low_al HB6.out (Nat.le_refl _) _ | with_reducible exact low_al HB7.out (Nat.le_refl _) _ | exact set5_below HB7.out HGZ.out _ _ _ _ _))
          (first |
          (go_at_call 41; refine (next_any f ra5 rc5 ha5 hc5 ma5 mc5 o1 a1 cap1 HMF.out _ (HX9.out.sd.below _ _ _ _ _ _ (by first | with_reducible exact HDR.out | with_reducible exact HDA.out | with_reducible exact HDB.out))).mono ?_; rintro e w6 ⟨v6, rfl, ho6, hb6⟩; obtain ⟨an, cn, rfl, hr6, hn6⟩ := OwnE.at mgE ho6; have HR6 := Lib.hid hr6; have HN6 := Lib.hid hn6; have HB6 : Hid (Below W5.heap.size W5 w6) := Lib.hid (by first | with_reducible exact HDR.out.trans (hb6.mono HDR.out.size) | with_reducible exact HDA.out.trans (hb6.mono HDA.out.size) | with_reducible exact HDB.out.trans (hb6.mono HDB.out.size)); (try (have HZ6 : Hid (w6.heap[W5.heap.size]? = some (.cells #[.bool false, .int .i64 0, .slice none 0 0, .slice none 0 0, .slice none 0 0] 26 (0, 0))) := Lib.hid (by first | with_reducible exact box_bl (w := (W5.alloc (.cells #[.bool false, .int .i64 0, .slice none 0 0, .slice none 0 0, .slice none 0 0] 26)).drew) (heap_alloc_new W5 (.cells #[.bool false, .int .i64 0, .slice none 0 0, .slice none 0 0, .slice none 0 0] 26)) hb6 | with_reducible exact box_bl (heap_alloc_new W5.drew (.cells #[.bool false, .int .i64 0, .slice none 0 0, .slice none 0 0, .slice none 0 0] 26)) hb6))); clear ho6 hr6 hn6 hb6; dsimp only) |
          (go_at_call 20; refine (put_any f ra5 rc5 ha5 hc5 ma5 mc5 an cn (nextF f o1) (next_le f o1) w6 (HX9.out.sd.below _ _ _ _ _ _ HB6.out) HR6.out HN6.out).mono ?_; rintro e w7 ⟨ra6, rc6, ha6, hc6, ma6, mc6, rfl, ho7, hsm7, hb7⟩; rw [HQF.out]; have HB7 : Hid (Below W5.heap.size W5 w7) := Lib.hid (HB6.out.trans (hb7.mono HB6.out.size)); (try (have hz7 : w7.heap[W5.heap.size]? = some (.cells #[.bool false, .int .i64 0, .slice none 0 0, .slice none 0 0, .slice none 0 0] 26 (0, 0)) := box_bl HZ6.out hb7; obtain ⟨⟨u0, u1, u2, u3, u4⟩, r0, r1, r2, r3, r4⟩ := box5 hz7; have HGZ := Lib.hid (Nat.le_refl W5.heap.size); clear hz7)); clear ho7 hsm7 hb7; dsimp only) |
          (go_at_call 20; refine (put_any f ra5 rc5 ha5 hc5 ma5 mc5 an cn (nextF f o1) (next_le f o1) (w6.alloc (.cells #[.bool false, .int .i64 0, .slice none 0 0, .slice none 0 0, .slice none 0 0] 26)) (HX9.out.sd.below _ _ _ _ _ _ (low_al HB6.out (Nat.le_refl _) _)) (HR6.out.below ((Below.refl _ _).alloc (Nat.le_refl _) _)) HN6.out).mono ?_; rintro e w7 ⟨ra6, rc6, ha6, hc6, ma6, mc6, rfl, ho7, hsm7, hb7⟩; rw [HQF.out]; have HB7 : Hid (Below W5.heap.size W5 w7) := Lib.hid ((low_al HB6.out (Nat.le_refl _) (.cells #[.bool false, .int .i64 0, .slice none 0 0, .slice none 0 0, .slice none 0 0] 26)).trans (hb7.mono (low_al HB6.out (Nat.le_refl _) (.cells #[.bool false, .int .i64 0, .slice none 0 0, .slice none 0 0, .slice none 0 0] 26)).size)); have hz7 := box_bl (heap_alloc_new w6 (.cells #[.bool false, .int .i64 0, .slice none 0 0, .slice none 0 0, .slice none 0 0] 26)) hb7; obtain ⟨⟨u0, u1, u2, u3, u4⟩, r0, r1, r2, r3, r4⟩ := box5 hz7; have HGZ := Lib.hid HB6.out.size; clear hz7 ho7 hsm7 hb7; dsimp only))
        all_goals
          go_wp2_with fail
          go_meet
          case rel => first | exact ⟨rfl, low_al HB7.out (Nat.le_refl _) _⟩ | exact ⟨rfl, set5_below HB7.out HGZ.out _ _ _ _ _⟩
      case rest =>
      obtain ⟨rfl, hb⟩ := hcut
      have HBC := Lib.hid hb
      have HXG := Lib.hid (HX9.out.below _ _ _ _ _ _ hb)
      obtain ⟨m0, m1, m2⟩ := box_lt HXG.out.bx
      clear hb x0 x1 x2 x3 x4 z0 z1 z2 z3 z4 z5 m3 m4 m5
      obtain ⟨⟨x0, x1, x2, x3, x4⟩, -⟩ := box5 HXG.out.bx
      have HSS := Lib.hid HS9.out.1
      obtain ⟨n0, n1, n2⟩ := box_lt (HSS.out.below _ _ _ _ _ _ HBC.out).bx
      go_wp2_with (first | (go_at_call 22; refine (get_any f ra5 rc5 ha5 hc5 ma5 mc5 _ HXG.out.sd).mono ?_; rintro e w8 ⟨ra6, rc6, ha6, hc6, ma6, mc6, rfl, -, -, hb8⟩; rw [HQG.out]; have HB8 := Lib.hid (HBC.out.trans (hb8.mono HBC.out.size)); obtain ⟨m0, m1, m2⟩ := box_lt (HX9.out.below _ _ _ _ _ _ HB8.out).bx; obtain ⟨⟨x0, x1, x2, x3, x4⟩, -⟩ := box5 (HX9.out.below _ _ _ _ _ _ HB8.out).bx; clear hb8) |
        (go_at_call 33; refine (freeze_any f ra5 rc5 ha5 hc5 ma5 mc5 _ (HX9.out.sd.below _ _ _ _ _ _ (low_al (low_al HB8.out (Nat.le_refl _) _) (Nat.le_refl _) _))).mono ?_; rintro e w9 ⟨ra7, rc7, ha7, hc7, ma7, mc7, rfl, -, -, hb9⟩; rw [HQT.out]; have hb8' := low_al (low_al HB8.out (Nat.le_refl _) (.cells #[.bool (getS f).fr, .int .i64 (getS f).nx, .slice ra6 (getS f).rd.length rc6, .slice ha6 (getS f).hd.length hc6, .slice ma6 (getS f).ms.length mc6] 26)) (Nat.le_refl _) (.cells #[.int .i64 (getH f).tag, .int .i64 ((getH f).m).pub, .int .i64 ((getH f).m).seq, .string ⟨((getH f).m).key.toArray⟩, .string ⟨((getH f).m).body.toArray⟩, .bool ((getH f).m).again] 37); have HB9 := Lib.hid (hb8'.trans (hb9.mono hb8'.size)); obtain ⟨m0, m1, m2⟩ := box_lt (HX9.out.below _ _ _ _ _ _ HB9.out).bx; obtain ⟨⟨x0, x1, x2, x3, x4⟩, -⟩ := box5 (HX9.out.below _ _ _ _ _ _ HB9.out).bx; clear hb9 hb8') |
        (go_at_call 35; refine (thaw_any f ra5 rc5 ha5 hc5 ma5 mc5 _ (HX9.out.sd.below _ _ _ _ _ _ (low_al HB9.out (Nat.le_refl _) _))).mono ?_; rintro e w10 ⟨ra8, rc8, ha8, hc8, ma8, mc8, rfl, ho10, hsm10, hb10⟩; rw [HQW.out.1, HQW.out.2] at *; have hb9' := low_al HB9.out (Nat.le_refl _) (.cells #[.bool (setS f true).fr, .int .i64 (setS f true).nx, .slice ra7 (setS f true).rd.length rc7, .slice ha7 (setS f true).hd.length hc7, .slice ma7 (setS f true).ms.length mc7] 26); have HB10 := Lib.hid (hb9'.trans (hb10.mono hb9'.size)); have HS10 := Lib.hid (ho10.sd _ _ _ _ _ _ hsm10); have hq10 := box5 (HX9.out.below _ _ _ _ _ _ HB10.out).bx; obtain ⟨⟨x0, x1, x2, x3, x4⟩, -⟩ := hq10; have hs10 := HSS.out.below _ _ _ _ _ _ HB10.out; obtain ⟨n0, n1, n2⟩ := box_lt hs10.bx; obtain ⟨⟨y0, y1, y2, y3, y4⟩, -⟩ := box5 hs10.bx; clear ho10 hsm10 hb10 hb9' hs10) |
        (go_at_call 37; refine (psame_any s s _ _ _ _ _ _ _ _ _ _ _ _ _ (sd_al _ _ _ _ _ _ HS10.out _) (sd_al _ _ _ _ _ _ (HSS.out.below _ _ _ _ _ _ HB10.out).sd _)).mono ?_; rintro e w11 ⟨rfl, hb11⟩; rw [decide_eq_true (rfl : s = s)]; have hb10' := low_al HB10.out (Nat.le_refl _) (.cells #[.bool s.fr, .int .i64 s.nx, .slice ra8 s.rd.length rc8, .slice ha8 s.hd.length hc8, .slice ma8 s.ms.length mc8] 26); have HB11 := Lib.hid (hb10'.trans (hb11.mono hb10'.size)); clear hb11 hb10'))
      have HX11 := Lib.hid (HX9.out.below _ _ _ _ _ _ HB11.out)
      have HB12 := Lib.hid (HS9.out.2.1.trans (HB11.out.mono HS9.out.2.1.size))
      have hg9 := HS9.out.2.2
      clear x0 x1 x2 x3 x4 y0 y1 y2 y3 y4 m0 m1 m2 n0 n1 n2
      go_loopg [] f.hd.length (nkRel W0 W0.heap.size g9)
      case atStart => exact ⟨f, _, _, _, _, _, _, HMF.out, HFF.out, rfl, HB12.out, HX11.out⟩
      case round =>
        obtain ⟨f', ra, rc, ha, hc, ma, mc, hm, hfr, rfl, hb, hx⟩ := hrel
        have HM := Lib.hid hm
        have HF := Lib.hid hfr
        have HB := Lib.hid hb
        have HX := Lib.hid hx
        clear hm hfr hb hx HX11 HB12 HB11 HB10 HB9 HB8 HBC HXG HSS HS10 HQG HQT HQW HQF HX9 HS9 HOP9 HOX9 HMS HMF HFF
        obtain ⟨⟨x0, x1, x2, x3, x4⟩, xf0, xf1, xf2, xf3, xf4⟩ := box5 HX.out.bx
        obtain ⟨m0, m1, m2⟩ := box_lt HX.out.bx
        by_cases h0 : 0 < f'.hd.length
        case pos =>
          have h0i : (0 : Int) < (f'.hd.length : Int) := by omega
          obtain ⟨hb9, ho9, rfl, e0, -⟩ := HdsAt.get HX.out.sd.hd 0 h0
          rw [show ho9 + 0 * 6 = ho9 by omega] at e0
          have HNK := Lib.hid (nk_step HM.out h0)
          obtain ⟨tg, htg⟩ : ∃ tg, f'.hd[0].tag = tg := ⟨_, rfl⟩
          rw [htg] at e0 HNK
          clear htg
          go_upto_region 18 with fail
          go_cut [20, 21] from 109 to 118 (fun vp vc wx => ∃ (gp : Nat) (ra6 : Option Addr) (rc6 : Nat) (ha6 : Option Addr) (hc6 : Nat) (ma6 : Option Addr) (mc6 : Nat), vp = .pointer (some ⟨gp, 0, none⟩) ∧ vc = .int .i64 0 ∧ Bx wx gp ra6 rc6 ha6 hc6 ma6 mc6 (nackS f' tg) ∧ Below wr.heap.size wr wx ∧ wr.heap.size ≤ gp)
          case first =>
            have HSK := Lib.hid (fun (wz : World) (k : Below wr.heap.size wr wz) => And.intro (box5 (box_bl HX.out.bx k)).1 ((k.cell (p := ⟨hb9, ho9, none⟩) (lt_of_cell e0)).trans e0))
            have hSS := HSK.out _ (Below.refl _ _)
            have HDR : Hid (Below wr.heap.size wr wr.drew) := Lib.hid (Below.refl _ _).drew
            have HDA : Hid (Below wr.heap.size wr (wr.alloc (.cells #[.bool false, .int .i64 0, .slice none 0 0, .slice none 0 0, .slice none 0 0] 26)).drew) := Lib.hid ((Below.refl _ _).alloc (Nat.le_refl _) _).drew
            have HDB : Hid (Below wr.heap.size wr (wr.drew.alloc (.cells #[.bool false, .int .i64 0, .slice none 0 0, .slice none 0 0, .slice none 0 0] 26))) := Lib.hid ((Below.refl _ _).drew.alloc (Nat.le_refl _) _)
            have hlt9 : wr.heap.size < (wr.alloc (.cells #[.bool false, .int .i64 0, .slice none 0 0, .slice none 0 0, .slice none 0 0] 26)).drew.heap.size := by show _ < (wr.alloc (.cells #[.bool false, .int .i64 0, .slice none 0 0, .slice none 0 0, .slice none 0 0] 26)).heap.size; simp
            go_region_held3 (fun wx => ((wx.cell? ⟨g9, 0, none⟩ = some (.bool f'.fr) ∧ wx.cell? ⟨g9, 1, none⟩ = some (.int .i64 f'.nx) ∧ wx.cell? ⟨g9, 2, none⟩ = some (.slice ra f'.rd.length rc) ∧ wx.cell? ⟨g9, 3, none⟩ = some (.slice (some ⟨hb9, ho9, none⟩) f'.hd.length hc) ∧ wx.cell? ⟨g9, 4, none⟩ = some (.slice ma f'.ms.length mc)) ∧ wx.cell? ⟨hb9, ho9, none⟩ = some (.int .i64 tg)))
              (first | (refine HSK.out _ ?_; first | with_reducible exact HDR.out | with_reducible exact HDA.out | with_reducible exact HDB.out | with_reducible exact HB7.out | with_reducible exact Below.refl _ _ | with_reducible exact low_al HB7.out (Nat.le_refl _) _ | exact set5_below HB7.out (Nat.le_refl _) _ _ _ _ _))
              (first | (go_at_call 29; refine (nack_any f' tg _ _ _ _ _ _ _ (HX.out.sd.below _ _ _ _ _ _ (by first | with_reducible exact HDR.out | with_reducible exact HDA.out | with_reducible exact HDB.out))).mono ?_; rintro e w7 ⟨ra6, rc6, ha6, hc6, ma6, mc6, rfl, ho7, hsm7, hb7⟩; rw [HNK.out.1]; have HB7 : Hid (Below wr.heap.size wr w7) := Lib.hid (by first | with_reducible exact HDR.out.trans (hb7.mono HDR.out.size) | with_reducible exact HDA.out.trans (hb7.mono HDA.out.size) | with_reducible exact HDB.out.trans (hb7.mono HDB.out.size)); (try (have hz7 : w7.heap[wr.heap.size]? = some (.cells #[.bool false, .int .i64 0, .slice none 0 0, .slice none 0 0, .slice none 0 0] 26 (0, 0)) := (by first | with_reducible exact box_bl (w := (wr.alloc (.cells #[.bool false, .int .i64 0, .slice none 0 0, .slice none 0 0, .slice none 0 0] 26)).drew) (heap_alloc_new wr (.cells #[.bool false, .int .i64 0, .slice none 0 0, .slice none 0 0, .slice none 0 0] 26)) hb7 | with_reducible exact box_bl (heap_alloc_new wr.drew (.cells #[.bool false, .int .i64 0, .slice none 0 0, .slice none 0 0, .slice none 0 0] 26)) hb7); obtain ⟨⟨u0, u1, u2, u3, u4⟩, r0, r1, r2, r3, r4⟩ := box5 hz7; have HZ7 := Lib.hid (bx_store _ _ _ _ _ _ HB7.out (Nat.le_refl _) hlt9 ho7 hsm7 hz7); clear hz7)); have HS7 := Lib.hid (ho7.sd _ _ _ _ _ _ hsm7); clear ho7 hsm7 hb7; dsimp only))
            all_goals
              go_wp2_with fail
              go_meet
              case rel => first | exact ⟨_, _, _, _, _, _, _, rfl, rfl, HZ7.out.2, HZ7.out.1, Nat.le_refl _⟩ | exact ⟨_, _, _, _, _, _, _, rfl, rfl, ⟨heap_alloc_new w7 _, sd_al _ _ _ _ _ _ HS7.out _⟩, low_al HB7.out (Nat.le_refl _) _, HB7.out.size⟩
          case rest =>
          obtain ⟨g20, ra6, rc6, ha6, hc6, ma6, mc6, rfl, rfl, hx20, hb20, hg20⟩ := hcut
          have HX20 := Lib.hid hx20
          have HB20 := Lib.hid hb20
          obtain ⟨-, q2, q3, q4, hpos, q5⟩ := HNK.out
          have HMN := Lib.hid (nack_may HM.out tg)
          have HQ5 := Lib.hid (And.intro q2 q3)
          obtain ⟨rb, ro, hra, -, -, -, -, z4⟩ := MgsAt.get hx20.sd.rd 0 hpos
          rw [show ro + 0 * 5 + 4 = ro + 4 by omega, q5] at z4
          obtain ⟨⟨u0, u1, u2, u3, u4⟩, -⟩ := box5 hx20.bx
          rw [q2, HF.out] at u0
          rw [hra] at u2
          clear x0 x1 x2 x3 x4 xf0 xf1 xf2 xf3 xf4
          obtain ⟨⟨x0, x1, x2, x3, x4⟩, xf0, xf1, xf2, xf3, xf4⟩ := box5 (box_bl HX.out.bx HB20.out)
          have hl9 : f'.rd.length ≤ 1000 := HX.out.sd.sm.1
          have hwl : IntKind.i64.wrap ((f'.rd.length : Int) + 1) = (f'.rd.length : Int) + 1 := IntWalk.i64_in _ (by omega)
          have hne : (((nackS f' tg).rd.length : Int) != (f'.rd.length : Int) + 1) = false := by rw [bne_eq_false_iff_eq]; omega
          have hposi : (0 : Int) < ((nackS f' tg).rd.length : Int) := by omega
          clear hx20 hb20 q2 q3 q4 q5 e0
          go_wp2_with fail
          have hx9 := box_bl HX.out.bx HB20.out
          have hbf : Below W0.heap.size W0 (set5 wc g9 (.bool (nackS f' tg).fr) (.int .i64 (nackS f' tg).nx) (.slice ra6 (nackS f' tg).rd.length rc6) (.slice ha6 (nackS f' tg).hd.length hc6) (.slice ma6 (nackS f' tg).ms.length mc6)) := set5_below (HB.out.trans (HB20.out.mono HB.out.size)) hg9 _ _ _ _ _
          have hxf : Bx (set5 wc g9 (.bool (nackS f' tg).fr) (.int .i64 (nackS f' tg).nx) (.slice ra6 (nackS f' tg).rd.length rc6) (.slice ha6 (nackS f' tg).hd.length hc6) (.slice ma6 (nackS f' tg).ms.length mc6)) g9 ra6 rc6 ha6 hc6 ma6 mc6 (nackS f' tg) := ⟨set5_box hx9 _ _ _ _ _, sd_keep _ _ _ _ _ _ HX20.out.sd hx9 fun b hb => set5_heap _ _ _ _ _ _ _ _ hb⟩
          have hfr := HNK.out.2.1.trans HF.out
          have hHX := Lib.hid (And.intro hbf hxf)
          rw [hra] at hHX
          clear hbf hxf hx9
          go_roundg (nackS f' tg).hd.length
          case measure => have := HQ5.out.2; omega
          case rel => exact ⟨nackS f' tg, _, _, _, _, _, _, HMN.out, hfr, rfl, by first | exact hHX.out.1 | (rw [← hfr]; exact hHX.out.1), by first | exact hHX.out.2 | (rw [← hfr]; exact hHX.out.2)⟩
        case neg =>
          have h0i : ¬ (0 : Int) < (f'.hd.length : Int) := by omega
          have HMAY := Lib.hid fun wx (h : Below wr.heap.size wr wx) => may_any f' ra rc ha hc ma mc wx (HX.out.sd.below _ _ _ _ _ _ h)
          rw [decide_eq_true HM.out] at HMAY
          go_wp2_with (first | (go_at_call 19; refine (HT.out wr).mono ?_; rintro e w4 ⟨rfl, hb4⟩; have HB4 := Lib.hid hb4; clear x0 x1 x2 x3 x4; obtain ⟨⟨x0, x1, x2, x3, x4⟩, -⟩ := box5 (box_bl HX.out.bx hb4); clear hb4) | (go_at_call 24; refine (HMAY.out _ HB4.out).mono ?_; rintro e w5 ⟨rfl, hb5⟩; have HB5 := Lib.hid (HB4.out.trans (hb5.mono HB4.out.size)); clear hb5))
          go_ret
          exact ⟨rfl, HB00.out.trans ((HB.out.trans (HB5.out.mono HB.out.size)).mono HB00.out.size)⟩
end Go.Proofs.Ythohjcfpobeplaa.Sh
