/-
  Law 12's ShardTags, walked.
-/
import Derived.Test.YthohjcfpobeplaaShStep
import Derived.Test.YthohjcfpobeplaaShTold
namespace Go.Proofs.Ythohjcfpobeplaa.Sh
open Go.RowKit Rg Go.Sort
set_option linter.unusedVariables false
set_option linter.unusedSimpArgs false

def tagsRel (W : World) (l : List OpD) (g : Nat) (m : Nat) (v5 v6 : Value) (wr : World) : Prop :=
  ∃ (i : Nat) (top : Int), i ≤ l.length ∧ m = l.length - i ∧ v6 = .int .i64 i ∧ v5 = .int .i64 top ∧ 0 ≤ top ∧ top < (play7 (l.take i)).nx ∧ Below W.heap.size W wr ∧ ∃ ra rc ha hc ma mc ra2 rc2 ha2 hc2 ma2 mc2, Bx wr g ra rc ha hc ma mc (play7 (l.take i)) ∧ Bx wr (g + 1) ra2 rc2 ha2 hc2 ma2 mc2 (play7 (l.take i))
def tagRel (W : World) (s : Sd) (m : Nat) (v5 v9 : Value) (wr : World) : Prop :=
  ∃ (k : Nat) (top : Int), k ≤ s.hd.length ∧ m = s.hd.length - k ∧ v9 = .int .i64 k ∧ v5 = .int .i64 top ∧ 0 ≤ top ∧ top < s.nx ∧ Below W.heap.size W wr

set_option maxRecDepth 100000 in
set_option maxHeartbeats 4000000 in
theorem tags_any (a : Option Addr) (cap : Nat) (l : List OpD) (w : World) (w0 : OpsAt w a cap l) :
    Calls Try.prog 10 #[.slice a l.length cap] w fun e w' => e = .returned (.bool true) ∧ Below w.heap.size w w' := by
  have HT := Lib.hid told_any
  have HO := Lib.hid w0
  have hcap := w0.max
  have hlen := w0.len
  clear w0
  by_cases h120 : (100 : Int) < (l.length : Int)
  · go_enter Try.func10, Try.ntmps10
    go_wp2_with fail
    refine (HT.out w).mono ?_
    rintro e w2 ⟨rfl, hb⟩
    have HB3 := Lib.hid hb
    clear hb
    go_wp2_with fail
    go_ret
    exact ⟨rfl, HB3.out⟩
  have hl9 : l.length ≤ 100 := by omega
  go_enter Try.func10, Try.ntmps10
  go_wp2_with fail
  refine (new_any w).mono ?_
  rintro e w1 ⟨rfl, hb1⟩
  have HB1 := Lib.hid hb1
  clear hb1
  go_wp2_with fail
  refine (rnew_any w1).mono ?_
  rintro e w2 ⟨rfl, hb2⟩
  have HB2 := Lib.hid (HB1.out.trans (hb2.mono HB1.out.size))
  clear hb2
  go_wp2_with fail
  obtain ⟨p1, p2, p3, p4⟩ := two_box (w := w2) (.cells #[.bool false, .int .i64 1, .slice none 0 0, .slice none 0 0, .slice none 0 0] 26) (.cells #[.bool false, .int .i64 1, .slice none 0 0, .slice none 0 0, .slice none 0 0] 26)
  generalize (w2.alloc (.cells #[.bool false, .int .i64 1, .slice none 0 0, .slice none 0 0, .slice none 0 0] 26)).alloc (.cells #[.bool false, .int .i64 1, .slice none 0 0, .slice none 0 0, .slice none 0 0] 26) = W3 at *
  have HX0 := Lib.hid (show Bx W3 w2.heap.size none 0 none 0 none 0 sd1 from ⟨p1, sd_nil _⟩)
  have HY0 := Lib.hid (show Bx W3 (w2.heap.size + 1) none 0 none 0 none 0 sd1 from ⟨p2, sd_nil _⟩)
  have HB3 := Lib.hid (HB2.out.trans (p3.mono HB2.out.size))
  have hg1 : w.heap.size ≤ w2.heap.size := HB2.out.size
  clear p1 p2 p3 p4
  generalize w2.heap.size = g at *
  go_loopg [5, 6] l.length (tagsRel w l g)
  case atStart => exact ⟨0, 0, Nat.zero_le _, rfl, rfl, rfl, Int.le_refl _, (by show (0 : Int) < 1; decide), HB3.out, none, 0, none, 0, none, 0, none, 0, none, 0, none, 0, HX0.out, HY0.out⟩
  case round =>
    obtain ⟨i, top, hi, rfl, rfl, rfl, ht0, ht1, hb, ra, rc, ha, hc, ma, mc, ra2, rc2, ha2, hc2, ma2, mc2, hx, hy⟩ := hrel
    have HB4 := Lib.hid hb
    have HX := Lib.hid hx
    have HY := Lib.hid hy
    clear HX0 HY0 HB3 hb hx hy
    by_cases hlt : i < l.length
    · have h1 : (i : Int) < (l.length : Int) := by omega
      have h0i : (0 : Int) ≤ (i : Int) := by omega
      have h2 : IntKind.i64.wrap ((i : Int) + 1) = (i : Int) + 1 := IntWalk.i64_in _ (by omega)
      have wi : IntKind.i64.wrap (i : Int) = (i : Int) := IntWalk.i64_in _ (by omega)
      have HPS := Lib.hid (play7_snoc l i hlt)
      have HPM := Lib.hid (play7_may (l.take i))
      obtain ⟨bb, oo, haa, hcc⟩ := (HO.out.below HB4.out).at' (by omega)
      subst haa
      obtain ⟨ao, co, ⟨c0, c1, c2, c3, c4, c5⟩, hop⟩ := hcc i hlt
      have HOP := Lib.hid (show OpAt wr ao co (op7 l[i]) from ⟨hop.at', hop.nil⟩)
      have HK9 := Lib.hid (op7_kd l[i])
      have HSN := Lib.hid (step_nx (play7 (l.take i)) (op7 l[i]))
      clear hcc hop
      generalize play7 (l.take i) = s at *
      obtain ⟨hk1, hk2⟩ := u64_mod l[i].kind 7 (by decide)
      rw [show ((7 : Nat) : Int) = 7 from rfl] at hk1
      have hko : (op7 l[i]).kind = (u64m l[i].kind 7 : Nat) := rfl
      have hkp : (op7 l[i]).pub = l[i].pub := rfl
      have hkk : (op7 l[i]).key = l[i].key := rfl
      have hkm : (op7 l[i]).many = l[i].many := rfl
      have hkn : (op7 l[i]).n = l[i].n := rfl
      have hkl : (op7 l[i]).l = l[i].l := rfl
      have HKO := Lib.hid (And.intro hko (And.intro hkp (And.intro hkk (And.intro hkm (And.intro hkn hkl)))))
      clear hko hkp hkk hkm hkn hkl
      generalize op7 l[i] = o at *
      generalize l[i] = x at *
      generalize u64m x.kind 7 = kd at *
      have wkd : IntKind.i64.wrap (kd : Int) = (kd : Int) := IntWalk.i64_in _ (by omega)
      obtain ⟨⟨x0, x1, x2, x3, x4⟩, -⟩ := box5 HX.out.bx
      obtain ⟨⟨y0, y1, y2, y3, y4⟩, -⟩ := box5 HY.out.bx
      obtain ⟨g0, g1, g2⟩ := box_lt HX.out.bx
      obtain ⟨g3, g4, g5⟩ := box_lt HY.out.bx
      have HDO : Hid (∀ wx, SdAt wx ra rc ha hc ma mc s → SdAt wx ra2 rc2 ha2 hc2 ma2 mc2 s → OpAt wx ao co o → Calls Try.prog 40 #[.agg #[.bool s.fr, .int .i64 s.nx, .slice ra s.rd.length rc, .slice ha s.hd.length hc, .slice ma s.ms.length mc], .agg #[.bool s.fr, .int .i64 s.nx, .slice ra2 s.rd.length rc2, .slice ha2 s.hd.length hc2, .slice ma2 s.ms.length mc2], .agg #[.int .i64 kd, .int .i64 x.pub, .int .i64 x.key, .int .i64 x.many, .int .i64 x.n, .slice ao x.l.length co]] wx (DoR s o wx)) := Lib.hid (fun wx h1 h2 h3 => by
        have h := do_any s ra rc ha hc ma mc ra2 rc2 ha2 hc2 ma2 mc2 o ao co HPM.out (fun e => absurd e (by have := HK9.out; omega)) wx h1 h2 h3
        rwa [HKO.out.1, HKO.out.2.1, HKO.out.2.2.1, HKO.out.2.2.2.1, HKO.out.2.2.2.2.1, HKO.out.2.2.2.2.2] at h)
      obtain ⟨t1, t2, t3⟩ := one_box (w := wr) (.cells #[.int .i64 kd, .int .i64 x.pub, .int .i64 x.key, .int .i64 x.many, .int .i64 x.n, .slice ao x.l.length co] 48)
      have HX4 := Lib.hid (HX.out.below _ _ _ _ _ _ t2)
      have HY4 := Lib.hid (HY.out.below _ _ _ _ _ _ t2)
      have HOP4 := Lib.hid (HOP.out.below t2)
      have HG4 := Lib.hid t2
      clear t1 t2 t3
      have hnA : ¬ (stepF s o).nx < s.nx := by have := HSN.out; omega
      have hnB : ¬ s.nx + 1 < (stepF s o).nx := by have := HSN.out; omega
      have wn : IntKind.i64.wrap (s.nx + 1) = s.nx + 1 := IntWalk.i64_in _ (by have := HPM.out.1; have := HPM.out.2.1; omega)
      go_wp2_with (go_at_call 40; refine (HDO.out _ HX4.out.sd HY4.out.sd HOP4.out).mono ?_; rintro e w7 ⟨ra3, rc3, ha3, hc3, ma3, mc3, ra4, rc4, ha4, hc4, ma4, mc4, rfl, hs3, hs4, hb7⟩; have HB7 := Lib.hid hb7; have HS3 := Lib.hid hs3; have HS4 := Lib.hid hs4; clear hs3 hs4 hb7; obtain ⟨⟨u0, u1, u2, u3, u4⟩, q0, q1, q2, q3, q4⟩ := box5 (box_bl HX4.out.bx HB7.out); obtain ⟨⟨z0, z1, z2, z3, z4⟩, r0, r1, r2, r3, r4⟩ := box5 (box_bl HY4.out.bx HB7.out))
      generalize hE : World.setCell (World.setCell (World.setCell (World.setCell (World.setCell w7 _ _) _ _) _ _) _ _) _ _ = E
      have hE' : set5 w7 g (.bool (stepF s o).fr) (.int .i64 (stepF s o).nx) (.slice ra3 (stepF s o).rd.length rc3) (.slice ha3 (stepF s o).hd.length hc3) (.slice ma3 (stepF s o).ms.length mc3) = E := hE
      clear hE
      generalize hF : World.setCell (World.setCell (World.setCell (World.setCell (World.setCell E _ _) _ _) _ _) _ _) _ _ = F
      have hF' : set5 E (g + 1) (.bool (stepF s o).fr) (.int .i64 (stepF s o).nx) (.slice ra4 (stepF s o).rd.length rc4) (.slice ha4 (stepF s o).hd.length hc4) (.slice ma4 (stepF s o).ms.length mc4) = F := hF
      clear hF
      have k1 := box_bl HX4.out.bx HB7.out
      have k2 := box_bl HY4.out.bx HB7.out
      have gE : E.heap[g]? = _ := hE' ▸ set5_box k1 _ _ _ _ _
      have gE1 : E.heap[g + 1]? = _ := hE' ▸ (set5_heap _ _ _ _ _ _ _ _ (by omega)).trans k2
      have gF : F.heap[g]? = _ := hF' ▸ (set5_heap _ _ _ _ _ _ _ _ (by omega)).trans gE
      have gF1 : F.heap[g + 1]? = _ := hF' ▸ set5_box gE1 _ _ _ _ _
      have e3 : SdAt F ra3 rc3 ha3 hc3 ma3 mc3 (stepF s o) := hF' ▸ sd_keep _ _ _ _ _ _ (hE' ▸ sd_keep _ _ _ _ _ _ HS3.out k1 fun b hb => set5_heap _ _ _ _ _ _ _ _ hb) gE1 fun b hb => set5_heap _ _ _ _ _ _ _ _ hb
      have e4 : SdAt F ra4 rc4 ha4 hc4 ma4 mc4 (stepF s o) := hF' ▸ sd_keep _ _ _ _ _ _ (hE' ▸ sd_keep _ _ _ _ _ _ HS4.out k1 fun b hb => set5_heap _ _ _ _ _ _ _ _ hb) gE1 fun b hb => set5_heap _ _ _ _ _ _ _ _ hb
      have hw7 : Below w.heap.size w w7 := (HB4.out.trans (HG4.out.mono HB4.out.size)).trans (HB7.out.mono (Nat.le_trans HB4.out.size HG4.out.size))
      have hbF : Below w.heap.size w F := hF' ▸ set5_below (hE' ▸ set5_below hw7 hg1 _ _ _ _ _) (Nat.le_succ_of_le hg1) _ _ _ _ _
      have HXF := Lib.hid (show Bx F g ra3 rc3 ha3 hc3 ma3 mc3 (stepF s o) from ⟨gF, e3⟩)
      have HYF := Lib.hid (show Bx F (g + 1) ra4 rc4 ha4 hc4 ma4 mc4 (stepF s o) from ⟨gF1, e4⟩)
      have HBF := Lib.hid hbF
      have HMS := Lib.hid (step_may o HPM.out)
      have ht2 : top < (stepF s o).nx := by omega
      clear hE' hF' k1 k2 gE gE1 gF gF1 e3 e4 hw7 hbF HDO HX4 HY4 HOP4 HG4 HB7 HS3 HS4 u0 u1 u2 u3 u4 q0 q1 q2 q3 q4 z0 z1 z2 z3 z4 r0 r1 r2 r3 r4 x0 x1 x2 x3 x4 y0 y1 y2 y3 y4 c0 c1 c2 c3 c4 c5 hnA hnB wn HSN
      generalize stepF s o = S at *
      go_loopg [5, 9] S.hd.length (tagRel F S)
      case atStart => exact ⟨0, top, Nat.zero_le _, rfl, rfl, rfl, ht0, ht2, Below.refl _ _⟩
      case round =>
        obtain ⟨k, tp, hk, rfl, rfl, rfl, hp0, hp1, hbk⟩ := hrel
        have HBK := Lib.hid hbk
        obtain ⟨⟨y0, y1, y2, y3, y4⟩, -⟩ := box5 (box_bl HXF.out.bx hbk)
        clear hbk
        have hl48 : S.hd.length ≤ 1000 := HXF.out.sd.sm.2.1
        by_cases hkl : k < S.hd.length
        case pos =>
          have hkli : (k : Int) < (S.hd.length : Int) := by omega
          have h0k : (0 : Int) ≤ (k : Int) := by omega
          have wk : IntKind.i64.wrap ((k : Int) + 1) = (k : Int) + 1 := IntWalk.i64_in _ (by omega)
          obtain ⟨hb9, ho9, rfl, e0, e1, e2, e3, e4, e5⟩ := HdsAt.get (HXF.out.sd.below _ _ _ _ _ _ HBK.out).hd k hkl
          have htk := HMS.out.2.2.2.2.2.2.1 _ (List.getElem_mem hkl)
          by_cases hk0 : 0 < k
          case pos =>
            have hk1 : k - 1 < S.hd.length := by omega
            obtain ⟨hb8, ho8, hee, d0, d1, d2, d3, d4, d5⟩ := HdsAt.get (HXF.out.sd.below _ _ _ _ _ _ HBK.out).hd (k - 1) hk1
            injection hee with hee
            injection hee with hee1 hee2
            subst hee1
            subst hee2
            have hlt2 : S.hd[k - 1].tag < S.hd[k].tag := by
              have := HMS.out.2.2.2.2.2.2.2.1
              rw [List.pairwise_iff_getElem] at this
              exact this (k - 1) k hk1 hkl (by omega)
            have wk1 : IntKind.i64.wrap ((k : Int) - 1) = ((k - 1 : Nat) : Int) := by rw [IntWalk.i64_in _ (by omega)]; omega
            have hk1i : ((k - 1 : Nat) : Int) < (S.hd.length : Int) := by omega
            have h0k1 : (0 : Int) ≤ ((k - 1 : Nat) : Int) := by omega
            have q1 : decide ((0 : Int) < (k : Int)) = true := decide_eq_true (by omega)
            have q2 : decide (S.nx ≤ S.hd[k].tag) = false := decide_eq_false (by omega)
            have q3 : decide (S.hd[k].tag ≤ S.hd[k - 1].tag) = false := decide_eq_false (by omega)
            generalize S.hd[k].tag = tk at *
            generalize S.hd[k - 1].tag = tj at *
            generalize k - 1 = j at *
            go_wp2_with fail
            go_quiet (fail)
            go_wp2_with fail
            go_roundg (S.hd.length - (k + 1))
            case measure => omega
            case rel => exact ⟨k + 1, max tp tk, by omega, rfl, by go_num, rfl, by omega, by omega, HBK.out.trans ((Below.drewN (Below.refl _ _) _).mono HBK.out.size)⟩
          case neg =>
            have q1 : decide ((0 : Int) < (k : Int)) = false := decide_eq_false (by omega)
            have q2 : decide (S.nx ≤ S.hd[k].tag) = false := decide_eq_false (by omega)
            generalize S.hd[k].tag = tk at *
            go_wp2_with fail
            go_quiet (fail)
            go_wp2_with fail
            go_roundg (S.hd.length - (k + 1))
            case measure => omega
            case rel => exact ⟨k + 1, max tp tk, by omega, rfl, by go_num, rfl, by omega, by omega, HBK.out.trans ((Below.drewN (Below.refl _ _) _).mono HBK.out.size)⟩
        case neg =>
          obtain rfl : k = S.hd.length := by omega
          have hkli : ¬ (S.hd.length : Int) < (S.hd.length : Int) := by omega
          have hxr := HXF.out.below _ _ _ _ _ _ HBK.out
          have hyr := HYF.out.below _ _ _ _ _ _ HBK.out
          have hbr := HBF.out.trans (HBK.out.mono HBF.out.size)
          have HFIN := Lib.hid (And.intro hxr (And.intro hyr hbr))
          clear hxr hyr hbr
          go_wp2_with fail
          go_roundg (l.length - (i + 1))
          case measure => omega
          case rel => exact ⟨i + 1, tp, by omega, rfl, by go_num, rfl, hp0, by rw [HPS.out]; exact hp1, HFIN.out.2.2, _, _, _, _, _, _, _, _, _, _, _, _, by rw [HPS.out]; exact HFIN.out.1, by rw [HPS.out]; exact HFIN.out.2.1⟩
    · obtain rfl : i = l.length := by omega
      have h1 : ¬ ((l.length : Int) < (l.length : Int)) := by omega
      have hdt : decide (top < (play7 (l.take l.length)).nx) = true := decide_eq_true ht1
      generalize play7 (l.take l.length) = S at *
      go_wp2_with fail
      refine (HT.out wr).mono ?_
      rintro e w4 ⟨rfl, hb⟩
      have hx := HX.out.below _ _ _ _ _ _ hb
      obtain ⟨⟨b0, b1, b2, b3, b4⟩, -⟩ := box5 hx.bx
      have HB5 := Lib.hid (HB4.out.trans (hb.mono HB4.out.size))
      clear hb hx
      go_wp2_with fail
      go_ret
      exact ⟨rfl, HB5.out⟩

end Go.Proofs.Ythohjcfpobeplaa.Sh
