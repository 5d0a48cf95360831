/-
  slip.get, walked.
  slip.Apply of records that may be, walked (printed by tools/gen_slapp.py p).
  slip.Open of records that may be, walked.
-/
import Derived.Test.YthohjcfpobeplaaSlMay
import Derived.Test.YthohjcfpobeplaaShGetG
import Derived.Test.YthohjcfpobeplaaShKeep
import Derived.Deep.CutRange
import Derived.Deep.CutBlock
import Derived.Test.YthohjcfpobeplaaShAck
import Derived.Test.YthohjcfpobeplaaShPut
import Derived.Deep.RegionLaw
import Derived.Test.YthohjcfpobeplaaShTurn

namespace Go.Proofs.Ythohjcfpobeplaa.Sl
open Go.RowKit Rg Sh
set_option linter.unusedVariables false
set_option linter.unusedSimpArgs false

theorem sho_shr {s' : Sd} {c : Int} {w : World} {e : Ending} {w' : World} (h : ShO s' c w e w') : ShR s' c w e w' := by
  obtain ⟨ra, rc, ha, hc, ma, mc, rfl, ho, hsm, hb⟩ := h
  exact ⟨_, _, _, _, _, _, rfl, ho.sd _ _ _ _ _ _ hsm, hb⟩
/-- the answer laid into the result's box. -/
theorem app_end {w w3 : World} {g : Nat} {S : Sd} (C : Int) (ra3 : Option Addr) (rc3 : Nat) (ha3 : Option Addr) (hc3 : Nat) (ma3 : Option Addr) (mc3 : Nat) (x y z u v : Value) (hb : Below w.heap.size w w3) (hg : w.heap.size ≤ g) (hz : w3.heap[g]? = some (.cells #[.bool false, .int .i64 0, .slice none 0 0, .slice none 0 0, .slice none 0 0] 26 (0, 0))) (hs : SdAt w3 ra3 rc3 ha3 hc3 ma3 mc3 S) :
    ShR S C w (.returned (.tuple #[.agg #[.bool S.fr, .int .i64 S.nx, .slice ra3 S.rd.length rc3, .slice ha3 S.hd.length hc3, .slice ma3 S.ms.length mc3], .int .i64 C])) (set5 w3 g x y z u v) :=
  shr_of _ _ _ _ _ _ (sd_keep _ _ _ _ _ _ hs hz fun b hb => set5_heap _ _ _ _ _ _ _ _ hb) (set5_below hb hg _ _ _ _ _)
theorem three_box {w : World} (o1 o2 o3 : Obj) : (((w.alloc o1).alloc o2).alloc o3).heap[w.heap.size]? = some o1 ∧ (((w.alloc o1).alloc o2).alloc o3).heap[w.heap.size + 1]? = some o2 ∧ (((w.alloc o1).alloc o2).alloc o3).heap[w.heap.size + 1 + 1]? = some o3 ∧ Below w.heap.size w (((w.alloc o1).alloc o2).alloc o3) ∧ (((w.alloc o1).alloc o2).alloc o3).heap.size = w.heap.size + 3 := by
  obtain ⟨h1, h2, h3, h4⟩ := two_box (w := w) o1 o2
  refine ⟨box_al h1 o3, box_al h2 o3, ?_, h3.alloc (by rw [h4]; omega) _, by simp⟩
  have := heap_alloc_new ((w.alloc o1).alloc o2) o3
  rwa [h4] at this

set_option maxRecDepth 100000 in
set_option maxHeartbeats 4000000 in
theorem sget_any (s : Sd) (t : Int) (ra : Option Addr) (rc : Nat) (ha : Option Addr) (hc : Nat) (ma : Option Addr) (mc : Nat) (w : World) (hs : SdAt w ra rc ha hc ma mc s) : Calls Try.prog 126 #[.agg #[.bool s.fr, .int .i64 s.nx, .slice ra s.rd.length rc, .slice ha s.hd.length hc, .slice ma s.ms.length mc], .int .i64 t] w
    (ShR (if getC s = 0 ∧ s.nx ≠ t then s else getS s) (if getC s = 0 ∧ s.nx ≠ t then 1 else getC s) w) := by
  obtain ⟨hx, hy, hb0, hWs⟩ := two_box (w := w) (.cells #[.bool s.fr, .int .i64 s.nx, .slice ra s.rd.length rc, .slice ha s.hd.length hc, .slice ma s.ms.length mc] 26) (.cells #[.bool false, .int .i64 0, .slice none 0 0, .slice none 0 0, .slice none 0 0] 26)
  obtain ⟨W, hW⟩ : ∃ W, W = (w.alloc (.cells #[.bool s.fr, .int .i64 s.nx, .slice ra s.rd.length rc, .slice ha s.hd.length hc, .slice ma s.ms.length mc] 26)).alloc (.cells #[.bool false, .int .i64 0, .slice none 0 0, .slice none 0 0, .slice none 0 0] 26) := ⟨_, rfl⟩
  rw [← hW] at hx hy hb0 hWs
  have HBX := Lib.hid (boxes ra rc ha hc ma mc hx hy (by omega))
  have HB0 := Lib.hid hb0
  have HWS := Lib.hid hWs
  have HS1 := Lib.hid (hs.below ra rc ha hc ma mc hb0)
  have HW := Lib.hid hW
  have HG := Lib.hid (get_any s ra rc ha hc ma mc W HS1.out)
  unfold GetR at HG
  rw [hW] at HG
  have HOWN := Lib.hid fun wx (hx : Below W.heap.size W wx) => own2_any s ra rc ha hc ma mc wx (HS1.out.below _ _ _ _ _ _ hx)
  obtain ⟨⟨c0, c1, c2, c3, c4⟩, -⟩ := box5 hx
  rw [hW] at c0 c1 c2 c3 c4
  have HTG : Hid (getC s = 0 → (getH s).tag = s.nx) := Lib.hid fun h => by unfold getH; rw [if_pos h]
  clear hs hx hy hb0 hWs hW
  go_enter Try.func126, Try.ntmps126
  go_upto_region 2 with (go_at_call 22; refine HG.out.mono ?_; rintro e w1 ⟨ra1, rc1, ha1, hc1, ma1, mc1, rfl, ho1, hsm1, hb1⟩; rw [← HW.out] at hb1; have HO1 := Lib.hid ho1; have HSM1 := Lib.hid hsm1; have HB1 := Lib.hid hb1; clear ho1 hsm1 hb1)
  clear c0 c1 c2 c3 c4
  obtain ⟨p1, p2, p3, p4⟩ := two_box (w := w1) (.cells #[.bool (getS s).fr, .int .i64 (getS s).nx, .slice ra1 (getS s).rd.length rc1, .slice ha1 (getS s).hd.length hc1, .slice ma1 (getS s).ms.length mc1] 26) (.cells #[.int .i64 (getH s).tag, .int .i64 ((getH s).m).pub, .int .i64 ((getH s).m).seq, .string ⟨((getH s).m).key.toArray⟩, .string ⟨((getH s).m).body.toArray⟩, .bool ((getH s).m).again] 37)
  generalize (w1.alloc (.cells #[.bool (getS s).fr, .int .i64 (getS s).nx, .slice ra1 (getS s).rd.length rc1, .slice ha1 (getS s).hd.length hc1, .slice ma1 (getS s).ms.length mc1] 26)).alloc (.cells #[.int .i64 (getH s).tag, .int .i64 ((getH s).m).pub, .int .i64 ((getH s).m).seq, .string ⟨((getH s).m).key.toArray⟩, .string ⟨((getH s).m).body.toArray⟩, .bool ((getH s).m).again] 37) = W2 at *
  have hb2 : Below W.heap.size W W2 := HB1.out.trans (p3.mono HB1.out.size)
  have HB2 := Lib.hid hb2
  have HSG := Lib.hid ((HO1.out.sd _ _ _ _ _ _ HSM1.out).below _ _ _ _ _ _ p3)
  have HY2 := Lib.hid (HBX.out _ hb2).2
  obtain ⟨⟨a0, a1, a2, a3, a4⟩, -⟩ := box5 (HBX.out _ hb2).1
  obtain ⟨⟨d0, d1, d2, d3, d4⟩, k0, k1, k2, k3, k4⟩ := box5 HY2.out
  obtain ⟨⟨g0, g1, g2, g3, g4⟩, -⟩ := box5 p1
  obtain ⟨⟨h0, h1, h2, h3, h4, h5⟩, -⟩ := box6 p2
  have q0 := (box_lt (HBX.out _ hb2).1).2.1
  have q1 := (box_lt HY2.out).2.1
  clear p1 p2 p3 p4 hb2 HO1 HSM1 HG
  by_cases hc : getC s = 0
  · have e1 : (getC s == 0) = true := by rw [beq_iff_eq]; exact hc
    by_cases hn : s.nx = t
    · have HR : Hid (¬ (getC s = 0 ∧ s.nx ≠ t)) := Lib.hid fun g => g.2 hn
      rw [if_neg HR.out, if_neg HR.out]
      have e2 : ((getH s).tag != t) = false := by rw [bne_eq_false_iff_eq, HTG.out hc, hn]
      clear hc hn
      go_wp2_with fail
      refine bodyPost_ret (v := .tuple #[.agg #[.bool (getS s).fr, .int .i64 (getS s).nx, .slice ra1 (getS s).rd.length rc1, .slice ha1 (getS s).hd.length hc1, .slice ma1 (getS s).ms.length mc1], .int .i64 (getC s)]) (res_sd (i := 4) (j := 5) (g := w.heap.size + 1) Try.results126 rfl rfl (set5_box HY2.out _ _ _ _ _)) rfl ?_
      exact app_end _ _ _ _ _ _ _ _ _ _ _ _ (HB0.out.trans (HB2.out.mono HB0.out.size)) (Nat.le_succ _) HY2.out HSG.out
    · have HR : Hid (getC s = 0 ∧ s.nx ≠ t) := Lib.hid ⟨hc, hn⟩
      rw [if_pos HR.out, if_pos HR.out]
      have e2 : ((getH s).tag != t) = true := by rw [bne_iff_ne, HTG.out hc]; exact hn
      clear hc hn
      go_wp2_with (go_at_call 64; refine (HOWN.out _ HB2.out).mono ?_; rintro e w3 ⟨ra3, rc3, ha3, hc3, ma3, mc3, rfl, ho3, hb3⟩; have HB3 := Lib.hid (HB2.out.trans (hb3.mono HB2.out.size)); have HO3 := Lib.hid (ho3.sd _ _ _ _ _ _ HS1.out.sm); have HY3 := Lib.hid (HBX.out _ HB3.out).2; obtain ⟨⟨d0, d1, d2, d3, d4⟩, k0, k1, k2, k3, k4⟩ := box5 HY3.out; clear ho3 hb3)
      refine bodyPost_ret (v := .tuple #[.agg #[.bool s.fr, .int .i64 s.nx, .slice ra3 s.rd.length rc3, .slice ha3 s.hd.length hc3, .slice ma3 s.ms.length mc3], .int .i64 1]) (res_sd (i := 4) (j := 5) (g := w.heap.size + 1) Try.results126 rfl rfl (set5_box HY3.out _ _ _ _ _)) rfl ?_
      exact app_end _ _ _ _ _ _ _ _ _ _ _ _ (HB0.out.trans (HB3.out.mono HB0.out.size)) (Nat.le_succ _) HY3.out HO3.out
  · have HR : Hid (¬ (getC s = 0 ∧ s.nx ≠ t)) := Lib.hid fun g => hc g.1
    rw [if_neg HR.out, if_neg HR.out]
    have e1 : (getC s == 0) = false := by rw [beq_eq_false_iff_ne]; exact hc
    clear hc
    go_wp2_with fail
    refine bodyPost_ret (v := .tuple #[.agg #[.bool (getS s).fr, .int .i64 (getS s).nx, .slice ra1 (getS s).rd.length rc1, .slice ha1 (getS s).hd.length hc1, .slice ma1 (getS s).ms.length mc1], .int .i64 (getC s)]) (res_sd (i := 4) (j := 5) (g := w.heap.size + 1) Try.results126 rfl rfl (set5_box HY2.out _ _ _ _ _)) rfl ?_
    exact app_end _ _ _ _ _ _ _ _ _ _ _ _ (HB0.out.trans (HB2.out.mono HB0.out.size)) (Nat.le_succ _) HY2.out HSG.out

end Go.Proofs.Ythohjcfpobeplaa.Sl

namespace Go.Proofs.Ythohjcfpobeplaa.Sl
open Go.RowKit Rg Sh
set_option linter.unusedVariables false
set_option linter.unusedSimpArgs false

set_option maxRecDepth 100000 in
set_option maxHeartbeats 4000000 in
theorem app_put (s : Sd) (ra2 : Option Addr) (rc2 : Nat) (ha2 : Option Addr) (hc2 : Nat) (ma2 : Option Addr) (mc2 : Nat) (bt : List Mg) (ba : Option Addr) (bc : Nat) (ra : Option Addr) (rc : Nat) (ha : Option Addr) (hc : Nat) (ma : Option Addr) (mc : Nat) (w : World) (hs : SdAt w ra2 rc2 ha2 hc2 ma2 mc2 s) (hr : RcAt w ba bc ra rc ha hc ma mc ⟨1, 0, false, bt, ⟨false, 0, [], [], []⟩⟩) (h1 : 1 ≤ bt.length) (h2 : bt.length ≤ 8) (h3 : ∀ m ∈ bt, MayMg m) :
    Calls Try.prog 102 #[.agg #[.bool s.fr, .int .i64 s.nx, .slice ra2 s.rd.length rc2, .slice ha2 s.hd.length hc2, .slice ma2 s.ms.length mc2], .agg #[.int .i64 1, .int .i64 0, .bool false, .slice ba bt.length bc, .bool false, .int .i64 0, .slice ra 0 rc, .slice ha 0 hc, .slice ma 0 mc]] w (ShR (putS s bt) (putC s bt) w) := by
  obtain ⟨hx, hy, hz, hb0, hWs⟩ := three_box (w := w) (.cells #[.bool s.fr, .int .i64 s.nx, .slice ra2 s.rd.length rc2, .slice ha2 s.hd.length hc2, .slice ma2 s.ms.length mc2] 26) (.cells #[.int .i64 1, .int .i64 0, .bool false, .slice ba bt.length bc, .bool false, .int .i64 0, .slice ra 0 rc, .slice ha 0 hc, .slice ma 0 mc] 89) (.cells #[.bool false, .int .i64 0, .slice none 0 0, .slice none 0 0, .slice none 0 0] 26)
  obtain ⟨W, hW⟩ : ∃ W, W = ((w.alloc (.cells #[.bool s.fr, .int .i64 s.nx, .slice ra2 s.rd.length rc2, .slice ha2 s.hd.length hc2, .slice ma2 s.ms.length mc2] 26)).alloc (.cells #[.int .i64 1, .int .i64 0, .bool false, .slice ba bt.length bc, .bool false, .int .i64 0, .slice ra 0 rc, .slice ha 0 hc, .slice ma 0 mc] 89)).alloc (.cells #[.bool false, .int .i64 0, .slice none 0 0, .slice none 0 0, .slice none 0 0] 26) := ⟨_, rfl⟩
  rw [← hW] at hx hy hz hb0 hWs
  have HB0 := Lib.hid hb0
  have HW := Lib.hid hW
  have HWS := Lib.hid hWs
  have HS1 := Lib.hid (hs.below ra2 rc2 ha2 hc2 ma2 mc2 hb0)
  have HR1 := Lib.hid (RcAt.below ba bc ra rc ha hc ma mc hr hb0)
  have HBX := Lib.hid (fun (wx : World) (h : Below W.heap.size W wx) => And.intro (box5 (box_bl hx h)).1 (And.intro (box9 (box_bl hy h)).1 (box_bl hz h)))
  have HMAY := Lib.hid (may_put bt ba bc ra rc ha hc ma mc W HR1.out h1 h2 h3)
  rw [hW] at HMAY
  have HD0 : Hid (Below W.heap.size W (((w.alloc (.cells #[.bool s.fr, .int .i64 s.nx, .slice ra2 s.rd.length rc2, .slice ha2 s.hd.length hc2, .slice ma2 s.ms.length mc2] 26)).alloc (.cells #[.int .i64 1, .int .i64 0, .bool false, .slice ba bt.length bc, .bool false, .int .i64 0, .slice ra 0 rc, .slice ha 0 hc, .slice ma 0 mc] 89)).alloc (.cells #[.bool false, .int .i64 0, .slice none 0 0, .slice none 0 0, .slice none 0 0] 26))) := Lib.hid (by rw [← hW]; exact Below.refl _ _)
  have HLE := Lib.hid h2
  obtain ⟨⟨c0, c1, c2, c3, c4⟩, ⟨x0, x1, x2, x3, x4, x5, x6, x7, x8⟩, -⟩ := HBX.out _ HD0.out
  have HF : Hid (∀ wx, Below W.heap.size W wx → Calls Try.prog 20 #[.agg #[.bool s.fr, .int .i64 s.nx, .slice ra2 s.rd.length rc2, .slice ha2 s.hd.length hc2, .slice ma2 s.ms.length mc2], .slice ba bt.length bc] wx (ShR (putS s bt) (putC s bt) wx)) := Lib.hid fun wx (h : Below W.heap.size W wx) => ((put_any s ra2 rc2 ha2 hc2 ma2 mc2 ba bc bt (Nat.le_trans HLE.out (by decide)) wx (HS1.out.below _ _ _ _ _ _ h) (HR1.out.bt.below h) HR1.out.bn).mono fun e w' h => sho_shr h)
  generalize putS s bt = S at *
  generalize putC s bt = C at *
  clear hs hr hx hy hz hb0 hW hWs h1 h2 h3
  go_enter Try.func102, Try.ntmps102
  go_wp2_with (first | (go_at_call 100; refine HMAY.out.mono ?_; rintro e w1 ⟨rfl, hd⟩; rw [← HW.out] at hd; have HD1 := Lib.hid hd; clear hd; obtain ⟨⟨c0, c1, c2, c3, c4⟩, ⟨x0, x1, x2, x3, x4, x5, x6, x7, x8⟩, hzz⟩ := HBX.out _ HD1.out; have HZ := Lib.hid hzz; obtain ⟨⟨d0, d1, d2, d3, d4⟩, k0, k1, k2, k3, k4⟩ := box5 hzz; clear hzz) | (go_at_call 20; refine (HF.out _ HD1.out).mono ?_; rintro e w3 ⟨ra3, rc3, ha3, hc3, ma3, mc3, rfl, hs3, hb3⟩; have HB3 := Lib.hid (HD1.out.trans (hb3.mono HD1.out.size)); have HS3 := Lib.hid hs3; have HZ3 := Lib.hid (HBX.out _ HB3.out).2.2; obtain ⟨⟨d0, d1, d2, d3, d4⟩, k0, k1, k2, k3, k4⟩ := box5 HZ3.out; clear hs3 hb3))
  refine bodyPost_ret (v := .tuple #[.agg #[.bool S.fr, .int .i64 S.nx, .slice ra3 S.rd.length rc3, .slice ha3 S.hd.length hc3, .slice ma3 S.ms.length mc3], .int .i64 C]) (res_sd (i := 4) (j := 5) (g := w.heap.size + 1 + 1) Try.results102 rfl rfl (set5_box HZ3.out _ _ _ _ _)) rfl ?_
  exact app_end _ _ _ _ _ _ _ _ _ _ _ _ (HB0.out.trans (HB3.out.mono HB0.out.size)) (by omega) HZ3.out HS3.out

set_option maxRecDepth 100000 in
set_option maxHeartbeats 4000000 in
theorem app_get (s : Sd) (ra2 : Option Addr) (rc2 : Nat) (ha2 : Option Addr) (hc2 : Nat) (ma2 : Option Addr) (mc2 : Nat) (t : Int) (ba : Option Addr) (bc : Nat) (ra : Option Addr) (rc : Nat) (ha : Option Addr) (hc : Nat) (ma : Option Addr) (mc : Nat) (w : World) (hs : SdAt w ra2 rc2 ha2 hc2 ma2 mc2 s) (hr : RcAt w ba bc ra rc ha hc ma mc ⟨2, t, false, [], ⟨false, 0, [], [], []⟩⟩) (h1 : 1 ≤ t) (h2 : t ≤ 1073741824) :
    Calls Try.prog 102 #[.agg #[.bool s.fr, .int .i64 s.nx, .slice ra2 s.rd.length rc2, .slice ha2 s.hd.length hc2, .slice ma2 s.ms.length mc2], .agg #[.int .i64 2, .int .i64 t, .bool false, .slice ba 0 bc, .bool false, .int .i64 0, .slice ra 0 rc, .slice ha 0 hc, .slice ma 0 mc]] w (ShR ((if getC s = 0 ∧ s.nx ≠ t then s else getS s)) ((if getC s = 0 ∧ s.nx ≠ t then 1 else getC s)) w) := by
  obtain ⟨hx, hy, hz, hb0, hWs⟩ := three_box (w := w) (.cells #[.bool s.fr, .int .i64 s.nx, .slice ra2 s.rd.length rc2, .slice ha2 s.hd.length hc2, .slice ma2 s.ms.length mc2] 26) (.cells #[.int .i64 2, .int .i64 t, .bool false, .slice ba 0 bc, .bool false, .int .i64 0, .slice ra 0 rc, .slice ha 0 hc, .slice ma 0 mc] 89) (.cells #[.bool false, .int .i64 0, .slice none 0 0, .slice none 0 0, .slice none 0 0] 26)
  obtain ⟨W, hW⟩ : ∃ W, W = ((w.alloc (.cells #[.bool s.fr, .int .i64 s.nx, .slice ra2 s.rd.length rc2, .slice ha2 s.hd.length hc2, .slice ma2 s.ms.length mc2] 26)).alloc (.cells #[.int .i64 2, .int .i64 t, .bool false, .slice ba 0 bc, .bool false, .int .i64 0, .slice ra 0 rc, .slice ha 0 hc, .slice ma 0 mc] 89)).alloc (.cells #[.bool false, .int .i64 0, .slice none 0 0, .slice none 0 0, .slice none 0 0] 26) := ⟨_, rfl⟩
  rw [← hW] at hx hy hz hb0 hWs
  have HB0 := Lib.hid hb0
  have HW := Lib.hid hW
  have HWS := Lib.hid hWs
  have HS1 := Lib.hid (hs.below ra2 rc2 ha2 hc2 ma2 mc2 hb0)
  have HR1 := Lib.hid (RcAt.below ba bc ra rc ha hc ma mc hr hb0)
  have HBX := Lib.hid (fun (wx : World) (h : Below W.heap.size W wx) => And.intro (box5 (box_bl hx h)).1 (And.intro (box9 (box_bl hy h)).1 (box_bl hz h)))
  have HMAY := Lib.hid (may_get t ba bc ra rc ha hc ma mc W HR1.out h1 h2)
  rw [hW] at HMAY
  have HD0 : Hid (Below W.heap.size W (((w.alloc (.cells #[.bool s.fr, .int .i64 s.nx, .slice ra2 s.rd.length rc2, .slice ha2 s.hd.length hc2, .slice ma2 s.ms.length mc2] 26)).alloc (.cells #[.int .i64 2, .int .i64 t, .bool false, .slice ba 0 bc, .bool false, .int .i64 0, .slice ra 0 rc, .slice ha 0 hc, .slice ma 0 mc] 89)).alloc (.cells #[.bool false, .int .i64 0, .slice none 0 0, .slice none 0 0, .slice none 0 0] 26))) := Lib.hid (by rw [← hW]; exact Below.refl _ _)
  obtain ⟨⟨c0, c1, c2, c3, c4⟩, ⟨x0, x1, x2, x3, x4, x5, x6, x7, x8⟩, -⟩ := HBX.out _ HD0.out
  have HF : Hid (∀ wx, Below W.heap.size W wx → Calls Try.prog 126 #[.agg #[.bool s.fr, .int .i64 s.nx, .slice ra2 s.rd.length rc2, .slice ha2 s.hd.length hc2, .slice ma2 s.ms.length mc2], .int .i64 t] wx (ShR ((if getC s = 0 ∧ s.nx ≠ t then s else getS s)) ((if getC s = 0 ∧ s.nx ≠ t then 1 else getC s)) wx)) := Lib.hid fun wx (h : Below W.heap.size W wx) => sget_any s t ra2 rc2 ha2 hc2 ma2 mc2 wx (HS1.out.below _ _ _ _ _ _ h)
  generalize (if getC s = 0 ∧ s.nx ≠ t then s else getS s) = S at *
  generalize (if getC s = 0 ∧ s.nx ≠ t then 1 else getC s) = C at *
  clear hs hr hx hy hz hb0 hW hWs h1 h2
  go_enter Try.func102, Try.ntmps102
  go_wp2_with (first | (go_at_call 100; refine HMAY.out.mono ?_; rintro e w1 ⟨rfl, hd⟩; rw [← HW.out] at hd; have HD1 := Lib.hid hd; clear hd; obtain ⟨⟨c0, c1, c2, c3, c4⟩, ⟨x0, x1, x2, x3, x4, x5, x6, x7, x8⟩, hzz⟩ := HBX.out _ HD1.out; have HZ := Lib.hid hzz; obtain ⟨⟨d0, d1, d2, d3, d4⟩, k0, k1, k2, k3, k4⟩ := box5 hzz; clear hzz) | (go_at_call 126; refine (HF.out _ HD1.out).mono ?_; rintro e w3 ⟨ra3, rc3, ha3, hc3, ma3, mc3, rfl, hs3, hb3⟩; have HB3 := Lib.hid (HD1.out.trans (hb3.mono HD1.out.size)); have HS3 := Lib.hid hs3; have HZ3 := Lib.hid (HBX.out _ HB3.out).2.2; obtain ⟨⟨d0, d1, d2, d3, d4⟩, k0, k1, k2, k3, k4⟩ := box5 HZ3.out; clear hs3 hb3))
  refine bodyPost_ret (v := .tuple #[.agg #[.bool S.fr, .int .i64 S.nx, .slice ra3 S.rd.length rc3, .slice ha3 S.hd.length hc3, .slice ma3 S.ms.length mc3], .int .i64 C]) (res_sd (i := 4) (j := 5) (g := w.heap.size + 1 + 1) Try.results102 rfl rfl (set5_box HZ3.out _ _ _ _ _)) rfl ?_
  exact app_end _ _ _ _ _ _ _ _ _ _ _ _ (HB0.out.trans (HB3.out.mono HB0.out.size)) (by omega) HZ3.out HS3.out

set_option maxRecDepth 100000 in
set_option maxHeartbeats 4000000 in
theorem app_ack (s : Sd) (ra2 : Option Addr) (rc2 : Nat) (ha2 : Option Addr) (hc2 : Nat) (ma2 : Option Addr) (mc2 : Nat) (t : Int) (ba : Option Addr) (bc : Nat) (ra : Option Addr) (rc : Nat) (ha : Option Addr) (hc : Nat) (ma : Option Addr) (mc : Nat) (w : World) (hs : SdAt w ra2 rc2 ha2 hc2 ma2 mc2 s) (hr : RcAt w ba bc ra rc ha hc ma mc ⟨3, t, false, [], ⟨false, 0, [], [], []⟩⟩) (h1 : 1 ≤ t) (h2 : t ≤ 1073741824) :
    Calls Try.prog 102 #[.agg #[.bool s.fr, .int .i64 s.nx, .slice ra2 s.rd.length rc2, .slice ha2 s.hd.length hc2, .slice ma2 s.ms.length mc2], .agg #[.int .i64 3, .int .i64 t, .bool false, .slice ba 0 bc, .bool false, .int .i64 0, .slice ra 0 rc, .slice ha 0 hc, .slice ma 0 mc]] w (ShR (ackS s t) (outC s t) w) := by
  obtain ⟨hx, hy, hz, hb0, hWs⟩ := three_box (w := w) (.cells #[.bool s.fr, .int .i64 s.nx, .slice ra2 s.rd.length rc2, .slice ha2 s.hd.length hc2, .slice ma2 s.ms.length mc2] 26) (.cells #[.int .i64 3, .int .i64 t, .bool false, .slice ba 0 bc, .bool false, .int .i64 0, .slice ra 0 rc, .slice ha 0 hc, .slice ma 0 mc] 89) (.cells #[.bool false, .int .i64 0, .slice none 0 0, .slice none 0 0, .slice none 0 0] 26)
  obtain ⟨W, hW⟩ : ∃ W, W = ((w.alloc (.cells #[.bool s.fr, .int .i64 s.nx, .slice ra2 s.rd.length rc2, .slice ha2 s.hd.length hc2, .slice ma2 s.ms.length mc2] 26)).alloc (.cells #[.int .i64 3, .int .i64 t, .bool false, .slice ba 0 bc, .bool false, .int .i64 0, .slice ra 0 rc, .slice ha 0 hc, .slice ma 0 mc] 89)).alloc (.cells #[.bool false, .int .i64 0, .slice none 0 0, .slice none 0 0, .slice none 0 0] 26) := ⟨_, rfl⟩
  rw [← hW] at hx hy hz hb0 hWs
  have HB0 := Lib.hid hb0
  have HW := Lib.hid hW
  have HWS := Lib.hid hWs
  have HS1 := Lib.hid (hs.below ra2 rc2 ha2 hc2 ma2 mc2 hb0)
  have HR1 := Lib.hid (RcAt.below ba bc ra rc ha hc ma mc hr hb0)
  have HBX := Lib.hid (fun (wx : World) (h : Below W.heap.size W wx) => And.intro (box5 (box_bl hx h)).1 (And.intro (box9 (box_bl hy h)).1 (box_bl hz h)))
  have HMAY := Lib.hid (may_ack t ba bc ra rc ha hc ma mc W HR1.out h1 h2)
  rw [hW] at HMAY
  have HD0 : Hid (Below W.heap.size W (((w.alloc (.cells #[.bool s.fr, .int .i64 s.nx, .slice ra2 s.rd.length rc2, .slice ha2 s.hd.length hc2, .slice ma2 s.ms.length mc2] 26)).alloc (.cells #[.int .i64 3, .int .i64 t, .bool false, .slice ba 0 bc, .bool false, .int .i64 0, .slice ra 0 rc, .slice ha 0 hc, .slice ma 0 mc] 89)).alloc (.cells #[.bool false, .int .i64 0, .slice none 0 0, .slice none 0 0, .slice none 0 0] 26))) := Lib.hid (by rw [← hW]; exact Below.refl _ _)
  obtain ⟨⟨c0, c1, c2, c3, c4⟩, ⟨x0, x1, x2, x3, x4, x5, x6, x7, x8⟩, -⟩ := HBX.out _ HD0.out
  have HF : Hid (∀ wx, Below W.heap.size W wx → Calls Try.prog 27 #[.agg #[.bool s.fr, .int .i64 s.nx, .slice ra2 s.rd.length rc2, .slice ha2 s.hd.length hc2, .slice ma2 s.ms.length mc2], .int .i64 t] wx (ShR (ackS s t) (outC s t) wx)) := Lib.hid fun wx (h : Below W.heap.size W wx) => ((ack_any s t ra2 rc2 ha2 hc2 ma2 mc2 wx (HS1.out.below _ _ _ _ _ _ h)).mono fun e w' h => sho_shr h)
  generalize ackS s t = S at *
  generalize outC s t = C at *
  clear hs hr hx hy hz hb0 hW hWs h1 h2
  go_enter Try.func102, Try.ntmps102
  go_wp2_with (first | (go_at_call 100; refine HMAY.out.mono ?_; rintro e w1 ⟨rfl, hd⟩; rw [← HW.out] at hd; have HD1 := Lib.hid hd; clear hd; obtain ⟨⟨c0, c1, c2, c3, c4⟩, ⟨x0, x1, x2, x3, x4, x5, x6, x7, x8⟩, hzz⟩ := HBX.out _ HD1.out; have HZ := Lib.hid hzz; obtain ⟨⟨d0, d1, d2, d3, d4⟩, k0, k1, k2, k3, k4⟩ := box5 hzz; clear hzz) | (go_at_call 27; refine (HF.out _ HD1.out).mono ?_; rintro e w3 ⟨ra3, rc3, ha3, hc3, ma3, mc3, rfl, hs3, hb3⟩; have HB3 := Lib.hid (HD1.out.trans (hb3.mono HD1.out.size)); have HS3 := Lib.hid hs3; have HZ3 := Lib.hid (HBX.out _ HB3.out).2.2; obtain ⟨⟨d0, d1, d2, d3, d4⟩, k0, k1, k2, k3, k4⟩ := box5 HZ3.out; clear hs3 hb3))
  refine bodyPost_ret (v := .tuple #[.agg #[.bool S.fr, .int .i64 S.nx, .slice ra3 S.rd.length rc3, .slice ha3 S.hd.length hc3, .slice ma3 S.ms.length mc3], .int .i64 C]) (res_sd (i := 4) (j := 5) (g := w.heap.size + 1 + 1) Try.results102 rfl rfl (set5_box HZ3.out _ _ _ _ _)) rfl ?_
  exact app_end _ _ _ _ _ _ _ _ _ _ _ _ (HB0.out.trans (HB3.out.mono HB0.out.size)) (by omega) HZ3.out HS3.out

set_option maxRecDepth 100000 in
set_option maxHeartbeats 4000000 in
theorem app_nack (s : Sd) (ra2 : Option Addr) (rc2 : Nat) (ha2 : Option Addr) (hc2 : Nat) (ma2 : Option Addr) (mc2 : Nat) (t : Int) (ba : Option Addr) (bc : Nat) (ra : Option Addr) (rc : Nat) (ha : Option Addr) (hc : Nat) (ma : Option Addr) (mc : Nat) (w : World) (hs : SdAt w ra2 rc2 ha2 hc2 ma2 mc2 s) (hr : RcAt w ba bc ra rc ha hc ma mc ⟨4, t, false, [], ⟨false, 0, [], [], []⟩⟩) (h1 : 1 ≤ t) (h2 : t ≤ 1073741824) :
    Calls Try.prog 102 #[.agg #[.bool s.fr, .int .i64 s.nx, .slice ra2 s.rd.length rc2, .slice ha2 s.hd.length hc2, .slice ma2 s.ms.length mc2], .agg #[.int .i64 4, .int .i64 t, .bool false, .slice ba 0 bc, .bool false, .int .i64 0, .slice ra 0 rc, .slice ha 0 hc, .slice ma 0 mc]] w (ShR (nackS s t) (outC s t) w) := by
  obtain ⟨hx, hy, hz, hb0, hWs⟩ := three_box (w := w) (.cells #[.bool s.fr, .int .i64 s.nx, .slice ra2 s.rd.length rc2, .slice ha2 s.hd.length hc2, .slice ma2 s.ms.length mc2] 26) (.cells #[.int .i64 4, .int .i64 t, .bool false, .slice ba 0 bc, .bool false, .int .i64 0, .slice ra 0 rc, .slice ha 0 hc, .slice ma 0 mc] 89) (.cells #[.bool false, .int .i64 0, .slice none 0 0, .slice none 0 0, .slice none 0 0] 26)
  obtain ⟨W, hW⟩ : ∃ W, W = ((w.alloc (.cells #[.bool s.fr, .int .i64 s.nx, .slice ra2 s.rd.length rc2, .slice ha2 s.hd.length hc2, .slice ma2 s.ms.length mc2] 26)).alloc (.cells #[.int .i64 4, .int .i64 t, .bool false, .slice ba 0 bc, .bool false, .int .i64 0, .slice ra 0 rc, .slice ha 0 hc, .slice ma 0 mc] 89)).alloc (.cells #[.bool false, .int .i64 0, .slice none 0 0, .slice none 0 0, .slice none 0 0] 26) := ⟨_, rfl⟩
  rw [← hW] at hx hy hz hb0 hWs
  have HB0 := Lib.hid hb0
  have HW := Lib.hid hW
  have HWS := Lib.hid hWs
  have HS1 := Lib.hid (hs.below ra2 rc2 ha2 hc2 ma2 mc2 hb0)
  have HR1 := Lib.hid (RcAt.below ba bc ra rc ha hc ma mc hr hb0)
  have HBX := Lib.hid (fun (wx : World) (h : Below W.heap.size W wx) => And.intro (box5 (box_bl hx h)).1 (And.intro (box9 (box_bl hy h)).1 (box_bl hz h)))
  have HMAY := Lib.hid (may_nack t ba bc ra rc ha hc ma mc W HR1.out h1 h2)
  rw [hW] at HMAY
  have HD0 : Hid (Below W.heap.size W (((w.alloc (.cells #[.bool s.fr, .int .i64 s.nx, .slice ra2 s.rd.length rc2, .slice ha2 s.hd.length hc2, .slice ma2 s.ms.length mc2] 26)).alloc (.cells #[.int .i64 4, .int .i64 t, .bool false, .slice ba 0 bc, .bool false, .int .i64 0, .slice ra 0 rc, .slice ha 0 hc, .slice ma 0 mc] 89)).alloc (.cells #[.bool false, .int .i64 0, .slice none 0 0, .slice none 0 0, .slice none 0 0] 26))) := Lib.hid (by rw [← hW]; exact Below.refl _ _)
  obtain ⟨⟨c0, c1, c2, c3, c4⟩, ⟨x0, x1, x2, x3, x4, x5, x6, x7, x8⟩, -⟩ := HBX.out _ HD0.out
  have HF : Hid (∀ wx, Below W.heap.size W wx → Calls Try.prog 29 #[.agg #[.bool s.fr, .int .i64 s.nx, .slice ra2 s.rd.length rc2, .slice ha2 s.hd.length hc2, .slice ma2 s.ms.length mc2], .int .i64 t] wx (ShR (nackS s t) (outC s t) wx)) := Lib.hid fun wx (h : Below W.heap.size W wx) => ((nack_any s t ra2 rc2 ha2 hc2 ma2 mc2 wx (HS1.out.below _ _ _ _ _ _ h)).mono fun e w' h => sho_shr h)
  generalize nackS s t = S at *
  generalize outC s t = C at *
  clear hs hr hx hy hz hb0 hW hWs h1 h2
  go_enter Try.func102, Try.ntmps102
  go_wp2_with (first | (go_at_call 100; refine HMAY.out.mono ?_; rintro e w1 ⟨rfl, hd⟩; rw [← HW.out] at hd; have HD1 := Lib.hid hd; clear hd; obtain ⟨⟨c0, c1, c2, c3, c4⟩, ⟨x0, x1, x2, x3, x4, x5, x6, x7, x8⟩, hzz⟩ := HBX.out _ HD1.out; have HZ := Lib.hid hzz; obtain ⟨⟨d0, d1, d2, d3, d4⟩, k0, k1, k2, k3, k4⟩ := box5 hzz; clear hzz) | (go_at_call 29; refine (HF.out _ HD1.out).mono ?_; rintro e w3 ⟨ra3, rc3, ha3, hc3, ma3, mc3, rfl, hs3, hb3⟩; have HB3 := Lib.hid (HD1.out.trans (hb3.mono HD1.out.size)); have HS3 := Lib.hid hs3; have HZ3 := Lib.hid (HBX.out _ HB3.out).2.2; obtain ⟨⟨d0, d1, d2, d3, d4⟩, k0, k1, k2, k3, k4⟩ := box5 HZ3.out; clear hs3 hb3))
  refine bodyPost_ret (v := .tuple #[.agg #[.bool S.fr, .int .i64 S.nx, .slice ra3 S.rd.length rc3, .slice ha3 S.hd.length hc3, .slice ma3 S.ms.length mc3], .int .i64 C]) (res_sd (i := 4) (j := 5) (g := w.heap.size + 1 + 1) Try.results102 rfl rfl (set5_box HZ3.out _ _ _ _ _)) rfl ?_
  exact app_end _ _ _ _ _ _ _ _ _ _ _ _ (HB0.out.trans (HB3.out.mono HB0.out.size)) (by omega) HZ3.out HS3.out

set_option maxRecDepth 100000 in
set_option maxHeartbeats 4000000 in
theorem app_frz (s : Sd) (ra2 : Option Addr) (rc2 : Nat) (ha2 : Option Addr) (hc2 : Nat) (ma2 : Option Addr) (mc2 : Nat)  (ba : Option Addr) (bc : Nat) (ra : Option Addr) (rc : Nat) (ha : Option Addr) (hc : Nat) (ma : Option Addr) (mc : Nat) (w : World) (hs : SdAt w ra2 rc2 ha2 hc2 ma2 mc2 s) (hr : RcAt w ba bc ra rc ha hc ma mc ⟨5, 0, false, [], ⟨false, 0, [], [], []⟩⟩)  :
    Calls Try.prog 102 #[.agg #[.bool s.fr, .int .i64 s.nx, .slice ra2 s.rd.length rc2, .slice ha2 s.hd.length hc2, .slice ma2 s.ms.length mc2], .agg #[.int .i64 5, .int .i64 0, .bool false, .slice ba 0 bc, .bool false, .int .i64 0, .slice ra 0 rc, .slice ha 0 hc, .slice ma 0 mc]] w (ShR (setS s true) (setC s true) w) := by
  obtain ⟨hx, hy, hz, hb0, hWs⟩ := three_box (w := w) (.cells #[.bool s.fr, .int .i64 s.nx, .slice ra2 s.rd.length rc2, .slice ha2 s.hd.length hc2, .slice ma2 s.ms.length mc2] 26) (.cells #[.int .i64 5, .int .i64 0, .bool false, .slice ba 0 bc, .bool false, .int .i64 0, .slice ra 0 rc, .slice ha 0 hc, .slice ma 0 mc] 89) (.cells #[.bool false, .int .i64 0, .slice none 0 0, .slice none 0 0, .slice none 0 0] 26)
  obtain ⟨W, hW⟩ : ∃ W, W = ((w.alloc (.cells #[.bool s.fr, .int .i64 s.nx, .slice ra2 s.rd.length rc2, .slice ha2 s.hd.length hc2, .slice ma2 s.ms.length mc2] 26)).alloc (.cells #[.int .i64 5, .int .i64 0, .bool false, .slice ba 0 bc, .bool false, .int .i64 0, .slice ra 0 rc, .slice ha 0 hc, .slice ma 0 mc] 89)).alloc (.cells #[.bool false, .int .i64 0, .slice none 0 0, .slice none 0 0, .slice none 0 0] 26) := ⟨_, rfl⟩
  rw [← hW] at hx hy hz hb0 hWs
  have HB0 := Lib.hid hb0
  have HW := Lib.hid hW
  have HWS := Lib.hid hWs
  have HS1 := Lib.hid (hs.below ra2 rc2 ha2 hc2 ma2 mc2 hb0)
  have HR1 := Lib.hid (RcAt.below ba bc ra rc ha hc ma mc hr hb0)
  have HBX := Lib.hid (fun (wx : World) (h : Below W.heap.size W wx) => And.intro (box5 (box_bl hx h)).1 (And.intro (box9 (box_bl hy h)).1 (box_bl hz h)))
  have HMAY := Lib.hid (may_frz  ba bc ra rc ha hc ma mc W HR1.out )
  rw [hW] at HMAY
  have HD0 : Hid (Below W.heap.size W (((w.alloc (.cells #[.bool s.fr, .int .i64 s.nx, .slice ra2 s.rd.length rc2, .slice ha2 s.hd.length hc2, .slice ma2 s.ms.length mc2] 26)).alloc (.cells #[.int .i64 5, .int .i64 0, .bool false, .slice ba 0 bc, .bool false, .int .i64 0, .slice ra 0 rc, .slice ha 0 hc, .slice ma 0 mc] 89)).alloc (.cells #[.bool false, .int .i64 0, .slice none 0 0, .slice none 0 0, .slice none 0 0] 26))) := Lib.hid (by rw [← hW]; exact Below.refl _ _)
  obtain ⟨⟨c0, c1, c2, c3, c4⟩, ⟨x0, x1, x2, x3, x4, x5, x6, x7, x8⟩, -⟩ := HBX.out _ HD0.out
  have HF : Hid (∀ wx, Below W.heap.size W wx → Calls Try.prog 33 #[.agg #[.bool s.fr, .int .i64 s.nx, .slice ra2 s.rd.length rc2, .slice ha2 s.hd.length hc2, .slice ma2 s.ms.length mc2]] wx (ShR (setS s true) (setC s true) wx)) := Lib.hid fun wx (h : Below W.heap.size W wx) => ((freeze_any s ra2 rc2 ha2 hc2 ma2 mc2 wx (HS1.out.below _ _ _ _ _ _ h)).mono fun e w' h => sho_shr h)
  generalize setS s true = S at *
  generalize setC s true = C at *
  clear hs hr hx hy hz hb0 hW hWs 
  go_enter Try.func102, Try.ntmps102
  go_wp2_with (first | (go_at_call 100; refine HMAY.out.mono ?_; rintro e w1 ⟨rfl, hd⟩; rw [← HW.out] at hd; have HD1 := Lib.hid hd; clear hd; obtain ⟨⟨c0, c1, c2, c3, c4⟩, ⟨x0, x1, x2, x3, x4, x5, x6, x7, x8⟩, hzz⟩ := HBX.out _ HD1.out; have HZ := Lib.hid hzz; obtain ⟨⟨d0, d1, d2, d3, d4⟩, k0, k1, k2, k3, k4⟩ := box5 hzz; clear hzz) | (go_at_call 33; refine (HF.out _ HD1.out).mono ?_; rintro e w3 ⟨ra3, rc3, ha3, hc3, ma3, mc3, rfl, hs3, hb3⟩; have HB3 := Lib.hid (HD1.out.trans (hb3.mono HD1.out.size)); have HS3 := Lib.hid hs3; have HZ3 := Lib.hid (HBX.out _ HB3.out).2.2; obtain ⟨⟨d0, d1, d2, d3, d4⟩, k0, k1, k2, k3, k4⟩ := box5 HZ3.out; clear hs3 hb3))
  refine bodyPost_ret (v := .tuple #[.agg #[.bool S.fr, .int .i64 S.nx, .slice ra3 S.rd.length rc3, .slice ha3 S.hd.length hc3, .slice ma3 S.ms.length mc3], .int .i64 C]) (res_sd (i := 4) (j := 5) (g := w.heap.size + 1 + 1) Try.results102 rfl rfl (set5_box HZ3.out _ _ _ _ _)) rfl ?_
  exact app_end _ _ _ _ _ _ _ _ _ _ _ _ (HB0.out.trans (HB3.out.mono HB0.out.size)) (by omega) HZ3.out HS3.out

set_option maxRecDepth 100000 in
set_option maxHeartbeats 4000000 in
theorem app_thaw (s : Sd) (ra2 : Option Addr) (rc2 : Nat) (ha2 : Option Addr) (hc2 : Nat) (ma2 : Option Addr) (mc2 : Nat)  (ba : Option Addr) (bc : Nat) (ra : Option Addr) (rc : Nat) (ha : Option Addr) (hc : Nat) (ma : Option Addr) (mc : Nat) (w : World) (hs : SdAt w ra2 rc2 ha2 hc2 ma2 mc2 s) (hr : RcAt w ba bc ra rc ha hc ma mc ⟨6, 0, false, [], ⟨false, 0, [], [], []⟩⟩)  :
    Calls Try.prog 102 #[.agg #[.bool s.fr, .int .i64 s.nx, .slice ra2 s.rd.length rc2, .slice ha2 s.hd.length hc2, .slice ma2 s.ms.length mc2], .agg #[.int .i64 6, .int .i64 0, .bool false, .slice ba 0 bc, .bool false, .int .i64 0, .slice ra 0 rc, .slice ha 0 hc, .slice ma 0 mc]] w (ShR (setS s false) (setC s false) w) := by
  obtain ⟨hx, hy, hz, hb0, hWs⟩ := three_box (w := w) (.cells #[.bool s.fr, .int .i64 s.nx, .slice ra2 s.rd.length rc2, .slice ha2 s.hd.length hc2, .slice ma2 s.ms.length mc2] 26) (.cells #[.int .i64 6, .int .i64 0, .bool false, .slice ba 0 bc, .bool false, .int .i64 0, .slice ra 0 rc, .slice ha 0 hc, .slice ma 0 mc] 89) (.cells #[.bool false, .int .i64 0, .slice none 0 0, .slice none 0 0, .slice none 0 0] 26)
  obtain ⟨W, hW⟩ : ∃ W, W = ((w.alloc (.cells #[.bool s.fr, .int .i64 s.nx, .slice ra2 s.rd.length rc2, .slice ha2 s.hd.length hc2, .slice ma2 s.ms.length mc2] 26)).alloc (.cells #[.int .i64 6, .int .i64 0, .bool false, .slice ba 0 bc, .bool false, .int .i64 0, .slice ra 0 rc, .slice ha 0 hc, .slice ma 0 mc] 89)).alloc (.cells #[.bool false, .int .i64 0, .slice none 0 0, .slice none 0 0, .slice none 0 0] 26) := ⟨_, rfl⟩
  rw [← hW] at hx hy hz hb0 hWs
  have HB0 := Lib.hid hb0
  have HW := Lib.hid hW
  have HWS := Lib.hid hWs
  have HS1 := Lib.hid (hs.below ra2 rc2 ha2 hc2 ma2 mc2 hb0)
  have HR1 := Lib.hid (RcAt.below ba bc ra rc ha hc ma mc hr hb0)
  have HBX := Lib.hid (fun (wx : World) (h : Below W.heap.size W wx) => And.intro (box5 (box_bl hx h)).1 (And.intro (box9 (box_bl hy h)).1 (box_bl hz h)))
  have HMAY := Lib.hid (may_thaw  ba bc ra rc ha hc ma mc W HR1.out )
  rw [hW] at HMAY
  have HD0 : Hid (Below W.heap.size W (((w.alloc (.cells #[.bool s.fr, .int .i64 s.nx, .slice ra2 s.rd.length rc2, .slice ha2 s.hd.length hc2, .slice ma2 s.ms.length mc2] 26)).alloc (.cells #[.int .i64 6, .int .i64 0, .bool false, .slice ba 0 bc, .bool false, .int .i64 0, .slice ra 0 rc, .slice ha 0 hc, .slice ma 0 mc] 89)).alloc (.cells #[.bool false, .int .i64 0, .slice none 0 0, .slice none 0 0, .slice none 0 0] 26))) := Lib.hid (by rw [← hW]; exact Below.refl _ _)
  obtain ⟨⟨c0, c1, c2, c3, c4⟩, ⟨x0, x1, x2, x3, x4, x5, x6, x7, x8⟩, -⟩ := HBX.out _ HD0.out
  have HF : Hid (∀ wx, Below W.heap.size W wx → Calls Try.prog 35 #[.agg #[.bool s.fr, .int .i64 s.nx, .slice ra2 s.rd.length rc2, .slice ha2 s.hd.length hc2, .slice ma2 s.ms.length mc2]] wx (ShR (setS s false) (setC s false) wx)) := Lib.hid fun wx (h : Below W.heap.size W wx) => ((thaw_any s ra2 rc2 ha2 hc2 ma2 mc2 wx (HS1.out.below _ _ _ _ _ _ h)).mono fun e w' h => sho_shr h)
  generalize setS s false = S at *
  generalize setC s false = C at *
  clear hs hr hx hy hz hb0 hW hWs 
  go_enter Try.func102, Try.ntmps102
  go_wp2_with (first | (go_at_call 100; refine HMAY.out.mono ?_; rintro e w1 ⟨rfl, hd⟩; rw [← HW.out] at hd; have HD1 := Lib.hid hd; clear hd; obtain ⟨⟨c0, c1, c2, c3, c4⟩, ⟨x0, x1, x2, x3, x4, x5, x6, x7, x8⟩, hzz⟩ := HBX.out _ HD1.out; have HZ := Lib.hid hzz; obtain ⟨⟨d0, d1, d2, d3, d4⟩, k0, k1, k2, k3, k4⟩ := box5 hzz; clear hzz) | (go_at_call 35; refine (HF.out _ HD1.out).mono ?_; rintro e w3 ⟨ra3, rc3, ha3, hc3, ma3, mc3, rfl, hs3, hb3⟩; have HB3 := Lib.hid (HD1.out.trans (hb3.mono HD1.out.size)); have HS3 := Lib.hid hs3; have HZ3 := Lib.hid (HBX.out _ HB3.out).2.2; obtain ⟨⟨d0, d1, d2, d3, d4⟩, k0, k1, k2, k3, k4⟩ := box5 HZ3.out; clear hs3 hb3))
  refine bodyPost_ret (v := .tuple #[.agg #[.bool S.fr, .int .i64 S.nx, .slice ra3 S.rd.length rc3, .slice ha3 S.hd.length hc3, .slice ma3 S.ms.length mc3], .int .i64 C]) (res_sd (i := 4) (j := 5) (g := w.heap.size + 1 + 1) Try.results102 rfl rfl (set5_box HZ3.out _ _ _ _ _)) rfl ?_
  exact app_end _ _ _ _ _ _ _ _ _ _ _ _ (HB0.out.trans (HB3.out.mono HB0.out.size)) (by omega) HZ3.out HS3.out

set_option maxRecDepth 100000 in
set_option maxHeartbeats 4000000 in
theorem app_state (s : Sd) (ra2 : Option Addr) (rc2 : Nat) (ha2 : Option Addr) (hc2 : Nat) (ma2 : Option Addr) (mc2 : Nat) (q : Sd) (ba : Option Addr) (bc : Nat) (ra : Option Addr) (rc : Nat) (ha : Option Addr) (hc : Nat) (ma : Option Addr) (mc : Nat) (w : World) (hs : SdAt w ra2 rc2 ha2 hc2 ma2 mc2 s) (hr : RcAt w ba bc ra rc ha hc ma mc ⟨7, 0, false, [], q⟩) (h1 : MaySd q) :
    Calls Try.prog 102 #[.agg #[.bool s.fr, .int .i64 s.nx, .slice ra2 s.rd.length rc2, .slice ha2 s.hd.length hc2, .slice ma2 s.ms.length mc2], .agg #[.int .i64 7, .int .i64 0, .bool false, .slice ba 0 bc, .bool q.fr, .int .i64 q.nx, .slice ra q.rd.length rc, .slice ha q.hd.length hc, .slice ma q.ms.length mc]] w (ShR (q) (0) w) := by
  obtain ⟨hx, hy, hz, hb0, hWs⟩ := three_box (w := w) (.cells #[.bool s.fr, .int .i64 s.nx, .slice ra2 s.rd.length rc2, .slice ha2 s.hd.length hc2, .slice ma2 s.ms.length mc2] 26) (.cells #[.int .i64 7, .int .i64 0, .bool false, .slice ba 0 bc, .bool q.fr, .int .i64 q.nx, .slice ra q.rd.length rc, .slice ha q.hd.length hc, .slice ma q.ms.length mc] 89) (.cells #[.bool false, .int .i64 0, .slice none 0 0, .slice none 0 0, .slice none 0 0] 26)
  obtain ⟨W, hW⟩ : ∃ W, W = ((w.alloc (.cells #[.bool s.fr, .int .i64 s.nx, .slice ra2 s.rd.length rc2, .slice ha2 s.hd.length hc2, .slice ma2 s.ms.length mc2] 26)).alloc (.cells #[.int .i64 7, .int .i64 0, .bool false, .slice ba 0 bc, .bool q.fr, .int .i64 q.nx, .slice ra q.rd.length rc, .slice ha q.hd.length hc, .slice ma q.ms.length mc] 89)).alloc (.cells #[.bool false, .int .i64 0, .slice none 0 0, .slice none 0 0, .slice none 0 0] 26) := ⟨_, rfl⟩
  rw [← hW] at hx hy hz hb0 hWs
  have HB0 := Lib.hid hb0
  have HW := Lib.hid hW
  have HWS := Lib.hid hWs
  have HS1 := Lib.hid (hs.below ra2 rc2 ha2 hc2 ma2 mc2 hb0)
  have HR1 := Lib.hid (RcAt.below ba bc ra rc ha hc ma mc hr hb0)
  have HBX := Lib.hid (fun (wx : World) (h : Below W.heap.size W wx) => And.intro (box5 (box_bl hx h)).1 (And.intro (box9 (box_bl hy h)).1 (box_bl hz h)))
  have HMAY := Lib.hid (may_state q ba bc ra rc ha hc ma mc W HR1.out h1)
  rw [hW] at HMAY
  have HD0 : Hid (Below W.heap.size W (((w.alloc (.cells #[.bool s.fr, .int .i64 s.nx, .slice ra2 s.rd.length rc2, .slice ha2 s.hd.length hc2, .slice ma2 s.ms.length mc2] 26)).alloc (.cells #[.int .i64 7, .int .i64 0, .bool false, .slice ba 0 bc, .bool q.fr, .int .i64 q.nx, .slice ra q.rd.length rc, .slice ha q.hd.length hc, .slice ma q.ms.length mc] 89)).alloc (.cells #[.bool false, .int .i64 0, .slice none 0 0, .slice none 0 0, .slice none 0 0] 26))) := Lib.hid (by rw [← hW]; exact Below.refl _ _)
  obtain ⟨⟨c0, c1, c2, c3, c4⟩, ⟨x0, x1, x2, x3, x4, x5, x6, x7, x8⟩, -⟩ := HBX.out _ HD0.out
  have HF := Lib.hid fun wx (h : Below W.heap.size W wx) => own2_any q ra rc ha hc ma mc wx (HR1.out.sd.below _ _ _ _ _ _ h)
  clear hs hr hx hy hz hb0 hW hWs h1
  go_enter Try.func102, Try.ntmps102
  go_wp2_with (first | (go_at_call 100; refine HMAY.out.mono ?_; rintro e w1 ⟨rfl, hd⟩; rw [← HW.out] at hd; have HD1 := Lib.hid hd; clear hd; obtain ⟨⟨c0, c1, c2, c3, c4⟩, ⟨x0, x1, x2, x3, x4, x5, x6, x7, x8⟩, hzz⟩ := HBX.out _ HD1.out; have HZ := Lib.hid hzz; obtain ⟨⟨d0, d1, d2, d3, d4⟩, k0, k1, k2, k3, k4⟩ := box5 hzz; clear hzz) | (go_at_call 64; refine (HF.out _ HD1.out).mono ?_; rintro e w3 ⟨ra3, rc3, ha3, hc3, ma3, mc3, rfl, ho3, hb3⟩; have HB3 := Lib.hid (HD1.out.trans (hb3.mono HD1.out.size)); have HS3 := Lib.hid (ho3.sd _ _ _ _ _ _ HR1.out.sd.sm); have HZ3 := Lib.hid (HBX.out _ HB3.out).2.2; obtain ⟨⟨d0, d1, d2, d3, d4⟩, k0, k1, k2, k3, k4⟩ := box5 HZ3.out; clear ho3 hb3))
  refine bodyPost_ret (v := .tuple #[.agg #[.bool q.fr, .int .i64 q.nx, .slice ra3 q.rd.length rc3, .slice ha3 q.hd.length hc3, .slice ma3 q.ms.length mc3], .int .i64 0]) (res_sd (i := 4) (j := 5) (g := w.heap.size + 1 + 1) Try.results102 rfl rfl (set5_box HZ3.out _ _ _ _ _)) rfl ?_
  exact app_end _ _ _ _ _ _ _ _ _ _ _ _ (HB0.out.trans (HB3.out.mono HB0.out.size)) (by omega) HZ3.out HS3.out

theorem apply_any (s : Sd) (ra2 : Option Addr) (rc2 : Nat) (ha2 : Option Addr) (hc2 : Nat) (ma2 : Option Addr) (mc2 : Nat) (r : Rc) (ba : Option Addr) (bc : Nat) (ra : Option Addr) (rc : Nat) (ha : Option Addr) (hc : Nat) (ma : Option Addr) (mc : Nat) (w : World) (hs : SdAt w ra2 rc2 ha2 hc2 ma2 mc2 s) (hr : RcAt w ba bc ra rc ha hc ma mc r) (hm : MayRc r) :
    Calls Try.prog 102 #[.agg #[.bool s.fr, .int .i64 s.nx, .slice ra2 s.rd.length rc2, .slice ha2 s.hd.length hc2, .slice ma2 s.ms.length mc2], .agg #[.int .i64 r.kd, .int .i64 r.tag, .bool r.back, .slice ba r.bt.length bc, .bool r.sd.fr, .int .i64 r.sd.nx, .slice ra r.sd.rd.length rc, .slice ha r.sd.hd.length hc, .slice ma r.sd.ms.length mc]] w (ShR (appS s r) (appC s r) w) := by
  obtain ⟨kd, tag, back, bt, sd⟩ := r
  obtain ⟨hbk, hm⟩ := hm
  obtain rfl : back = false := hbk
  rcases hm with ⟨h1, h2, h3, h4, h5, h6⟩ | ⟨h1, h2, h3, h4, h5⟩ | ⟨h1, h2, h3, h4⟩ | ⟨h1, h2, h3, h4⟩
  · obtain rfl : kd = 1 := h1
    obtain rfl : tag = 0 := h2
    obtain rfl : sd = ⟨false, 0, [], [], []⟩ := h3
    exact app_put s ra2 rc2 ha2 hc2 ma2 mc2 bt ba bc ra rc ha hc ma mc w hs hr h4 h5 h6
  · obtain rfl : bt = [] := h4
    obtain rfl : sd = ⟨false, 0, [], [], []⟩ := h5
    rcases h1 with h1 | h1 | h1
    · obtain rfl : kd = 2 := h1
      exact app_get s ra2 rc2 ha2 hc2 ma2 mc2 tag ba bc ra rc ha hc ma mc w hs hr h2 h3
    · obtain rfl : kd = 3 := h1
      exact app_ack s ra2 rc2 ha2 hc2 ma2 mc2 tag ba bc ra rc ha hc ma mc w hs hr h2 h3
    · obtain rfl : kd = 4 := h1
      exact app_nack s ra2 rc2 ha2 hc2 ma2 mc2 tag ba bc ra rc ha hc ma mc w hs hr h2 h3
  · obtain rfl : tag = 0 := h2
    obtain rfl : bt = [] := h3
    obtain rfl : sd = ⟨false, 0, [], [], []⟩ := h4
    rcases h1 with h1 | h1
    · obtain rfl : kd = 5 := h1
      exact app_frz s ra2 rc2 ha2 hc2 ma2 mc2 ba bc ra rc ha hc ma mc w hs hr
    · obtain rfl : kd = 6 := h1
      exact app_thaw s ra2 rc2 ha2 hc2 ma2 mc2 ba bc ra rc ha hc ma mc w hs hr
  · obtain rfl : kd = 7 := h1
    obtain rfl : tag = 0 := h2
    obtain rfl : bt = [] := h3
    exact app_state s ra2 rc2 ha2 hc2 ma2 mc2 sd ba bc ra rc ha hc ma mc w hs hr h4

end Go.Proofs.Ythohjcfpobeplaa.Sl

namespace Go.Proofs.Ythohjcfpobeplaa.Sl
open Go.RowKit Rg Sh
set_option linter.unusedVariables false
set_option linter.unusedSimpArgs false

theorem open_end {s0 s : Sd} {l0 r : List Rc} {c : Int} (h : (c = 0 ∧ openF s0 l0 = openF s r) ∨ (c ≠ 0 ∧ openF s0 l0 = (s, c))) (hr : r = [] ∨ c ≠ 0) : (openF s0 l0).1 = s ∧ (openF s0 l0).2 = c := by
  rcases h with ⟨rfl, h⟩ | ⟨_, h⟩
  · rcases hr with rfl | hr
    · rw [h]; exact ⟨rfl, rfl⟩
    · exact absurd rfl hr
  · rw [h]; exact ⟨rfl, rfl⟩
theorem open_next {s0 s : Sd} {l0 l : List Rc} {x : Rc} (h : openF s0 l0 = openF s (x :: l)) : (appC s x = 0 ∧ openF s0 l0 = openF (appS s x) l) ∨ (appC s x ≠ 0 ∧ openF s0 l0 = (appS s x, appC s x)) := by
  rw [open_cons] at h
  by_cases hc : appC s x = 0
  · rw [if_pos hc] at h; exact .inl ⟨hc, h⟩
  · rw [if_neg hc] at h; exact .inr ⟨hc, by rw [h, app_not hc]⟩
theorem RlAt.tail {w : World} {a : Option Addr} {cap : Nat} {x : Rx} {l : List Rx} (h : RlAt w a cap (x :: l)) :
    ∃ b o a', a = some ⟨b, o, none⟩ ∧ (∀ (r : Nat) (v : Value), (rxC x)[r]? = some v → w.cell? ⟨b, o + r, none⟩ = some v) ∧
      RlAt w a' (cap - 1) l ∧ 1 ≤ cap ∧
      (∀ wx, (Instr.slice 84 (.slice (some ⟨b, o, none⟩) (l.length + 1) cap) (some (.int .i64 1)) none none).run Try.prog wx = .ok (.slice a' l.length (cap - 1)) wx) ∧ RxAt w x := by
  obtain ⟨b, o, a', h1, h2, h3, h4, h5, h6⟩ := rxE.head h.at'
  exact ⟨b, o, a', h1, h2, ⟨h3, h5, fun y hy => h.all y (by simp [hy])⟩, h4, h6, h.all x (by simp)⟩

def openRel (l0 : List Rx) (w0 : World) (m : Nat) (a' : Act) (w' : World) : Prop :=
  ∃ (r : List Rx) (ta : Option Addr) (tc : Nat) (s : Sd) (c : Int) (ra2 : Option Addr) (rc2 : Nat) (ha2 : Option Addr) (hc2 : Nat) (ma2 : Option Addr) (mc2 : Nat) (g : Nat) (u1 : Value) (u6 u7 u8 u9 u10 u11 u12 u13 u14 u15 u16 u17 u18 u19 u20 u21 u22 u23 u24 u25 : Value), a' = { tmps := #[.slice ta r.length tc, u1, .pointer (some ⟨w0.heap.size, 0, none⟩), .int .i64 0, .pointer (some ⟨g, 0, none⟩), .int .i64 c, u6, u7, u8, u9, u10, u11, u12, u13, u14, u15, u16, u17, u18, u19, u20, u21, u22, u23, u24, u25], defers := [] } ∧
    m = r.length ∧ RlAt w0 ta tc r ∧ (∀ x ∈ r, MayRc x.r) ∧ Below w0.heap.size w0 w' ∧ w0.heap.size < g ∧ w'.heap[w0.heap.size]? = some (.cells #[.bool false, .int .i64 0, .slice none 0 0, .slice none 0 0, .slice none 0 0] 26 (0, 0)) ∧
    w'.heap[g]? = some (.cells #[.bool s.fr, .int .i64 s.nx, .slice ra2 s.rd.length rc2, .slice ha2 s.hd.length hc2, .slice ma2 s.ms.length mc2] 26 (0, 0)) ∧ SdAt w' ra2 rc2 ha2 hc2 ma2 mc2 s ∧
    ((c = 0 ∧ openF sd1 (rcs l0) = openF s (rcs r)) ∨ (c ≠ 0 ∧ openF sd1 (rcs l0) = (s, c)))
/-- an answer laid into the box. -/
theorem open_step {w w' w7 : World} {g : Nat} {s S : Sd} (ra2 : Option Addr) (rc2 : Nat) (ha2 : Option Addr) (hc2 : Nat) (ma2 : Option Addr) (mc2 : Nat) (ra3 : Option Addr) (rc3 : Nat) (ha3 : Option Addr) (hc3 : Nat) (ma3 : Option Addr) (mc3 : Nat) (hb : Below w.heap.size w w'.drew) (hg : w.heap.size < g) (hx : w'.heap[w.heap.size]? = some (.cells #[.bool false, .int .i64 0, .slice none 0 0, .slice none 0 0, .slice none 0 0] 26 (0, 0))) (hy : w'.heap[g]? = some (.cells #[.bool s.fr, .int .i64 s.nx, .slice ra2 s.rd.length rc2, .slice ha2 s.hd.length hc2, .slice ma2 s.ms.length mc2] 26 (0, 0)))
    (hs : SdAt w7 ra3 rc3 ha3 hc3 ma3 mc3 S) (hb7 : Below w'.drew.heap.size w'.drew w7) :
    w7.heap[g]? = some (.cells #[.bool s.fr, .int .i64 s.nx, .slice ra2 s.rd.length rc2, .slice ha2 s.hd.length hc2, .slice ma2 s.ms.length mc2] 26 (0, 0)) ∧
    Below w.heap.size w (set5 w7 g (.bool S.fr) (.int .i64 S.nx) (.slice ra3 S.rd.length rc3) (.slice ha3 S.hd.length hc3) (.slice ma3 S.ms.length mc3)) ∧
    (set5 w7 g (.bool S.fr) (.int .i64 S.nx) (.slice ra3 S.rd.length rc3) (.slice ha3 S.hd.length hc3) (.slice ma3 S.ms.length mc3)).heap[w.heap.size]? = some (.cells #[.bool false, .int .i64 0, .slice none 0 0, .slice none 0 0, .slice none 0 0] 26 (0, 0)) ∧
    (set5 w7 g (.bool S.fr) (.int .i64 S.nx) (.slice ra3 S.rd.length rc3) (.slice ha3 S.hd.length hc3) (.slice ma3 S.ms.length mc3)).heap[g]? = some (.cells #[.bool S.fr, .int .i64 S.nx, .slice ra3 S.rd.length rc3, .slice ha3 S.hd.length hc3, .slice ma3 S.ms.length mc3] 26 (0, 0)) ∧
    SdAt (set5 w7 g (.bool S.fr) (.int .i64 S.nx) (.slice ra3 S.rd.length rc3) (.slice ha3 S.hd.length hc3) (.slice ma3 S.ms.length mc3)) ra3 rc3 ha3 hc3 ma3 mc3 S := by
  have h1 := box_bl (show w'.drew.heap[g]? = _ from hy) hb7
  have h2 := box_bl (show w'.drew.heap[w.heap.size]? = _ from hx) hb7
  exact ⟨h1, set5_below (hb.trans (hb7.mono hb.size)) (by omega) _ _ _ _ _, (set5_heap _ _ _ _ _ _ _ _ (by omega)).trans h2, set5_box h1 _ _ _ _ _, sd_keep _ _ _ _ _ _ hs h1 fun b hb => set5_heap _ _ _ _ _ _ _ _ hb⟩

set_option maxRecDepth 100000 in
set_option maxHeartbeats 4000000 in
theorem open_any (a : Option Addr) (cap : Nat) (l : List Rx) (w : World) (hf : RlAt w a cap l) (hm : ∀ x ∈ l, MayRc x.r) :
    Calls Try.prog 59 #[.slice a l.length cap] w (ShR (openF sd1 (rcs l)).1 (openF sd1 (rcs l)).2 w) := by
  obtain ⟨hx, hb0, hWs⟩ := one_box (w := w) (.cells #[.bool false, .int .i64 0, .slice none 0 0, .slice none 0 0, .slice none 0 0] 26)
  have HF := Lib.hid hf
  have HM := Lib.hid hm
  have HX := Lib.hid hx
  have HB0 := Lib.hid hb0
  have HWS := Lib.hid hWs
  have HNEW := Lib.hid (new_any (w.alloc (.cells #[.bool false, .int .i64 0, .slice none 0 0, .slice none 0 0, .slice none 0 0] 26)))
  clear hf hm hx hb0 hWs
  go_enter Try.func59, Try.ntmps59
  go_wp2_with fail
  refine wp_scope_ghost 0 (openRel l w) rfl ?_ ?_
  · intro H hb'
    have HBK := Lib.hid hb'
    clear hb'
    go_wp2_with (go_at_call 38; refine HNEW.out.mono ?_; rintro e w1 ⟨rfl, hb1⟩; have HB1 := Lib.hid hb1; clear hb1)
    go_step3
    rename_i hK
    have hs1 := HB1.out.size
    rw [HWS.out] at hs1
    have hb2 : Below w.heap.size w w1 := HB0.out.trans (HB1.out.mono HB0.out.size)
    have HC := Lib.hid (And.intro (box_al (box_bl HX.out HB1.out) (.cells #[.bool false, .int .i64 1, .slice none 0 0, .slice none 0 0, .slice none 0 0] 26)) (And.intro (heap_alloc_new w1 (.cells #[.bool false, .int .i64 1, .slice none 0 0, .slice none 0 0, .slice none 0 0] 26)) (hb2.alloc hb2.size (.cells #[.bool false, .int .i64 1, .slice none 0 0, .slice none 0 0, .slice none 0 0] 26))))
    refine hK _ _ (HBK.out l.length _ _ ⟨l, a, cap, sd1, 0, none, 0, none, 0, none, 0, w1.heap.size, ?_⟩)
    repeat apply Exists.intro
    exact ⟨rfl, rfl, HF.out, HM.out, HC.out.2.2, by omega, HC.out.1, HC.out.2.1, sd_nil _, .inl ⟨rfl, rfl⟩⟩
  · rintro m a' w' ⟨r, ta, tc, s1, c, ra2, rc2, ha2, hc2, ma2, mc2, g, u1, u6, u7, u8, u9, u10, u11, u12, u13, u14, u15, u16, u17, u18, u19, u20, u21, u22, u23, u24, u25, rfl, rfl, hr, hm, hb, hg, hx, hy, hs1, he⟩ H hH
    have HH := Lib.hid hH
    have HR := Lib.hid hr
    have HMM := Lib.hid hm
    have HB := Lib.hid hb
    have HG := Lib.hid hg
    have HBX := Lib.hid hx
    have HBY := Lib.hid hy
    have HS1 := Lib.hid hs1
    have HE := Lib.hid he
    clear hH hr hm hb hg hs1 he
    obtain ⟨⟨c0, c1, c2, c3, c4⟩, f0, f1, f2, f3, f4⟩ := box5 hx
    obtain ⟨⟨d0, d1, d2, d3, d4⟩, k0, k1, k2, k3, k4⟩ := box5 hy
    clear hx hy
    cases r with
    | nil =>
      have HEE := Lib.hid (open_end HE.out (.inl rfl))
      go_wp2_with fail
      refine bodyPost_ret (v := .tuple #[.agg #[.bool s1.fr, .int .i64 s1.nx, .slice ra2 s1.rd.length rc2, .slice ha2 s1.hd.length hc2, .slice ma2 s1.ms.length mc2], .int .i64 c]) (res_sd (i := 2) (j := 3) (g := w.heap.size) Try.results59 rfl rfl (set5_box HBX.out _ _ _ _ _)) rfl ?_
      rw [HEE.out.1, HEE.out.2]
      exact app_end _ _ _ _ _ _ _ _ _ _ _ _ HB.out (Nat.le_refl _) HBX.out HS1.out
    | cons x rest =>
      have n0 : (0 : Int) < (rest.length : Int) + 1 := by omega
      have n1 : 0 < rest.length + 1 := by omega
      have hmax := HR.out.at'.max
      have hlen := HR.out.at'.len
      unfold maxLen at hmax
      simp only [List.length_cons] at hlen
      by_cases hc : c = 0
      case neg =>
        have HEE := Lib.hid (open_end HE.out (.inr hc))
        have n2 : (c == 0) = false := by simpa using hc
        clear hc
        go_wp2_with fail
        refine bodyPost_ret (v := .tuple #[.agg #[.bool s1.fr, .int .i64 s1.nx, .slice ra2 s1.rd.length rc2, .slice ha2 s1.hd.length hc2, .slice ma2 s1.ms.length mc2], .int .i64 c]) (res_sd (i := 2) (j := 3) (g := w.heap.size) Try.results59 rfl rfl (set5_box HBX.out _ _ _ _ _)) rfl ?_
        rw [HEE.out.1, HEE.out.2]
        exact app_end _ _ _ _ _ _ _ _ _ _ _ _ HB.out (Nat.le_refl _) HBX.out HS1.out
      subst hc
      have HE2 : Hid (openF sd1 (rcs l) = openF s1 (x.r :: rcs rest)) := Lib.hid (by rcases HE.out with ⟨-, h⟩ | ⟨h, -⟩; exact h; exact absurd rfl h)
      obtain ⟨b, o, a2, rfl, hcl, hr2, h1c, hsl, hxa⟩ := HR.out.tail
      have hx0 := hcl 0 _ rfl
      have hx1 := hcl 1 _ rfl
      have hx2 := hcl 2 _ rfl
      have hx3 := hcl 3 _ rfl
      have hx4 := hcl 4 _ rfl
      have hx5 := hcl 5 _ rfl
      have hx6 := hcl 6 _ rfl
      have hx7 := hcl 7 _ rfl
      have hx8 := hcl 8 _ rfl
      rw [Nat.add_zero] at hx0
      have x0 := (HB.out.cell (p := ⟨b, o, none⟩) (lt_of_cell hx0)).trans hx0
      have x1 := (HB.out.cell (p := ⟨b, o + 1, none⟩) (lt_of_cell hx1)).trans hx1
      have x2 := (HB.out.cell (p := ⟨b, o + 2, none⟩) (lt_of_cell hx2)).trans hx2
      have x3 := (HB.out.cell (p := ⟨b, o + 3, none⟩) (lt_of_cell hx3)).trans hx3
      have x4 := (HB.out.cell (p := ⟨b, o + 4, none⟩) (lt_of_cell hx4)).trans hx4
      have x5 := (HB.out.cell (p := ⟨b, o + 5, none⟩) (lt_of_cell hx5)).trans hx5
      have x6 := (HB.out.cell (p := ⟨b, o + 6, none⟩) (lt_of_cell hx6)).trans hx6
      have x7 := (HB.out.cell (p := ⟨b, o + 7, none⟩) (lt_of_cell hx7)).trans hx7
      have x8 := (HB.out.cell (p := ⟨b, o + 8, none⟩) (lt_of_cell hx8)).trans hx8
      have HR2 := Lib.hid hr2
      have HMX := Lib.hid (HMM.out x (by simp))
      have HM2 : Hid (∀ y ∈ rest, MayRc y.r) := Lib.hid fun y hy => HMM.out y (by simp [hy])
      have HBD : Hid (Below w.heap.size w w'.drew) := Lib.hid HB.out.drew
      have HCA := Lib.hid (apply_any s1 ra2 rc2 ha2 hc2 ma2 mc2 x.r x.ba x.bc x.ra x.rc x.ha x.hc x.ma x.mc w'.drew (HS1.out.below _ _ _ _ _ _ (Below.refl _ _).drew) (hxa.below HBD.out) HMX.out)
      clear hr2 hcl hx0 hx1 hx2 hx3 hx4 hx5 hx6 hx7 hx8 hxa
      go_wp2_with fail
      go_region_law (first | (go_simp; go_at_call 102; refine HCA.out.mono ?_; rintro e w7 ⟨ra3, rc3, ha3, hc3, ma3, mc3, rfl, hs7, hb7⟩; obtain ⟨y1, y2, y3, y4, y5⟩ := open_step _ _ _ _ _ _ _ _ _ _ _ _ HBD.out HG.out HBX.out HBY.out hs7 hb7; obtain ⟨⟨p0, p1, p2, p3, p4⟩, r0, r1, r2, r3, r4⟩ := box5 y1; have HY := Lib.hid (And.intro y2 (And.intro y3 (And.intro y4 y5))); clear hs7 hb7 y1 y2 y3 y4 y5))
      all_goals
        go_wp2_with fail
        go_step3
        refine ⟨rfl, HH.out rest.length _ _ (by simp) ⟨rest, a2, tc - 1, appS s1 x.r, appC s1 x.r, ra3, rc3, ha3, hc3, ma3, mc3, g, ?_⟩⟩
        repeat apply Exists.intro
        exact ⟨rfl, rfl, HR2.out, HM2.out, HY.out.1, HG.out, HY.out.2.1, HY.out.2.2.1, HY.out.2.2.2, open_next HE2.out⟩

end Go.Proofs.Ythohjcfpobeplaa.Sl
