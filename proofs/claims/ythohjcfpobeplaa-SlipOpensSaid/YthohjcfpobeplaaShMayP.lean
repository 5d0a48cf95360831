/-
  shard.mayPut, walked.
-/
import Derived.Test.YthohjcfpobeplaaShFull
import Derived.Test.YthohjcfpobeplaaShBat
import Derived.BigRegion
namespace Go.Proofs.Ythohjcfpobeplaa.Sh
open Go.RowKit Rg Go.Sort
set_option linter.unusedVariables false
set_option linter.unusedSimpArgs false

theorem putC_arg1 {s : Sd} {l : List Mg} (h : ¬ MaySd s) : putC s l = 1 := by unfold putC; rw [if_pos (fun g => h g.1)]
theorem putC_arg2 {s : Sd} {l : List Mg} (h : ¬ MayB l) : putC s l = 1 := by unfold putC; rw [if_pos (fun g => h g.2)]
theorem putC_of {s : Sd} {l : List Mg} (h1 : MaySd s) (h2 : MayB l) : putC s l = if (endB l).seq ≤ lastF s.ms (firstB l).pub (firstB l).key then 8 else if (firstB l).seq ≤ lastF s.ms (firstB l).pub (firstB l).key then 1 else if s.fr = true then 6 else if FullP s l then 4 else 0 := by
  unfold putC
  rw [if_neg (fun g => g ⟨h1, h2⟩)]
  rfl

set_option maxRecDepth 100000 in
set_option maxHeartbeats 4000000 in
theorem mayPut_any (s : Sd) (ra : Option Addr) (rc : Nat) (ha : Option Addr) (hc : Nat) (ma : Option Addr) (mc : Nat) (a : Option Addr) (cap : Nat) (l : List Mg) (hl9 : l.length ≤ 1000) (w : World) (hs : SdAt w ra rc ha hc ma mc s) (hf : MgsAt w a cap l) :
    Calls Try.prog 63 #[.agg #[.bool s.fr, .int .i64 s.nx, .slice ra s.rd.length rc, .slice ha s.hd.length hc, .slice ma s.ms.length mc], .slice a l.length cap] w fun e w' => e = .returned (.int .i64 (putC s l)) ∧ Below w.heap.size w w' := by
  obtain ⟨W, hW⟩ : ∃ W, W = w.alloc (.cells #[.bool s.fr, .int .i64 s.nx, .slice ra s.rd.length rc, .slice ha s.hd.length hc, .slice ma s.ms.length mc] 26) := ⟨_, rfl⟩
  have hb0 : Below w.heap.size w W := by rw [hW]; exact (Below.refl _ _).alloc (Nat.le_refl _) _
  have hWs : W.heap.size = w.heap.size + 1 := by rw [hW]; simp
  have hx : W.heap[w.heap.size]? = some (.cells #[.bool s.fr, .int .i64 s.nx, .slice ra s.rd.length rc, .slice ha s.hd.length hc, .slice ma s.ms.length mc] 26 (0, 0)) := by rw [hW]; exact heap_alloc_new _ _
  have HB0 := Lib.hid hb0
  have HWS := Lib.hid hWs
  have HX := Lib.hid hx
  have HS1 := Lib.hid (hs.below ra rc ha hc ma mc hb0)
  have HF1 := Lib.hid (hf.below hb0)
  have HMAY := Lib.hid (may_any s ra rc ha hc ma mc W HS1.out)
  have HW := Lib.hid hW
  by_cases h1 : MaySd s
  case neg =>
    have HR := Lib.hid (putC_arg1 (l := l) h1)
    rw [decide_eq_false h1, hW] at HMAY
    clear h1 hs hf hb0 hWs hx hW
    go_enter Try.func63, Try.ntmps63
    go_wp2_with (go_at_call 24; refine HMAY.out.mono ?_; rintro e w1 ⟨rfl, hb1⟩; have HB1 := Lib.hid hb1; clear hb1)
    go_ret
    exact ⟨by rw [HR.out]; rfl, HB0.out.trans ((HW.out ▸ HB1.out).mono HB0.out.size)⟩
  rw [decide_eq_true h1, hW] at HMAY
  have HMB := Lib.hid fun wx (hx : Below W.heap.size W wx) => mayB_any a cap l wx (HF1.out.below hx)
  rw [hW] at HMB
  by_cases h2 : MayB l
  case neg =>
    have HR := Lib.hid (putC_arg2 (s := s) h2)
    rw [decide_eq_false h2] at HMB
    clear h1 h2 hs hf hb0 hWs hx hW
    go_enter Try.func63, Try.ntmps63
    go_wp2_with (first | (go_at_call 24; refine HMAY.out.mono ?_; rintro e w1 ⟨rfl, hb1⟩; have HB1 := Lib.hid hb1; clear hb1) | (go_at_call 104; refine (HMB.out _ HB1.out).mono ?_; rintro e w2 ⟨rfl, hg2⟩; have HB2 := Lib.hid (HB1.out.trans (hg2.below.mono HB1.out.size)); clear hg2))
    go_ret
    exact ⟨by rw [HR.out]; rfl, HB0.out.trans ((HW.out ▸ HB2.out).mono HB0.out.size)⟩
  rw [decide_eq_true h2] at HMB
  have hR := putC_of h1 h2
  have hl0 : 0 < l.length := h2.1
  have hl8 := h2.2.1
  rw [first_get hl0, end_get hl0] at hR
  have HR := Lib.hid hR
  have h0l : (0 : Int) < (l.length : Int) := by omega
  have q1 : IntKind.i64.wrap ((l.length : Int) - 1) = ((l.length - 1 : Nat) : Int) := by rw [IntWalk.i64_in _ (by omega)]; omega
  have q2 : ((l.length - 1 : Nat) : Int) < (l.length : Int) := by omega
  have q3 : (0 : Int) ≤ ((l.length - 1 : Nat) : Int) := by omega
  have q4 : l.length - 1 < l.length := by omega
  have HFULL := Lib.hid fun wx (hx : Below W.heap.size W wx) => full_any s ra rc ha hc ma mc a cap l hl0 hl9 wx (HS1.out.below _ _ _ _ _ _ hx) (HF1.out.below hx)
  have HLAST := Lib.hid fun wx (hx : Below W.heap.size W wx) => last_any s ra rc ha hc ma mc l[0].pub l[0].key wx (HS1.out.below _ _ _ _ _ _ hx)
  obtain ⟨fst, hfst⟩ : ∃ x, l[0] = x := ⟨_, rfl⟩
  obtain ⟨lst, hlst⟩ : ∃ x, l[l.length - 1] = x := ⟨_, rfl⟩
  have HFST := Lib.hid hfst
  have HLST := Lib.hid hlst
  clear h1 h2 hs hf hb0 hWs hx hR hfst hlst
  go_enter Try.func63, Try.ntmps63
  go_wp2_with (first | (go_at_call 24; refine HMAY.out.mono ?_; rintro e w1 ⟨rfl, hb1⟩; have HB1 := Lib.hid hb1; clear hb1) | (go_at_call 104; refine (HMB.out _ HB1.out).mono ?_; rintro e w2 ⟨rfl, hg2⟩; have HB2 := Lib.hid (HB1.out.trans (hg2.below.mono HB1.out.size)); clear hg2))
  rw [← hW] at HB2
  have hf2 := HF1.out.below HB2.out
  obtain ⟨b, o, rfl, d0, d1, d2, d3, d4⟩ := MgsAt.get hf2 0 hl0
  obtain ⟨b', o', he, z0, z1, z2, z3, z4⟩ := MgsAt.get hf2 (l.length - 1) q4
  injection he with he
  injection he with e1 e2
  subst e1 e2
  rw [show o + 0 * 5 = o by omega] at d0 d1 d2 d3 d4
  rw [HFST.out] at d0 d1 d2 d3 d4 HR HLAST
  rw [HLST.out] at z0 z1 z2 z3 z4 HR
  clear hf2
  have v0 := lt_of_cell d0
  have v1 : ¬ b = w2.heap.size := by omega
  have v2 : ¬ b = w2.heap.size + 1 := by omega
  have hRR := HR.out
  have hRR : putC s l = if lst.seq ≤ lastF s.ms fst.pub fst.key then 8 else if fst.seq ≤ lastF s.ms fst.pub fst.key then 1 else if s.fr = true then 6 else if FullP s l then 4 else 0 := hRR
  generalize lastF s.ms fst.pub fst.key = LL at *
  clear HR
  go_region
  · generalize hw3 : World.drew (World.alloc (World.alloc w2 _) _) = w3
    obtain ⟨t1, t2, t3, t4⟩ := two_box (w := w2) (.cells #[.int .i64 fst.pub, .int .i64 fst.seq, .string ⟨fst.key.toArray⟩, .string ⟨fst.body.toArray⟩, .bool fst.again] 35) (.cells #[.int .i64 lst.pub, .int .i64 lst.seq, .string ⟨lst.key.toArray⟩, .string ⟨lst.body.toArray⟩, .bool lst.again] 35)
    have t1 : w3.heap[w2.heap.size]? = some (.cells #[.int .i64 fst.pub, .int .i64 fst.seq, .string ⟨fst.key.toArray⟩, .string ⟨fst.body.toArray⟩, .bool fst.again] 35) := by rw [← hw3]; exact t1
    have t2 : w3.heap[w2.heap.size + 1]? = some (.cells #[.int .i64 lst.pub, .int .i64 lst.seq, .string ⟨lst.key.toArray⟩, .string ⟨lst.body.toArray⟩, .bool lst.again] 35) := by rw [← hw3]; exact t2
    have t3 : Below w2.heap.size w2 w3 := by rw [← hw3]; exact t3.drew
    have HP1 := Lib.hid t1
    have HP2 := Lib.hid t2
    have HB3 := Lib.hid (HB2.out.trans (t3.mono HB2.out.size))
    obtain ⟨⟨f0, f1, f2, f3, f4⟩, -⟩ := box5 t1
    obtain ⟨⟨y0, y1, y2, y3, y4⟩, -⟩ := box5 ((HB3.out.block _ (by rw [HWS.out]; omega)).trans HX.out)
    have HR0 := Lib.hid hRR
    clear t1 t2 t3 t4 hw3 v0 v1 v2 d0 d1 d2 d3 d4 z0 z1 z2 z3 z4 hW HMAY HMB
    by_cases c1 : lst.seq ≤ LL
    · have HR : Hid (putC s l = 8) := Lib.hid (by rw [HR0.out, if_pos c1])
      have c1' : decide (lst.seq ≤ LL) = true := decide_eq_true c1
      go_wp2_with (go_at_call 56; refine (HLAST.out _ HB3.out).mono ?_; rintro e w5 ⟨rfl, hg5⟩; have HB5 := Lib.hid (HB3.out.trans (hg5.below.mono HB3.out.size)); have x1 := (hg5.below.block _ (Array.getElem?_eq_some_iff.1 HP1.out).1).trans HP1.out; have x2 := (hg5.below.block _ (Array.getElem?_eq_some_iff.1 HP2.out).1).trans HP2.out; obtain ⟨⟨f0, f1, f2, f3, f4⟩, -⟩ := box5 x1; obtain ⟨⟨l0, l1, l2, l3, l4⟩, -⟩ := box5 x2; obtain ⟨⟨y0, y1, y2, y3, y4⟩, -⟩ := box5 ((HB5.out.block _ (by rw [HWS.out]; omega)).trans HX.out); clear x1 x2 hg5)
      go_ret
      exact ⟨by rw [HR.out]; rfl, HB0.out.trans (HB5.out.mono HB0.out.size)⟩
    have c1' : decide (lst.seq ≤ LL) = false := decide_eq_false c1
    by_cases c2 : fst.seq ≤ LL
    · have HR : Hid (putC s l = 1) := Lib.hid (by rw [HR0.out, if_neg c1, if_pos c2])
      have c2' : decide (fst.seq ≤ LL) = true := decide_eq_true c2
      go_wp2_with (go_at_call 56; refine (HLAST.out _ HB3.out).mono ?_; rintro e w5 ⟨rfl, hg5⟩; have HB5 := Lib.hid (HB3.out.trans (hg5.below.mono HB3.out.size)); have x1 := (hg5.below.block _ (Array.getElem?_eq_some_iff.1 HP1.out).1).trans HP1.out; have x2 := (hg5.below.block _ (Array.getElem?_eq_some_iff.1 HP2.out).1).trans HP2.out; obtain ⟨⟨f0, f1, f2, f3, f4⟩, -⟩ := box5 x1; obtain ⟨⟨l0, l1, l2, l3, l4⟩, -⟩ := box5 x2; obtain ⟨⟨y0, y1, y2, y3, y4⟩, -⟩ := box5 ((HB5.out.block _ (by rw [HWS.out]; omega)).trans HX.out); clear x1 x2 hg5)
      go_ret
      exact ⟨by rw [HR.out]; rfl, HB0.out.trans (HB5.out.mono HB0.out.size)⟩
    have c2' : decide (fst.seq ≤ LL) = false := decide_eq_false c2
    by_cases c3 : s.fr = true
    · have HR : Hid (putC s l = 6) := Lib.hid (by rw [HR0.out, if_neg c1, if_neg c2, if_pos c3])
      have H3 := Lib.hid c3
      clear c3
      go_wp2_with (go_at_call 56; refine (HLAST.out _ HB3.out).mono ?_; rintro e w5 ⟨rfl, hg5⟩; have HB5 := Lib.hid (HB3.out.trans (hg5.below.mono HB3.out.size)); have x1 := (hg5.below.block _ (Array.getElem?_eq_some_iff.1 HP1.out).1).trans HP1.out; have x2 := (hg5.below.block _ (Array.getElem?_eq_some_iff.1 HP2.out).1).trans HP2.out; obtain ⟨⟨f0, f1, f2, f3, f4⟩, -⟩ := box5 x1; obtain ⟨⟨l0, l1, l2, l3, l4⟩, -⟩ := box5 x2; obtain ⟨⟨y0, y1, y2, y3, y4⟩, -⟩ := box5 ((HB5.out.block _ (by rw [HWS.out]; omega)).trans HX.out); rw [H3.out] at y0; clear x1 x2 hg5)
      go_ret
      exact ⟨by rw [HR.out]; rfl, HB0.out.trans (HB5.out.mono HB0.out.size)⟩
    have H3 : Hid (s.fr = false) := Lib.hid (by simpa using c3)
    by_cases c4 : FullP s l
    · have HR : Hid (putC s l = 4) := Lib.hid (by rw [HR0.out, if_neg c1, if_neg c2, if_neg c3, if_pos c4])
      rw [decide_eq_true c4, H3.out] at HFULL
      rw [H3.out] at HLAST y0
      clear c3 c4
      go_wp2_with (first | (go_at_call 56; refine (HLAST.out _ HB3.out).mono ?_; rintro e w5 ⟨rfl, hg5⟩; have HB5 := Lib.hid (HB3.out.trans (hg5.below.mono HB3.out.size)); have x1 := (hg5.below.block _ (Array.getElem?_eq_some_iff.1 HP1.out).1).trans HP1.out; have x2 := (hg5.below.block _ (Array.getElem?_eq_some_iff.1 HP2.out).1).trans HP2.out; obtain ⟨⟨f0, f1, f2, f3, f4⟩, -⟩ := box5 x1; obtain ⟨⟨l0, l1, l2, l3, l4⟩, -⟩ := box5 x2; obtain ⟨⟨y0, y1, y2, y3, y4⟩, -⟩ := box5 ((HB5.out.block _ (by rw [HWS.out]; omega)).trans HX.out); rw [H3.out] at y0; clear x1 x2 hg5) | (go_at_call 105; refine (HFULL.out _ HB5.out).mono ?_; rintro e w6 ⟨rfl, hg6⟩; have HB6 := Lib.hid (HB5.out.trans (hg6.below.mono HB5.out.size)); clear hg6))
      go_ret
      exact ⟨by rw [HR.out]; rfl, HB0.out.trans (HB6.out.mono HB0.out.size)⟩
    · have HR : Hid (putC s l = 0) := Lib.hid (by rw [HR0.out, if_neg c1, if_neg c2, if_neg c3, if_neg c4])
      rw [decide_eq_false c4, H3.out] at HFULL
      rw [H3.out] at HLAST y0
      clear c3 c4
      go_wp2_with (first | (go_at_call 56; refine (HLAST.out _ HB3.out).mono ?_; rintro e w5 ⟨rfl, hg5⟩; have HB5 := Lib.hid (HB3.out.trans (hg5.below.mono HB3.out.size)); have x1 := (hg5.below.block _ (Array.getElem?_eq_some_iff.1 HP1.out).1).trans HP1.out; have x2 := (hg5.below.block _ (Array.getElem?_eq_some_iff.1 HP2.out).1).trans HP2.out; obtain ⟨⟨f0, f1, f2, f3, f4⟩, -⟩ := box5 x1; obtain ⟨⟨l0, l1, l2, l3, l4⟩, -⟩ := box5 x2; obtain ⟨⟨y0, y1, y2, y3, y4⟩, -⟩ := box5 ((HB5.out.block _ (by rw [HWS.out]; omega)).trans HX.out); rw [H3.out] at y0; clear x1 x2 hg5) | (go_at_call 105; refine (HFULL.out _ HB5.out).mono ?_; rintro e w6 ⟨rfl, hg6⟩; have HB6 := Lib.hid (HB5.out.trans (hg6.below.mono HB5.out.size)); clear hg6))
      go_ret
      exact ⟨by rw [HR.out]; rfl, HB0.out.trans (HB6.out.mono HB0.out.size)⟩
  · generalize hw3 : World.drew (World.alloc (World.alloc w2 _) _) = w3
    obtain ⟨t1, t2, t3, t4⟩ := two_box (w := w2) (.cells #[.int .i64 lst.pub, .int .i64 lst.seq, .string ⟨lst.key.toArray⟩, .string ⟨lst.body.toArray⟩, .bool lst.again] 35) (.cells #[.int .i64 fst.pub, .int .i64 fst.seq, .string ⟨fst.key.toArray⟩, .string ⟨fst.body.toArray⟩, .bool fst.again] 35)
    have t1 : w3.heap[w2.heap.size]? = some (.cells #[.int .i64 lst.pub, .int .i64 lst.seq, .string ⟨lst.key.toArray⟩, .string ⟨lst.body.toArray⟩, .bool lst.again] 35) := by rw [← hw3]; exact t1
    have t2 : w3.heap[w2.heap.size + 1]? = some (.cells #[.int .i64 fst.pub, .int .i64 fst.seq, .string ⟨fst.key.toArray⟩, .string ⟨fst.body.toArray⟩, .bool fst.again] 35) := by rw [← hw3]; exact t2
    have t3 : Below w2.heap.size w2 w3 := by rw [← hw3]; exact t3.drew
    have HP1 := Lib.hid t2
    have HP2 := Lib.hid t1
    have HB3 := Lib.hid (HB2.out.trans (t3.mono HB2.out.size))
    obtain ⟨⟨f0, f1, f2, f3, f4⟩, -⟩ := box5 t2
    obtain ⟨⟨y0, y1, y2, y3, y4⟩, -⟩ := box5 ((HB3.out.block _ (by rw [HWS.out]; omega)).trans HX.out)
    have HR0 := Lib.hid hRR
    clear t1 t2 t3 t4 hw3 v0 v1 v2 d0 d1 d2 d3 d4 z0 z1 z2 z3 z4 hW HMAY HMB
    by_cases c1 : lst.seq ≤ LL
    · have HR : Hid (putC s l = 8) := Lib.hid (by rw [HR0.out, if_pos c1])
      have c1' : decide (lst.seq ≤ LL) = true := decide_eq_true c1
      go_wp2_with (go_at_call 56; refine (HLAST.out _ HB3.out).mono ?_; rintro e w5 ⟨rfl, hg5⟩; have HB5 := Lib.hid (HB3.out.trans (hg5.below.mono HB3.out.size)); have x1 := (hg5.below.block _ (Array.getElem?_eq_some_iff.1 HP1.out).1).trans HP1.out; have x2 := (hg5.below.block _ (Array.getElem?_eq_some_iff.1 HP2.out).1).trans HP2.out; obtain ⟨⟨f0, f1, f2, f3, f4⟩, -⟩ := box5 x1; obtain ⟨⟨l0, l1, l2, l3, l4⟩, -⟩ := box5 x2; obtain ⟨⟨y0, y1, y2, y3, y4⟩, -⟩ := box5 ((HB5.out.block _ (by rw [HWS.out]; omega)).trans HX.out); clear x1 x2 hg5)
      go_ret
      exact ⟨by rw [HR.out]; rfl, HB0.out.trans (HB5.out.mono HB0.out.size)⟩
    have c1' : decide (lst.seq ≤ LL) = false := decide_eq_false c1
    by_cases c2 : fst.seq ≤ LL
    · have HR : Hid (putC s l = 1) := Lib.hid (by rw [HR0.out, if_neg c1, if_pos c2])
      have c2' : decide (fst.seq ≤ LL) = true := decide_eq_true c2
      go_wp2_with (go_at_call 56; refine (HLAST.out _ HB3.out).mono ?_; rintro e w5 ⟨rfl, hg5⟩; have HB5 := Lib.hid (HB3.out.trans (hg5.below.mono HB3.out.size)); have x1 := (hg5.below.block _ (Array.getElem?_eq_some_iff.1 HP1.out).1).trans HP1.out; have x2 := (hg5.below.block _ (Array.getElem?_eq_some_iff.1 HP2.out).1).trans HP2.out; obtain ⟨⟨f0, f1, f2, f3, f4⟩, -⟩ := box5 x1; obtain ⟨⟨l0, l1, l2, l3, l4⟩, -⟩ := box5 x2; obtain ⟨⟨y0, y1, y2, y3, y4⟩, -⟩ := box5 ((HB5.out.block _ (by rw [HWS.out]; omega)).trans HX.out); clear x1 x2 hg5)
      go_ret
      exact ⟨by rw [HR.out]; rfl, HB0.out.trans (HB5.out.mono HB0.out.size)⟩
    have c2' : decide (fst.seq ≤ LL) = false := decide_eq_false c2
    by_cases c3 : s.fr = true
    · have HR : Hid (putC s l = 6) := Lib.hid (by rw [HR0.out, if_neg c1, if_neg c2, if_pos c3])
      have H3 := Lib.hid c3
      clear c3
      go_wp2_with (go_at_call 56; refine (HLAST.out _ HB3.out).mono ?_; rintro e w5 ⟨rfl, hg5⟩; have HB5 := Lib.hid (HB3.out.trans (hg5.below.mono HB3.out.size)); have x1 := (hg5.below.block _ (Array.getElem?_eq_some_iff.1 HP1.out).1).trans HP1.out; have x2 := (hg5.below.block _ (Array.getElem?_eq_some_iff.1 HP2.out).1).trans HP2.out; obtain ⟨⟨f0, f1, f2, f3, f4⟩, -⟩ := box5 x1; obtain ⟨⟨l0, l1, l2, l3, l4⟩, -⟩ := box5 x2; obtain ⟨⟨y0, y1, y2, y3, y4⟩, -⟩ := box5 ((HB5.out.block _ (by rw [HWS.out]; omega)).trans HX.out); rw [H3.out] at y0; clear x1 x2 hg5)
      go_ret
      exact ⟨by rw [HR.out]; rfl, HB0.out.trans (HB5.out.mono HB0.out.size)⟩
    have H3 : Hid (s.fr = false) := Lib.hid (by simpa using c3)
    by_cases c4 : FullP s l
    · have HR : Hid (putC s l = 4) := Lib.hid (by rw [HR0.out, if_neg c1, if_neg c2, if_neg c3, if_pos c4])
      rw [decide_eq_true c4, H3.out] at HFULL
      rw [H3.out] at HLAST y0
      clear c3 c4
      go_wp2_with (first | (go_at_call 56; refine (HLAST.out _ HB3.out).mono ?_; rintro e w5 ⟨rfl, hg5⟩; have HB5 := Lib.hid (HB3.out.trans (hg5.below.mono HB3.out.size)); have x1 := (hg5.below.block _ (Array.getElem?_eq_some_iff.1 HP1.out).1).trans HP1.out; have x2 := (hg5.below.block _ (Array.getElem?_eq_some_iff.1 HP2.out).1).trans HP2.out; obtain ⟨⟨f0, f1, f2, f3, f4⟩, -⟩ := box5 x1; obtain ⟨⟨l0, l1, l2, l3, l4⟩, -⟩ := box5 x2; obtain ⟨⟨y0, y1, y2, y3, y4⟩, -⟩ := box5 ((HB5.out.block _ (by rw [HWS.out]; omega)).trans HX.out); rw [H3.out] at y0; clear x1 x2 hg5) | (go_at_call 105; refine (HFULL.out _ HB5.out).mono ?_; rintro e w6 ⟨rfl, hg6⟩; have HB6 := Lib.hid (HB5.out.trans (hg6.below.mono HB5.out.size)); clear hg6))
      go_ret
      exact ⟨by rw [HR.out]; rfl, HB0.out.trans (HB6.out.mono HB0.out.size)⟩
    · have HR : Hid (putC s l = 0) := Lib.hid (by rw [HR0.out, if_neg c1, if_neg c2, if_neg c3, if_neg c4])
      rw [decide_eq_false c4, H3.out] at HFULL
      rw [H3.out] at HLAST y0
      clear c3 c4
      go_wp2_with (first | (go_at_call 56; refine (HLAST.out _ HB3.out).mono ?_; rintro e w5 ⟨rfl, hg5⟩; have HB5 := Lib.hid (HB3.out.trans (hg5.below.mono HB3.out.size)); have x1 := (hg5.below.block _ (Array.getElem?_eq_some_iff.1 HP1.out).1).trans HP1.out; have x2 := (hg5.below.block _ (Array.getElem?_eq_some_iff.1 HP2.out).1).trans HP2.out; obtain ⟨⟨f0, f1, f2, f3, f4⟩, -⟩ := box5 x1; obtain ⟨⟨l0, l1, l2, l3, l4⟩, -⟩ := box5 x2; obtain ⟨⟨y0, y1, y2, y3, y4⟩, -⟩ := box5 ((HB5.out.block _ (by rw [HWS.out]; omega)).trans HX.out); rw [H3.out] at y0; clear x1 x2 hg5) | (go_at_call 105; refine (HFULL.out _ HB5.out).mono ?_; rintro e w6 ⟨rfl, hg6⟩; have HB6 := Lib.hid (HB5.out.trans (hg6.below.mono HB5.out.size)); clear hg6))
      go_ret
      exact ⟨by rw [HR.out]; rfl, HB0.out.trans (HB6.out.mono HB0.out.size)⟩

end Go.Proofs.Ythohjcfpobeplaa.Sh
