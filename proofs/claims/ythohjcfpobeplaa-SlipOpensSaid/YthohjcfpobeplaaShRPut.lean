/-
  The document's Put, walked.
-/
import Derived.Test.YthohjcfpobeplaaShRGet
import Derived.Test.YthohjcfpobeplaaShRPutD
import Derived.Test.YthohjcfpobeplaaShTold
import Derived.Test.YthohjcfpobeplaaShRBat
import Derived.Test.YthohjcfpobeplaaShPut
import Derived.Deep.RegionLaw
namespace Go.Proofs.Ythohjcfpobeplaa.Sh
open Go.RowKit Rg Go.Sort
set_option linter.unusedVariables false
set_option linter.unusedSimpArgs false

theorem shr_same {w w2 : World} {s : Sd} (c : Int) (ra : Option Addr) (rc : Nat) (ha : Option Addr) (hc : Nat) (ma : Option Addr) (mc : Nat) (x y z u v : Value) (hs : SdAt w ra rc ha hc ma mc s) (hb : Below w.heap.size w w2) :
    ShR s c w (.returned (.tuple #[.agg #[.bool s.fr, .int .i64 s.nx, .slice ra s.rd.length rc, .slice ha s.hd.length hc, .slice ma s.ms.length mc], .int .i64 c])) (set5 w2 (w.heap.size + 1) x y z u v) := by
  have h2 := set5_below hb (Nat.le_succ _) x y z u v
  exact shr_of _ _ _ _ _ _ (hs.below _ _ _ _ _ _ h2) h2
def rputRel (W2 : World) (b0 : Bool) (s : Sd) (l : List Mg) (p : Int) (k : List UInt8) (q : Int) (B : Nat) (xr : Option Addr) (cr : Nat) (ha : Option Addr) (hc : Nat) (xm : Option Addr) (cm : Nat) (N : Nat) (m : Nat) (v : Value) (wr : World) : Prop :=
  ∃ j : Nat, j ≤ s.ms.length ∧ v = .int .i64 j ∧ m = s.ms.length - j ∧ Below W2.heap.size W2 wr ∧
    wr.heap[W2.heap.size]? = some (.cells #[.bool b0, .int .i64 s.nx, .slice xr N cr, .slice ha s.hd.length hc, .slice xm s.ms.length cm] 26 (0, 0)) ∧
    OwnG wr B (.slice xr N cr) (s.rd ++ l) ∧ OwnK wr B (.slice xm s.ms.length cm) (mixL (updK p k q) s.ms j)
theorem rput_end {w V : World} {s : Sd} (ra : Option Addr) (rc : Nat) (ha : Option Addr) (hc : Nat) (ma : Option Addr) (mc : Nat) {xr : Option Addr} {cr : Nat} {xm : Option Addr} {cm : Nat} {B N M : Nat} {rd' : List Mg} {ms' : List Mk} (x y z u v : Value) (hs : SdAt w ra rc ha hc ma mc s) (hb : Below w.heap.size w V) (hr : OwnG V B (.slice xr N cr) rd') (hm : OwnK V B (.slice xm M cm) ms') (hN : N = rd'.length) (hM : M = ms'.length) (hB : w.heap.size + 1 < B) (h1 : rd'.length ≤ 1000) (h2 : ms'.length ≤ 1000) :
    ShR { s with rd := rd', ms := ms' } 0 w (.returned (.tuple #[.agg #[.bool s.fr, .int .i64 s.nx, .slice xr N cr, .slice ha s.hd.length hc, .slice xm M cm], .int .i64 0])) (set5 V (w.heap.size + 1) x y z u v) := by
  subst hN hM
  have hz := set5_below hb (Nat.le_succ _) x y z u v
  have hf : ∀ b, B ≤ b → (set5 V (w.heap.size + 1) x y z u v).heap[b]? = V.heap[b]? := fun b h => set5_heap _ _ _ _ _ _ _ _ (by omega)
  obtain ⟨a', c', he, g2, g3⟩ := OwnE.at mgE (OwnE.kept (w' := set5 V (w.heap.size + 1) x y z u v) hr fun b hb _ => hf b hb)
  obtain ⟨rfl, -, rfl⟩ := Value.slice.inj he
  obtain ⟨a', c', he, g4, g5⟩ := OwnE.at mkE (OwnE.kept (w' := set5 V (w.heap.size + 1) x y z u v) hm fun b hb _ => hf b hb)
  obtain ⟨rfl, -, rfl⟩ := Value.slice.inj he
  have hh := hs.below _ _ _ _ _ _ hz
  exact ⟨_, _, _, _, _, _, rfl, ⟨g2, hh.hd, g4, g3, hh.nh, g5, h1, hs.sm.2.1, h2⟩, hz⟩
theorem at_le {w w' : World} {b : Nat} (h : Below w.heap.size w w') (hb : b < w.heap.size) : b < w'.heap.size ∧ ¬ b = w'.heap.size := by have := h.size; omega

set_option maxRecDepth 100000 in
set_option maxHeartbeats 8000000 in
theorem rput_any (s : Sd) (ra : Option Addr) (rc : Nat) (ha : Option Addr) (hc : Nat) (ma : Option Addr) (mc : Nat) (a : Option Addr) (cap : Nat) (l : List Mg) (hl9 : l.length ≤ 1000) (w : World) (hs : SdAt w ra rc ha hc ma mc s) (hf : MgsAt w a cap l) (hn : a = none → cap = 0) :
    Calls Try.prog 21 #[.agg #[.bool s.fr, .int .i64 s.nx, .slice ra s.rd.length rc, .slice ha s.hd.length hc, .slice ma s.ms.length mc], .slice a l.length cap] w (ShR (putS s l) (putC s l) w) := by
  obtain ⟨hx, hy, hb0, hWs⟩ := two_box (w := w) (.cells #[.bool s.fr, .int .i64 s.nx, .slice ra s.rd.length rc, .slice ha s.hd.length hc, .slice ma s.ms.length mc] 26) (.cells #[.bool false, .int .i64 0, .slice none 0 0, .slice none 0 0, .slice none 0 0] 26)
  obtain ⟨W, hW⟩ : ∃ W, W = (w.alloc (.cells #[.bool s.fr, .int .i64 s.nx, .slice ra s.rd.length rc, .slice ha s.hd.length hc, .slice ma s.ms.length mc] 26)).alloc (.cells #[.bool false, .int .i64 0, .slice none 0 0, .slice none 0 0, .slice none 0 0] 26) := ⟨_, rfl⟩
  rw [← hW] at hx hy hb0 hWs
  have HBX := Lib.hid (boxes ra rc ha hc ma mc hx hy (by omega))
  have HB0 := Lib.hid hb0
  have HWS := Lib.hid hWs
  have HS1 := Lib.hid (hs.below ra rc ha hc ma mc hb0)
  have HS0 := Lib.hid hs
  have HF := Lib.hid hf
  have HN := Lib.hid hn
  have HW := Lib.hid hW
  have HMAY := Lib.hid (rmay_any s ra rc ha hc ma mc W HS1.out)
  rw [hW] at HMAY
  have HMB := Lib.hid fun (wx : World) (h : Below W.heap.size W wx) => rmayB_any a cap l wx (hf.below (hb0.trans (h.mono hb0.size)))
  clear hs hf hn hx hy hb0 hWs hW
  by_cases h1 : MaySd s
  case neg =>
    as_aux_lemma =>
      have HR := Lib.hid (put_arg (putC_arg1 (l := l) h1) (by decide))
      rw [decide_eq_false h1] at HMAY
      clear h1
      go_enter Try.func21, Try.ntmps21
      go_wp2_with (first | (go_at_call 25; refine HMAY.out.mono ?_; rintro e w1 ⟨rfl, hb1⟩; rw [← HW.out] at hb1; have HB1 := Lib.hid hb1; obtain ⟨⟨c0, c1, c2, c3, c4⟩, -⟩ := box5 (HBX.out _ hb1).1; obtain ⟨⟨d0, d1, d2, d3, d4⟩, f0, f1, f2, f3, f4⟩ := box5 (HBX.out _ hb1).2; clear hb1))
      refine bodyPost_ret (v := .tuple #[.agg #[.bool s.fr, .int .i64 s.nx, .slice ra s.rd.length rc, .slice ha s.hd.length hc, .slice ma s.ms.length mc], .int .i64 1]) (res_sd (i := 4) (j := 5) (g := w.heap.size + 1) Try.results21 rfl rfl (set5_box (HBX.out _ HB1.out).2 _ _ _ _ _)) rfl ?_
      rw [HR.out.1, HR.out.2]
      exact shr_same _ _ _ _ _ _ _ _ _ _ _ _ HS0.out (HB0.out.trans (HB1.out.mono HB0.out.size))
  rw [decide_eq_true h1] at HMAY
  by_cases h2 : MayB l
  case neg =>
    as_aux_lemma =>
      have HR := Lib.hid (put_arg (putC_arg2 (s := s) h2) (by decide))
      rw [decide_eq_false h2] at HMB
      clear h1 h2
      go_enter Try.func21, Try.ntmps21
      go_wp2_with (first | (go_at_call 25; refine HMAY.out.mono ?_; rintro e w1 ⟨rfl, hb1⟩; rw [← HW.out] at hb1; have HB1 := Lib.hid hb1; clear hb1) | (go_at_call 66; refine (HMB.out _ HB1.out).mono ?_; rintro e w2 ⟨rfl, hg2⟩; have HB2 := Lib.hid (HB1.out.trans (hg2.below.mono HB1.out.size)); obtain ⟨⟨c0, c1, c2, c3, c4⟩, -⟩ := box5 (HBX.out _ HB2.out).1; obtain ⟨⟨d0, d1, d2, d3, d4⟩, f0, f1, f2, f3, f4⟩ := box5 (HBX.out _ HB2.out).2; clear hg2))
      refine bodyPost_ret (v := .tuple #[.agg #[.bool s.fr, .int .i64 s.nx, .slice ra s.rd.length rc, .slice ha s.hd.length hc, .slice ma s.ms.length mc], .int .i64 1]) (res_sd (i := 4) (j := 5) (g := w.heap.size + 1) Try.results21 rfl rfl (set5_box (HBX.out _ HB2.out).2 _ _ _ _ _)) rfl ?_
      rw [HR.out.1, HR.out.2]
      exact shr_same _ _ _ _ _ _ _ _ _ _ _ _ HS0.out (HB0.out.trans (HB2.out.mono HB0.out.size))
  rw [decide_eq_true h2] at HMB
  have hl0 : 0 < l.length := h2.1
  have hl8 := h2.2.1
  have h0l : (0 : Int) < (l.length : Int) := by omega
  have q1 : IntKind.i64.wrap ((l.length : Int) - 1) = ((l.length - 1 : Nat) : Int) := by rw [IntWalk.i64_in _ (by omega)]; omega
  have q2 : ((l.length - 1 : Nat) : Int) < (l.length : Int) := by omega
  have q3 : (0 : Int) ≤ ((l.length - 1 : Nat) : Int) := by omega
  have q4 : l.length - 1 < l.length := by omega
  have hsl := h1.2.2.1
  have hsm := h1.2.2.2.1
  have q5 : IntKind.i64.wrap ((s.rd.length : Int) + (s.hd.length : Int)) = (s.rd.length : Int) + (s.hd.length : Int) := IntWalk.i64_in _ (by omega)
  have q6 : IntKind.i64.wrap ((s.rd.length : Int) + (s.hd.length : Int) + (l.length : Int)) = (s.rd.length : Int) + (s.hd.length : Int) + (l.length : Int) := IntWalk.i64_in _ (by omega)
  have HC8 := Lib.hid fun h => put_arg (putC_dup h1 h2 h) (by decide)
  have HC1 := Lib.hid fun h3 h => put_arg (putC_part h1 h2 h3 h) (by decide)
  have HC6 := Lib.hid fun h3 h4 h => put_arg (putC_fro h1 h2 h3 h4 h) (by decide)
  have HC4 := Lib.hid fun h3 h4 h5 h => put_arg (putC_ful h1 h2 h3 h4 h5 h) (by decide)
  have HC0 := Lib.hid fun h3 h4 h5 h h6 => putC_fine h1 h2 h3 h4 h5 h h6
  have H1 := Lib.hid h1
  rw [first_get hl0, end_get hl0] at HC8 HC1 HC6 HC4 HC0
  have HLAST := Lib.hid fun (wx : World) (h : Below W.heap.size W wx) => rlast_any s ra rc ha hc ma mc l[0].pub l[0].key wx (HS1.out.below _ _ _ _ _ _ h)
  have HMK := Lib.hid (last_may h1.2.2.2.2.1 l[0].pub l[0].key)
  obtain ⟨fst, hfst⟩ : ∃ x, l[0] = x := ⟨_, rfl⟩
  obtain ⟨lst, hlst⟩ : ∃ x, l[l.length - 1] = x := ⟨_, rfl⟩
  rw [hfst] at HC8 HC1 HC6 HC4 HC0 HLAST HMK
  rw [hlst] at HC8 HC1 HC6 HC4 HC0
  have HFST := Lib.hid hfst
  have HLST := Lib.hid hlst
  obtain ⟨lastv, hlv⟩ : ∃ x, lastF s.ms fst.pub fst.key = x := ⟨_, rfl⟩
  rw [hlv] at HC8 HC1 HC6 HC4 HC0 HLAST HMK
  have HLV := Lib.hid hlv
  clear h1 h2 hfst hlst hlv
  go_enter Try.func21, Try.ntmps21
  go_wp2_with (first | (go_at_call 25; refine HMAY.out.mono ?_; rintro e w1 ⟨rfl, hb1⟩; rw [← HW.out] at hb1; have HB1 := Lib.hid hb1; clear hb1) | (go_at_call 66; refine (HMB.out _ HB1.out).mono ?_; rintro e w2 ⟨rfl, hg2⟩; have HB2 := Lib.hid (HB1.out.trans (hg2.below.mono HB1.out.size)); clear hg2))
  clear HMAY HMB HB1
  have hf2 := HF.out.below (HB0.out.trans (HB2.out.mono HB0.out.size))
  obtain ⟨b, o, hab, x0, x1, x2, x3, x4⟩ := MgsAt.get hf2 0 hl0
  obtain ⟨b', o', hab', v0, v1, v2, v3, v4⟩ := MgsAt.get hf2 (l.length - 1) q4
  subst hab
  obtain ⟨rfl, rfl⟩ : b = b' ∧ o = o' := by injection hab' with he; injection he with e1 e2; exact ⟨e1, e2⟩
  rw [show o + 0 * 5 = o by omega, HFST.out] at x0 x1 x2
  rw [HLST.out] at v1
  have z0 := fun p : Und w2 => cell_und x0 p
  have z1 := fun p : Und w2 => cell_und x1 p
  have z2 := fun p : Und w2 => cell_und x2 p
  have z3 := fun p : Und w2 => cell_und v1 p
  have y0 := fun p : Und w2 => (box5 (HBX.out _ (HB2.out.trans (p.hb.mono HB2.out.size))).1).1.1
  have y1 := fun p : Und w2 => (box5 (HBX.out _ (HB2.out.trans (p.hb.mono HB2.out.size))).1).1.2.1
  have y2 := fun p : Und w2 => (box5 (HBX.out _ (HB2.out.trans (p.hb.mono HB2.out.size))).1).1.2.2.1
  have y3 := fun p : Und w2 => (box5 (HBX.out _ (HB2.out.trans (p.hb.mono HB2.out.size))).1).1.2.2.2.1
  have y4 := fun p : Und w2 => (box5 (HBX.out _ (HB2.out.trans (p.hb.mono HB2.out.size))).1).1.2.2.2.2
  have HLK := Lib.hid fun p : Und w2 => HLAST.out p.wx (HB2.out.trans (p.hb.mono HB2.out.size))
  have mixed : Try.prog.follows .mixedOrders = true := by kernel_rfl
  clear x0 x1 x2 x3 x4 v0 v1 v2 v3 v4 hab' hf2
  (refine wp_region_quiet_below (by assumption) (by kernel_rfl) ?_; (try dsimp only [List.append]); (repeat (go_big_quiet_step ((go_at_call 67; with_reducible exact Calls.below_of (HLK.out _))))); refine wpQuiet_nil ?_; intro _ hw'; obtain ⟨wq, hw''⟩ := hw'; subst hw''; have HBQ := Lib.hid wq.hb)
  have hb3 := HB2.out.trans (HBQ.out.mono HB2.out.size)
  obtain ⟨W2, hW2⟩ : ∃ W2, W2 = wq.wx := ⟨_, rfl⟩
  rw [← hW2] at hb3 ⊢
  clear HLK HLAST z0 z1 z2 z3 y0 y1 y2 y3 y4 hW2 HBQ HB2
  have HB2 := Lib.hid hb3
  clear hb3
  obtain ⟨⟨c0, c1, c2, c3, c4⟩, -⟩ := box5 (HBX.out _ HB2.out).1
  obtain ⟨⟨d0, d1, d2, d3, d4⟩, f0, f1, f2, f3, f4⟩ := box5 (HBX.out _ HB2.out).2
  have hf2 := HF.out.below (HB0.out.trans (HB2.out.mono HB0.out.size))
  obtain ⟨b', o', hab', x0, x1, x2, x3, x4⟩ := MgsAt.get hf2 0 hl0
  obtain ⟨rfl, rfl⟩ : b = b' ∧ o = o' := by injection hab' with he; injection he with e1 e2; exact ⟨e1, e2⟩
  rw [show o + 0 * 5 = o by omega, HFST.out] at x0 x1 x2
  clear hab' hf2 x3 x4
  by_cases h3 : lst.seq ≤ lastv
  case pos =>
    as_aux_lemma =>
      have HR := Lib.hid (HC8.out h3)
      go_wp2_with fail
      refine bodyPost_ret (v := .tuple #[.agg #[.bool s.fr, .int .i64 s.nx, .slice ra s.rd.length rc, .slice ha s.hd.length hc, .slice ma s.ms.length mc], .int .i64 8]) (res_sd (i := 4) (j := 5) (g := w.heap.size + 1) Try.results21 rfl rfl (set5_box (HBX.out _ HB2.out).2 _ _ _ _ _)) rfl ?_
      rw [HR.out.1, HR.out.2]
      exact shr_same _ _ _ _ _ _ _ _ _ _ _ _ HS0.out (HB0.out.trans (HB2.out.mono HB0.out.size))
  by_cases h4 : fst.seq ≤ lastv
  case pos =>
    as_aux_lemma =>
      have HR := Lib.hid (HC1.out (by omega) (by omega))
      go_wp2_with fail
      refine bodyPost_ret (v := .tuple #[.agg #[.bool s.fr, .int .i64 s.nx, .slice ra s.rd.length rc, .slice ha s.hd.length hc, .slice ma s.ms.length mc], .int .i64 1]) (res_sd (i := 4) (j := 5) (g := w.heap.size + 1) Try.results21 rfl rfl (set5_box (HBX.out _ HB2.out).2 _ _ _ _ _)) rfl ?_
      rw [HR.out.1, HR.out.2]
      exact shr_same _ _ _ _ _ _ _ _ _ _ _ _ HS0.out (HB0.out.trans (HB2.out.mono HB0.out.size))
  by_cases h5 : s.fr = true
  case pos =>
    as_aux_lemma =>
      have HR := Lib.hid (HC6.out (by omega) (by omega) h5)
      rw [h5] at c0
      have HFR := Lib.hid h5
      clear h5
      go_wp2_with fail
      refine bodyPost_ret (v := .tuple #[.agg #[.bool true, .int .i64 s.nx, .slice ra s.rd.length rc, .slice ha s.hd.length hc, .slice ma s.ms.length mc], .int .i64 6]) (res_sd (i := 4) (j := 5) (g := w.heap.size + 1) Try.results21 rfl rfl (set5_box (HBX.out _ HB2.out).2 _ _ _ _ _)) rfl ?_
      rw [HR.out.1, HR.out.2, ← HFR.out]
      exact shr_same _ _ _ _ _ _ _ _ _ _ _ _ HS0.out (HB0.out.trans (HB2.out.mono HB0.out.size))
  have h5' : s.fr = false := by simpa using h5
  have HFR := Lib.hid h5'
  have c0' := c0
  rw [h5'] at c0'
  clear h5 c0
  have c0 := c0'
  clear c0'
  by_cases h6 : 48 < s.rd.length + s.hd.length + l.length
  case pos =>
    as_aux_lemma =>
      have HR := Lib.hid (HC4.out (by omega) (by omega) h5' (.inl h6))
      have h6' : (48 : Int) < (s.rd.length : Int) + (s.hd.length : Int) + (l.length : Int) := by omega
      clear h5'
      go_wp2_with fail
      refine bodyPost_ret (v := .tuple #[.agg #[.bool false, .int .i64 s.nx, .slice ra s.rd.length rc, .slice ha s.hd.length hc, .slice ma s.ms.length mc], .int .i64 4]) (res_sd (i := 4) (j := 5) (g := w.heap.size + 1) Try.results21 rfl rfl (set5_box (HBX.out _ HB2.out).2 _ _ _ _ _)) rfl ?_
      rw [HR.out.1, HR.out.2, ← HFR.out]
      exact shr_same _ _ _ _ _ _ _ _ _ _ _ _ HS0.out (HB0.out.trans (HB2.out.mono HB0.out.size))
  have h6' : ¬ (48 : Int) < (s.rd.length : Int) + (s.hd.length : Int) + (l.length : Int) := by omega
  have HL48 := Lib.hid h6
  rcases HMK.out with ⟨hz, hnone⟩ | ⟨hz1, -, mi, hsome⟩
  · subst hz
    by_cases h7 : 64 ≤ s.ms.length
    case pos =>
      as_aux_lemma =>
        have HR := Lib.hid (HC4.out (by omega) (by omega) h5' (.inr ⟨rfl, h7⟩))
        have h7' : (64 : Int) ≤ (s.ms.length : Int) := by omega
        clear h5' h6
        go_wp2_with fail
        refine bodyPost_ret (v := .tuple #[.agg #[.bool false, .int .i64 s.nx, .slice ra s.rd.length rc, .slice ha s.hd.length hc, .slice ma s.ms.length mc], .int .i64 4]) (res_sd (i := 4) (j := 5) (g := w.heap.size + 1) Try.results21 rfl rfl (set5_box (HBX.out _ HB2.out).2 _ _ _ _ _)) rfl ?_
        rw [HR.out.1, HR.out.2, ← HFR.out]
        exact shr_same _ _ _ _ _ _ _ _ _ _ _ _ HS0.out (HB0.out.trans (HB2.out.mono HB0.out.size))
    have h7' : ¬ (64 : Int) ≤ (s.ms.length : Int) := by omega
    have HR := Lib.hid (HC0.out (by omega) (by omega) h5' (by omega) (by first | exact fun g => h7 g.2 | exact fun _ => by omega))
    have hws := HWS.out
    have hs2 := HB2.out.size
    have nb0 := World.block_lt_of_cell? _ _ x0
    obtain ⟨t1, t2, t3⟩ := one_box (w := W2) (.cells #[.bool false, .int .i64 s.nx, .slice ra s.rd.length rc, .slice ha s.hd.length hc, .slice ma s.ms.length mc] 26)
    obtain ⟨W3, hW3⟩ : ∃ W3, W3 = W2.alloc (.cells #[.bool false, .int .i64 s.nx, .slice ra s.rd.length rc, .slice ha s.hd.length hc, .slice ma s.ms.length mc] 26) := ⟨_, rfl⟩
    have hlit : OwnG (W3.alloc (.cells #[] 35)) W3.heap.size (.slice (some ⟨W3.heap.size, 0, none⟩) 0 0) [] := OwnE.lit mgE W3 W3.heap.size (Nat.le_refl _)
    have hba : Below W3.heap.size W3 (W3.alloc (.cells #[] 35)) := (Below.refl _ _).alloc (Nat.le_refl _) _
    rw [← hW3] at t1 t2 t3
    have HLIT := Lib.hid hlit
    have HBA := Lib.hid hba
    have HT1 := Lib.hid t1
    have HT2 := Lib.hid t2
    have HT3 := Lib.hid t3
    have HW3 := Lib.hid hW3
    have HUP := Lib.hid (fun (wx : World) (h : Below W3.heap.size W3 wx) => t2.trans (h.mono t2.size))
    have HKEEP := Lib.hid (fun (wx : World) (h : Below W2.heap.size W2 wx) => HBX.out wx (HB2.out.trans (h.mono HB2.out.size)))
    have HRW := Lib.hid (fun (wx : World) (h : Below W2.heap.size W2 wx) => HS1.out.below _ _ _ _ _ _ (HB2.out.trans (h.mono HB2.out.size)))
    have HFW := Lib.hid (fun (wx : World) (h : Below W2.heap.size W2 wx) => HF.out.below (HB0.out.trans ((HB2.out.trans (h.mono HB2.out.size)).mono HB0.out.size)))
    have n0 : w.heap.size < W2.heap.size := by omega
    have n1 : ¬ w.heap.size = W2.heap.size := by omega
    have n2 : ¬ w.heap.size = W2.heap.size + 1 := by omega
    have n3 : w.heap.size < W2.heap.size + 1 := by omega
    have hl1000 : s.rd.length ≤ 1000 ∧ s.hd.length ≤ 1000 ∧ s.ms.length ≤ 1000 := HS0.out.sm
    have HSM := Lib.hid hl1000
    clear hlit hba t1 t2 t3 hW3 hs2 hws hl1000
    go_wp2_with (first | (at_builtin; rw [← HW3.out]; refine put_rows mgE (base := W3.heap.size) (l := []) (m := s.rd) rfl (.tmp 77) (.tmp 79) rfl HLIT.out HBA.out.size (by rw [HT3.out]; rfl) _ rfl rfl (HRW.out _ (HUP.out _ HBA.out)).rd (by have := HSM.out; rw [List.length_nil]; omega) HS0.out.nr ?_; intro v5 w5 hown5 hg5; have HOWN5 := Lib.hid hown5; have HB5 := Lib.hid (OwnE.grown HBA.out HLIT.out hg5 HBA.out.size); clear hown5 hg5) | (at_builtin; refine put_rows mgE (base := W3.heap.size) (l := [] ++ s.rd) (m := l) rfl (.tmp 80) (.tmp 81) rfl HOWN5.out HB5.out.size rfl _ rfl rfl (HFW.out _ (HUP.out _ HB5.out)) (by have := HL48.out; rw [List.nil_append]; omega) (fun e => by cases e) ?_; intro v6 w6 hown6 hg6; rw [List.nil_append] at hown6; obtain ⟨xr, cr, rfl, -, -⟩ := OwnE.at mgE hown6; have HOWN6 := Lib.hid hown6; have HB6 := Lib.hid (OwnE.grown HB5.out HOWN5.out hg6 HB5.out.size); have g6 := (at_le HB6.out (b := W2.heap.size) (by rw [HT3.out]; omega)); have g6a := g6.1; have g6b := g6.2; have m6 := (HUP.out _ HB6.out); obtain ⟨⟨c0', c1', c2', c3', c4'⟩, -⟩ := box5 (HKEEP.out _ m6).1; obtain ⟨⟨y0, y1, y2, y3, y4⟩, z0, z1, z2, z3, z4⟩ := box5 (box_bl HT1.out HB6.out); have g7 := (at_le m6 (b := w.heap.size) n0); have g7a := g7.1; have g7b := g7.2; clear hown6 hg6 g6 m6 g7) | (at_builtin; obtain ⟨W7, hW7⟩ : ∃ W7, W7 = w6.setCell ⟨W2.heap.size, 2, none⟩ (.slice xr (s.rd.length + l.length) cr) := ⟨_, rfl⟩; rw [← hW7]; have h7s : W7.heap.size = w6.heap.size := (by rw [hW7]; simp); have hx7 : W7.heap[W2.heap.size]? = some (.cells #[.bool false, .int .i64 s.nx, .slice xr (s.rd.length + l.length) cr, .slice ha s.hd.length hc, .slice ma s.ms.length mc] 26 (0, 0)) := (by rw [hW7]; exact set_heap (box_bl HT1.out HB6.out) 2 _); have hb7 : Below W2.heap.size W2 W7 := (by rw [hW7]; exact low_set (HUP.out _ HB6.out) (Nat.le_refl _)); have ho7 : OwnG W7 W3.heap.size (.slice xr (s.rd.length + l.length) cr) (s.rd ++ l) := (by rw [hW7]; exact OwnE.kept (by have := HOWN6.out; rwa [List.length_append] at this) fun b hb _ => Below.heap_setCell w6 ⟨W2.heap.size, 2, none⟩ _ b (by have := HT3.out; show b ≠ W2.heap.size; omega)); have hlit7 : OwnK (W7.alloc (.cells #[] 93)) W7.heap.size (.slice (some ⟨w6.heap.size, 0, none⟩) 0 0) [] := (by rw [← h7s]; exact OwnE.lit mkE W7 W7.heap.size (Nat.le_refl _)); have hba7 : Below W7.heap.size W7 (W7.alloc (.cells #[] 93)) := (Below.refl _ _).alloc (Nat.le_refl _) _; refine put_rows mkE (base := W7.heap.size) (l := []) (m := s.ms) rfl (.tmp 84) (.tmp 86) rfl hlit7 hba7.size rfl _ rfl rfl (HRW.out _ (hb7.trans (hba7.mono hb7.size))).ms (by have := HSM.out; rw [List.length_nil]; omega) HS0.out.nm ?_; intro v8 w8 hown8 hg8; have hb8 : Below W7.heap.size W7 w8 := OwnE.grown hba7 hlit7 hg8 hba7.size; rw [List.nil_append] at hown8; obtain ⟨xm, cm, rfl, -, -⟩ := OwnE.at mkE hown8; have HOWN8 := Lib.hid hown8; have HB8 := Lib.hid hb8; have HX7 := Lib.hid hx7; have HB7 := Lib.hid hb7; have HO7 := Lib.hid ho7; have HZ7 := Lib.hid h7s; have hx8 := box_bl hx7 hb8; have m8 := hb7.trans (hb8.mono hb7.size); have g9 := box_lt hx8; have g9a := g9.1; have g9b := g9.2.1; have g9c := g9.2.2; clear y0 y1 y2 y3 y4 z0 z1 z2 z3 z4 c0' c1' c2' c3' c4'; obtain ⟨⟨y0, y1, y2, y3, y4⟩, z0, z1, z2, z3, z4⟩ := box5 hx8; clear hown8 hg8 hb8 hx7 hb7 ho7 h7s hx8 m8 g9 hba7 hlit7 hW7))
    obtain ⟨NR, hNR⟩ : ∃ NR, s.rd.length + l.length = NR := ⟨_, rfl⟩
    rw [hNR] at HX7 HO7 y2
    obtain ⟨W9, hW9⟩ : ∃ W9, W9 = w8.setCell ⟨W2.heap.size, 4, none⟩ (.slice xm s.ms.length cm) := ⟨_, rfl⟩
    rw [← hW9]
    have hx9 : W9.heap[W2.heap.size]? = some (.cells #[.bool false, .int .i64 s.nx, .slice xr NR cr, .slice ha s.hd.length hc, .slice xm s.ms.length cm] 26 (0, 0)) := by rw [hW9]; exact set_heap (box_bl HX7.out HB8.out) 4 _
    have hb9 : Below W2.heap.size W2 W9 := by rw [hW9]; exact low_set (HB7.out.trans (HB8.out.mono HB7.out.size)) (Nat.le_refl _)
    have hs3 := HT3.out
    have hf9 : ∀ b, W3.heap.size ≤ b → W9.heap[b]? = w8.heap[b]? := fun b hb => by rw [hW9]; exact Below.heap_setCell w8 ⟨W2.heap.size, 4, none⟩ _ b (by show b ≠ W2.heap.size; omega)
    have ho9 : OwnG W9 W3.heap.size (.slice xr NR cr) (s.rd ++ l) := OwnE.kept (HO7.out.below1 HB8.out) fun b hb _ => hf9 b hb
    have h67 : W3.heap.size ≤ W7.heap.size := by have := HB6.out.size; have := HZ7.out; omega
    have hk9 : OwnK W9 W3.heap.size (.slice xm s.ms.length cm) s.ms := OwnE.kept (OwnE.mono HOWN8.out h67) fun b hb _ => hf9 b hb
    have h9s : W3.heap.size ≤ W9.heap.size := by have := hb9.size; have := HB8.out.size; rw [hW9]; simp; omega
    have HX9 := Lib.hid hx9
    have HB9 := Lib.hid hb9
    have HO9 := Lib.hid ho9
    have HK9 := Lib.hid hk9
    have HNR := Lib.hid hNR
    have HWW := Lib.hid (show w.heap.size + 1 < W3.heap.size from by have := HB2.out.size; have := HWS.out; omega)
    clear hNR hW9 hx9 hb9 hs3 hf9 ho9 h67 hk9 y0 y1 y2 y3 y4 z0 z1 z2 z3 z4 HX7 HB7 HO7 HZ7 HOWN8 HB8 HOWN6 HOWN5 HB5 HB6 g6a g6b g7a g7b g9a g9b g9c HLIT HBA c0 c1 c2 c3 c4 d0 d1 d2 d3 d4 f0 f1 f2 f3 f4 x0 x1 x2
    obtain ⟨⟨y0, y1, y2, y3, y4⟩, z0, z1, z2, z3, z4⟩ := box5 HX9.out
    have hf2 := HFW.out _ HB9.out
    obtain ⟨b', o', hab', x0, x1, x2, x3, x4⟩ := MgsAt.get hf2 0 hl0
    obtain ⟨rfl, rfl⟩ : b = b' ∧ o = o' := by injection hab' with he; injection he with e1 e2; exact ⟨e1, e2⟩
    rw [show o + 0 * 5 = o by omega, HFST.out] at x0 x1 x2
    have hbs := World.block_lt_of_cell? _ _ x0
    have nbs : ¬ b = W9.heap.size := by have : b < W9.heap.size := hbs; omega
    have g2s := box_lt HX9.out
    have g2a := g2s.1
    have g2b := g2s.2.1
    have HD9 := Lib.hid (OwnE.below1 HK9.out (Below.refl W9.heap.size W9).drew)
    have HG9 := Lib.hid (OwnE.below1 HO9.out (Below.refl W9.heap.size W9).drew)
    have HS9 : Hid (W3.heap.size ≤ W9.drew.heap.size) := Lib.hid h9s
    have HLM : Hid (s.ms.length ≤ 900000) := Lib.hid (by omega)
    clear hab' hf2 x3 x4 g2s hbs
    go_region_law (first | (refine step_put_one mkE (⟨fst.pub, fst.key, lst.seq⟩ : Mk) (w := W9.drew) rfl (.tmp 92) (.tmp 103) rfl HD9.out HS9.out HLM.out _ rfl rfl _ rfl rfl ?_; intro v11 w11 hown11 hg11; obtain ⟨xk, ck, rfl, -, -⟩ := OwnE.at mkE hown11; have hlt := (fun g (e : (Value.slice xm s.ms.length cm).ownBlock = some g) => (World.ownsRow.lt HD9.out g e).1); have hx11 := (hg11.block W2.heap.size (by show W2.heap.size < W9.heap.size; omega) (fun e => (by have := hlt _ e.symm; have := HT3.out; omega))).trans HX9.out; have HO11 := Lib.hid hown11; have HG11 := Lib.hid (OwnE.other HD9.out HG9.out (by decide) hg11); have HB11 := Lib.hid (OwnE.grown (HB9.out.drew) (OwnE.mono HD9.out (by have := HT3.out; omega)) hg11 (by have := HS9.out; have := HT3.out; omega)); have HX11 := Lib.hid hx11; obtain ⟨⟨yy0, yy1, yy2, yy3, yy4⟩, zz0, zz1, zz2, zz3, zz4⟩ := box5 hx11; have gg := box_lt hx11; have gga := gg.1; have ggb := gg.2.1; obtain ⟨⟨dd0, dd1, dd2, dd3, dd4⟩, ff0, ff1, ff2, ff3, ff4⟩ := box5 (HKEEP.out _ HB11.out).2; have e1 : ¬ W2.heap.size = w.heap.size + 1 := (by have := HB2.out.size; have := HWS.out; omega); have e2 : ¬ w.heap.size + 1 = W2.heap.size := (by have := HB2.out.size; have := HWS.out; omega); clear hg11 hlt hx11 hown11 gg))
    all_goals
      as_aux_lemma =>
        have hMM : (s.ms ++ [(⟨fst.pub, fst.key, lst.seq⟩ : Mk)]).length = s.ms.length + 1 := by simp
        have hmk : markF s.ms fst.pub fst.key lst.seq = s.ms ++ [(⟨fst.pub, fst.key, lst.seq⟩ : Mk)] := by unfold markF; rw [hnone]
        have HMKF := Lib.hid hmk
        obtain ⟨MM, hM1⟩ : ∃ MM, s.ms.length + 1 = MM := ⟨_, rfl⟩
        rw [hM1] at hMM
        rw [hM1]
        have HMM := Lib.hid hMM
        obtain ⟨W12, hW12⟩ : ∃ W12, W12 = w11.setCell ⟨W2.heap.size, 4, none⟩ (.slice xk MM ck) := ⟨_, rfl⟩
        rw [← hW12]
        have hx12 : W12.heap[W2.heap.size]? = some (.cells #[.bool false, .int .i64 s.nx, .slice xr NR cr, .slice ha s.hd.length hc, .slice xk MM ck] 26 (0, 0)) := by rw [hW12]; exact set_heap HX11.out 4 _
        have hb12 : Below W2.heap.size W2 W12 := by rw [hW12]; exact low_set HB11.out (Nat.le_refl _)
        have hf12 : ∀ b, W3.heap.size ≤ b → W12.heap[b]? = w11.heap[b]? := fun b hb => by rw [hW12]; exact Below.heap_setCell w11 ⟨W2.heap.size, 4, none⟩ _ b (by have := HT3.out; show b ≠ W2.heap.size; omega)
        have hg12 : OwnG W12 W3.heap.size (.slice xr NR cr) (s.rd ++ l) := OwnE.kept HG11.out fun b hb _ => hf12 b hb
        have hk12 : OwnK W12 W3.heap.size (.slice xk MM ck) (s.ms ++ [(⟨fst.pub, fst.key, lst.seq⟩ : Mk)]) := OwnE.kept (by have := HO11.out; rwa [HMM.out] at this) fun b hb _ => hf12 b hb
        obtain ⟨⟨p0, p1, p2, p3, p4⟩, -⟩ := box5 hx12
        have HB12 := Lib.hid hb12
        have HG12 := Lib.hid hg12
        have HK12 := Lib.hid hk12
        have HXR := Lib.hid (HKEEP.out _ hb12).2
        obtain ⟨⟨d0, d1, d2, d3, d4⟩, f0, f1, f2, f3, f4⟩ := box5 (HKEEP.out _ hb12).2
        clear dd0 dd1 dd2 dd3 dd4 ff0 ff1 ff2 ff3 ff4 hW12 hx12 hb12 hf12 hg12 hk12 hM1 hMM hmk yy0 yy1 yy2 yy3 yy4 zz0 zz1 zz2 zz3 zz4 y0 y1 y2 y3 y4 z0 z1 z2 z3 z4 x0 x1 x2 HO11 HG11 HB11 HX11 HD9 HG9 HK9 HO9 HX9 HB9 gga ggb
        go_wp2_with fail
        refine bodyPost_ret (v := .tuple #[.agg #[.bool false, .int .i64 s.nx, .slice xr NR cr, .slice ha s.hd.length hc, .slice xk MM ck], .int .i64 0]) (res_sd (i := 4) (j := 5) (g := w.heap.size + 1) Try.results21 rfl rfl (set5_box HXR.out _ _ _ _ _)) rfl ?_
        rw [HR.out.1, HR.out.2, HMKF.out, ← HFR.out]
        have h48 := HL48.out
        have hsm1 := HSM.out
        exact rput_end _ _ _ _ _ _ _ _ _ _ _ HS0.out (HB0.out.trans ((HB2.out.trans (HB12.out.mono HB2.out.size)).mono HB0.out.size)) HG12.out HK12.out (by rw [List.length_append]; exact HNR.out.symm) HMM.out.symm HWW.out (by rw [List.length_append]; omega) (by rw [List.length_append]; simp; omega)
  · have hz0 : (lastv == 0) = false := by rw [beq_eq_false_iff_ne]; omega
    have HR := Lib.hid (HC0.out (by omega) (by omega) h5' (by omega) (by first | exact fun g => by omega | exact fun g => by have := g.1; omega))
    have hws := HWS.out
    have hs2 := HB2.out.size
    have nb0 := World.block_lt_of_cell? _ _ x0
    obtain ⟨t1, t2, t3⟩ := one_box (w := W2) (.cells #[.bool false, .int .i64 s.nx, .slice ra s.rd.length rc, .slice ha s.hd.length hc, .slice ma s.ms.length mc] 26)
    obtain ⟨W3, hW3⟩ : ∃ W3, W3 = W2.alloc (.cells #[.bool false, .int .i64 s.nx, .slice ra s.rd.length rc, .slice ha s.hd.length hc, .slice ma s.ms.length mc] 26) := ⟨_, rfl⟩
    have hlit : OwnG (W3.alloc (.cells #[] 35)) W3.heap.size (.slice (some ⟨W3.heap.size, 0, none⟩) 0 0) [] := OwnE.lit mgE W3 W3.heap.size (Nat.le_refl _)
    have hba : Below W3.heap.size W3 (W3.alloc (.cells #[] 35)) := (Below.refl _ _).alloc (Nat.le_refl _) _
    rw [← hW3] at t1 t2 t3
    have HLIT := Lib.hid hlit
    have HBA := Lib.hid hba
    have HT1 := Lib.hid t1
    have HT2 := Lib.hid t2
    have HT3 := Lib.hid t3
    have HW3 := Lib.hid hW3
    have HUP := Lib.hid (fun (wx : World) (h : Below W3.heap.size W3 wx) => t2.trans (h.mono t2.size))
    have HKEEP := Lib.hid (fun (wx : World) (h : Below W2.heap.size W2 wx) => HBX.out wx (HB2.out.trans (h.mono HB2.out.size)))
    have HRW := Lib.hid (fun (wx : World) (h : Below W2.heap.size W2 wx) => HS1.out.below _ _ _ _ _ _ (HB2.out.trans (h.mono HB2.out.size)))
    have HFW := Lib.hid (fun (wx : World) (h : Below W2.heap.size W2 wx) => HF.out.below (HB0.out.trans ((HB2.out.trans (h.mono HB2.out.size)).mono HB0.out.size)))
    have n0 : w.heap.size < W2.heap.size := by omega
    have n1 : ¬ w.heap.size = W2.heap.size := by omega
    have n2 : ¬ w.heap.size = W2.heap.size + 1 := by omega
    have n3 : w.heap.size < W2.heap.size + 1 := by omega
    have hl1000 : s.rd.length ≤ 1000 ∧ s.hd.length ≤ 1000 ∧ s.ms.length ≤ 1000 := HS0.out.sm
    have HSM := Lib.hid hl1000
    clear hlit hba t1 t2 t3 hW3 hs2 hws hl1000
    go_wp2_with (first | (at_builtin; rw [← HW3.out]; refine put_rows mgE (base := W3.heap.size) (l := []) (m := s.rd) rfl (.tmp 77) (.tmp 79) rfl HLIT.out HBA.out.size (by rw [HT3.out]; rfl) _ rfl rfl (HRW.out _ (HUP.out _ HBA.out)).rd (by have := HSM.out; rw [List.length_nil]; omega) HS0.out.nr ?_; intro v5 w5 hown5 hg5; have HOWN5 := Lib.hid hown5; have HB5 := Lib.hid (OwnE.grown HBA.out HLIT.out hg5 HBA.out.size); clear hown5 hg5) | (at_builtin; refine put_rows mgE (base := W3.heap.size) (l := [] ++ s.rd) (m := l) rfl (.tmp 80) (.tmp 81) rfl HOWN5.out HB5.out.size rfl _ rfl rfl (HFW.out _ (HUP.out _ HB5.out)) (by have := HL48.out; rw [List.nil_append]; omega) (fun e => by cases e) ?_; intro v6 w6 hown6 hg6; rw [List.nil_append] at hown6; obtain ⟨xr, cr, rfl, -, -⟩ := OwnE.at mgE hown6; have HOWN6 := Lib.hid hown6; have HB6 := Lib.hid (OwnE.grown HB5.out HOWN5.out hg6 HB5.out.size); have g6 := (at_le HB6.out (b := W2.heap.size) (by rw [HT3.out]; omega)); have g6a := g6.1; have g6b := g6.2; have m6 := (HUP.out _ HB6.out); obtain ⟨⟨c0', c1', c2', c3', c4'⟩, -⟩ := box5 (HKEEP.out _ m6).1; obtain ⟨⟨y0, y1, y2, y3, y4⟩, z0, z1, z2, z3, z4⟩ := box5 (box_bl HT1.out HB6.out); have g7 := (at_le m6 (b := w.heap.size) n0); have g7a := g7.1; have g7b := g7.2; clear hown6 hg6 g6 m6 g7) | (at_builtin; obtain ⟨W7, hW7⟩ : ∃ W7, W7 = w6.setCell ⟨W2.heap.size, 2, none⟩ (.slice xr (s.rd.length + l.length) cr) := ⟨_, rfl⟩; rw [← hW7]; have h7s : W7.heap.size = w6.heap.size := (by rw [hW7]; simp); have hx7 : W7.heap[W2.heap.size]? = some (.cells #[.bool false, .int .i64 s.nx, .slice xr (s.rd.length + l.length) cr, .slice ha s.hd.length hc, .slice ma s.ms.length mc] 26 (0, 0)) := (by rw [hW7]; exact set_heap (box_bl HT1.out HB6.out) 2 _); have hb7 : Below W2.heap.size W2 W7 := (by rw [hW7]; exact low_set (HUP.out _ HB6.out) (Nat.le_refl _)); have ho7 : OwnG W7 W3.heap.size (.slice xr (s.rd.length + l.length) cr) (s.rd ++ l) := (by rw [hW7]; exact OwnE.kept (by have := HOWN6.out; rwa [List.length_append] at this) fun b hb _ => Below.heap_setCell w6 ⟨W2.heap.size, 2, none⟩ _ b (by have := HT3.out; show b ≠ W2.heap.size; omega)); have hlit7 : OwnK (W7.alloc (.cells #[] 93)) W7.heap.size (.slice (some ⟨w6.heap.size, 0, none⟩) 0 0) [] := (by rw [← h7s]; exact OwnE.lit mkE W7 W7.heap.size (Nat.le_refl _)); have hba7 : Below W7.heap.size W7 (W7.alloc (.cells #[] 93)) := (Below.refl _ _).alloc (Nat.le_refl _) _; refine put_rows mkE (base := W7.heap.size) (l := []) (m := s.ms) rfl (.tmp 84) (.tmp 86) rfl hlit7 hba7.size rfl _ rfl rfl (HRW.out _ (hb7.trans (hba7.mono hb7.size))).ms (by have := HSM.out; rw [List.length_nil]; omega) HS0.out.nm ?_; intro v8 w8 hown8 hg8; have hb8 : Below W7.heap.size W7 w8 := OwnE.grown hba7 hlit7 hg8 hba7.size; rw [List.nil_append] at hown8; obtain ⟨xm, cm, rfl, -, -⟩ := OwnE.at mkE hown8; have HOWN8 := Lib.hid hown8; have HB8 := Lib.hid hb8; have HX7 := Lib.hid hx7; have HB7 := Lib.hid hb7; have HO7 := Lib.hid ho7; have HZ7 := Lib.hid h7s; have hx8 := box_bl hx7 hb8; have m8 := hb7.trans (hb8.mono hb7.size); have g9 := box_lt hx8; have g9a := g9.1; have g9b := g9.2.1; have g9c := g9.2.2; clear y0 y1 y2 y3 y4 z0 z1 z2 z3 z4 c0' c1' c2' c3' c4'; obtain ⟨⟨y0, y1, y2, y3, y4⟩, z0, z1, z2, z3, z4⟩ := box5 hx8; clear hown8 hg8 hb8 hx7 hb7 ho7 h7s hx8 m8 g9 hba7 hlit7 hW7))
    obtain ⟨NR, hNR⟩ : ∃ NR, s.rd.length + l.length = NR := ⟨_, rfl⟩
    rw [hNR] at HX7 HO7 y2
    obtain ⟨W9, hW9⟩ : ∃ W9, W9 = w8.setCell ⟨W2.heap.size, 4, none⟩ (.slice xm s.ms.length cm) := ⟨_, rfl⟩
    rw [← hW9]
    have hx9 : W9.heap[W2.heap.size]? = some (.cells #[.bool false, .int .i64 s.nx, .slice xr NR cr, .slice ha s.hd.length hc, .slice xm s.ms.length cm] 26 (0, 0)) := by rw [hW9]; exact set_heap (box_bl HX7.out HB8.out) 4 _
    have hb9 : Below W2.heap.size W2 W9 := by rw [hW9]; exact low_set (HB7.out.trans (HB8.out.mono HB7.out.size)) (Nat.le_refl _)
    have hs3 := HT3.out
    have hf9 : ∀ b, W3.heap.size ≤ b → W9.heap[b]? = w8.heap[b]? := fun b hb => by rw [hW9]; exact Below.heap_setCell w8 ⟨W2.heap.size, 4, none⟩ _ b (by show b ≠ W2.heap.size; omega)
    have ho9 : OwnG W9 W3.heap.size (.slice xr NR cr) (s.rd ++ l) := OwnE.kept (HO7.out.below1 HB8.out) fun b hb _ => hf9 b hb
    have h67 : W3.heap.size ≤ W7.heap.size := by have := HB6.out.size; have := HZ7.out; omega
    have hk9 : OwnK W9 W3.heap.size (.slice xm s.ms.length cm) s.ms := OwnE.kept (OwnE.mono HOWN8.out h67) fun b hb _ => hf9 b hb
    have h9s : W3.heap.size ≤ W9.heap.size := by have := hb9.size; have := HB8.out.size; rw [hW9]; simp; omega
    have HX9 := Lib.hid hx9
    have HB9 := Lib.hid hb9
    have HO9 := Lib.hid ho9
    have HK9 := Lib.hid hk9
    have HNR := Lib.hid hNR
    have HWW := Lib.hid (show w.heap.size + 1 < W3.heap.size from by have := HB2.out.size; have := HWS.out; omega)
    clear hNR hW9 hx9 hb9 hs3 hf9 ho9 h67 hk9 y0 y1 y2 y3 y4 z0 z1 z2 z3 z4 HX7 HB7 HO7 HZ7 HOWN8 HB8 HOWN6 HOWN5 HB5 HB6 g6a g6b g7a g7b g9a g9b g9c HLIT HBA c0 c1 c2 c3 c4 d0 d1 d2 d3 d4 f0 f1 f2 f3 f4 x0 x1 x2
    have HZ9 := Lib.hid h9s
    clear h9s
    have hl3 := HSM.out.2.2
    go_loopg [9] s.ms.length (rputRel W2 false s l fst.pub fst.key lst.seq W3.heap.size xr cr ha hc xm cm NR)
    case atStart => exact ⟨0, Nat.zero_le _, rfl, rfl, HB9.out, HX9.out, HO9.out, by rw [mix_zero]; exact HK9.out⟩
    case round =>
      obtain ⟨j, hj, rfl, rfl, hb, hx, ho, hk⟩ := hrel
      have HB := Lib.hid hb
      have HX := Lib.hid hx
      have HO := Lib.hid ho
      have HK := Lib.hid hk
      obtain ⟨⟨y0, y1, y2, y3, y4⟩, z0, z1, z2, z3, z4⟩ := box5 hx
      clear hb hx ho hk HB9 HX9 HO9 HK9
      by_cases hlt : j < s.ms.length
      · have hlti : (j : Int) < (s.ms.length : Int) := by omega
        have h0j : (0 : Int) ≤ (j : Int) := by omega
        have hj4 : IntKind.i64.wrap ((j : Int) + 1) = (j : Int) + 1 := IntWalk.i64_in _ (by omega)
        have hf2 := HFW.out _ HB.out
        obtain ⟨b', o', hab', x0, x1, x2, x3, x4⟩ := MgsAt.get hf2 0 hl0
        obtain ⟨rfl, rfl⟩ : b = b' ∧ o = o' := by injection hab' with he; injection he with e1 e2; exact ⟨e1, e2⟩
        rw [show o + 0 * 5 = o by omega, HFST.out] at x0 x1 x2
        have hml := mix_len (updK fst.pub fst.key lst.seq) s.ms j
        have hjm : j < (mixL (updK fst.pub fst.key lst.seq) s.ms j).length := by rw [hml]; exact hlt
        have hmg := mix_get (updK fst.pub fst.key lst.seq) s.ms j hlt hjm
        clear hab' hf2 x3 x4
        by_cases q1 : s.ms[j].pub = fst.pub ∧ s.ms[j].key = fst.key
        · have hu : updK fst.pub fst.key lst.seq s.ms[j] = ⟨fst.pub, fst.key, lst.seq⟩ := upd_yes q1.1 q1.2
          have HOD := Lib.hid (HO.out)
          obtain ⟨g, cap', he, hbg, hcell, hfz, hown2⟩ := OwnE.setc mkE (HK.out) hjm 2 (by decide) (.int .i64 lst.seq) ⟨fst.pub, fst.key, lst.seq⟩ (by rw [hmg]; show [_, _, _] = [_, _, _]; rw [q1.1, q1.2])
          rw [← hu, mix_set _ _ _ hlt] at hown2
          rw [hmg] at hcell
          have k0 := hcell 0 _ rfl
          rw [Nat.add_zero] at k0
          have k1 := hcell 1 _ rfl
          have k2 := hcell 2 _ rfl
          obtain ⟨rfl, -, rfl⟩ := Value.slice.inj he
          have hs3 := HT3.out
          have nw : ¬ W2.heap.size = g := by omega
          have nb1 : ¬ b = g := by
            obtain ⟨b', o', hab', v0, -⟩ := MgsAt.get (HFW.out W2 (Below.refl _ _)) 0 hl0
            obtain ⟨rfl, rfl⟩ : b = b' ∧ o = o' := by injection hab' with he; injection he with e1 e2; exact ⟨e1, e2⟩
            have : b < W2.heap.size := World.block_lt_of_cell? _ _ v0
            omega
          have HOWN2 := Lib.hid hown2
          have HBG := Lib.hid hbg
          have f1 : (s.ms[j].pub == fst.pub) = true := by simpa using q1.1
          have f2 : (s.ms[j].key == fst.key) = true := by simpa using q1.2
          generalize hxj : s.ms[j] = x at *
          clear hcell hown2 hbg he hmg hu hxj q1
          go_wp2_with fail
          go_quiet (fail)
          go_wp2_with fail
          go_roundg (s.ms.length - (j + 1))
          case measure => omega
          case rel =>
            have hbk : Below W2.heap.size W2 ((wr.drewN nq).setCell ⟨g, j * 3 + 2, none⟩ (.int .i64 lst.seq)) := low_set (Below.drewN HB.out _) (by have := HBG.out; omega)
            refine ⟨j + 1, by omega, by go_num, rfl, hbk, (Below.heap_setCell (wr.drewN nq) ⟨g, j * 3 + 2, none⟩ _ W2.heap.size (by show W2.heap.size ≠ g; omega)).trans HX.out, OwnE.other HK.out HO.out (by decide) ⟨rfl, rfl, rfl, by simp, fun b hb hne => Below.heap_setCell (wr.drewN nq) ⟨g, j * 3 + 2, none⟩ _ b (by show b ≠ g; exact fun e => hne (by rw [e]; rfl))⟩, OwnE.kept HOWN2.out fun _ _ _ => rfl⟩
        · have hu := upd_no (q := lst.seq) q1
          obtain ⟨g, cap', he, hbg, hcell, -, -⟩ := OwnE.setc mkE (HK.out) hjm 2 (by decide) (.int .i64 s.ms[j].seq) s.ms[j] (by rw [hmg]; rfl)
          rw [hmg] at hcell
          have k0 := hcell 0 _ rfl
          rw [Nat.add_zero] at k0
          have k1 := hcell 1 _ rfl
          obtain ⟨rfl, -, rfl⟩ := Value.slice.inj he
          have HMS := Lib.hid (mix_same (updK fst.pub fst.key lst.seq) s.ms j hlt hu)
          generalize hxj : s.ms[j] = x at *
          clear hcell hbg he hmg hu hxj
          by_cases r1 : x.pub = fst.pub
          · have r2 : ¬ x.key = fst.key := fun g => q1 ⟨r1, g⟩
            have f1 : (x.pub == fst.pub) = true := by simpa using r1
            have f2 : (x.key == fst.key) = false := by simpa using r2
            clear q1 r1 r2
            go_wp2_with fail
            go_quiet (fail)
            go_wp2_with fail
            go_roundg (s.ms.length - (j + 1))
            case measure => omega
            case rel => exact ⟨j + 1, by omega, by go_num, rfl, Below.drewN HB.out _, HX.out, OwnE.kept HO.out fun _ _ _ => rfl, by rw [← HMS.out]; exact OwnE.kept HK.out fun _ _ _ => rfl⟩
          · have f1 : (x.pub == fst.pub) = false := by simpa using r1
            clear q1 r1
            go_wp2_with fail
            go_quiet (fail)
            go_wp2_with fail
            go_roundg (s.ms.length - (j + 1))
            case measure => omega
            case rel => exact ⟨j + 1, by omega, by go_num, rfl, Below.drewN HB.out _, HX.out, OwnE.kept HO.out fun _ _ _ => rfl, by rw [← HMS.out]; exact OwnE.kept HK.out fun _ _ _ => rfl⟩
      · obtain rfl : j = s.ms.length := by omega
        have HMA : Hid (mixL (updK fst.pub fst.key lst.seq) s.ms s.ms.length = markF s.ms fst.pub fst.key lst.seq) := Lib.hid (by rw [mix_all]; exact upd_all H1.out.2.2.2.2.2.1 hsome)
        have HXR := Lib.hid (HKEEP.out _ HB.out).2
        obtain ⟨⟨d0, d1, d2, d3, d4⟩, f0, f1, f2, f3, f4⟩ := box5 (HKEEP.out _ HB.out).2
        have e1 : ¬ W2.heap.size = w.heap.size + 1 := by have := HB2.out.size; have := HWS.out; omega
        have e2 : ¬ w.heap.size + 1 = W2.heap.size := by have := HB2.out.size; have := HWS.out; omega
        go_wp2_with fail
        refine bodyPost_ret (v := .tuple #[.agg #[.bool false, .int .i64 s.nx, .slice xr NR cr, .slice ha s.hd.length hc, .slice xm s.ms.length cm], .int .i64 0]) (res_sd (i := 4) (j := 5) (g := w.heap.size + 1) Try.results21 rfl rfl (set5_box HXR.out _ _ _ _ _)) rfl ?_
        have h48 := HL48.out
        have hsm1 := HSM.out
        have hml := mix_len (updK fst.pub fst.key lst.seq) s.ms s.ms.length
        rw [HR.out.1, HR.out.2, ← HMA.out, ← HFR.out]
        exact rput_end _ _ _ _ _ _ _ _ _ _ _ HS0.out (HB0.out.trans ((HB2.out.trans (HB.out.mono HB2.out.size)).mono HB0.out.size)) HO.out HK.out (by rw [List.length_append]; exact HNR.out.symm) hml.symm HWW.out (by rw [List.length_append]; omega) (by rw [hml]; omega)


end Go.Proofs.Ythohjcfpobeplaa.Sh
