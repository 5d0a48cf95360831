/-
  The document's Get, walked.
-/
import Derived.Test.YthohjcfpobeplaaShRAck
import Derived.StillTailTactics
import Derived.Deep.RegionHeld3
namespace Go.Proofs.Ythohjcfpobeplaa.Sh
open Go.RowKit Rg Go.Sort
set_option linter.unusedVariables false
set_option linter.unusedSimpArgs false

def GetRR (s : Sd) (w : World) (e : Ending) (w' : World) : Prop :=
  ∃ ra rc ha hc ma mc, e = .returned (.tuple #[.agg #[.bool (getS s).fr, .int .i64 (getS s).nx, .slice ra (getS s).rd.length rc, .slice ha (getS s).hd.length hc, .slice ma (getS s).ms.length mc], .agg #[.int .i64 (getH s).tag, .int .i64 ((getH s).m).pub, .int .i64 ((getH s).m).seq, .string ⟨((getH s).m).key.toArray⟩, .string ⟨((getH s).m).body.toArray⟩, .bool ((getH s).m).again], .int .i64 (getC s)]) ∧ SdAt w' ra rc ha hc ma mc (getS s) ∧ Below w.heap.size w w'
theorem get_not {s : Sd} {c : Int} (h : getC s = c) (hc : c ≠ 0) : getC s = c ∧ getS s = s ∧ getH s = hd0 :=
  ⟨h, by unfold getS; rw [if_neg (by rw [h]; exact hc)], by unfold getH; rw [if_neg (by rw [h]; exact hc)]⟩
theorem free_at {s : Sd} {i : Nat} (hi : i < s.rd.length) (h : lockd s s.rd[i].key = false) (hno : ∀ j (hj : j < i), lockd s (s.rd[j]'(by omega)).key = true) : freeI s = some i :=
  find_first hi (by simpa using h) fun j hj => by simpa using hno j hj
theorem free_no {s : Sd} (hno : ∀ j (hj : j < s.rd.length), lockd s s.rd[j].key = true) : freeI s = none := find_not fun j hj => by simpa using hno j hj
theorem get_is {s : Sd} {i : Nat} (hi : i < s.rd.length) (h1 : MaySd s) (h2 : s.fr = false) (h3 : freeI s = some i) (h4 : ¬ s.nx = 1073741824) : getC s = 0 ∧ getH s = ⟨s.nx, s.rd[i]⟩ ∧ getS s = { s with nx := s.nx + 1, rd := s.rd.take i ++ s.rd.drop (i + 1), hd := s.hd ++ [⟨s.nx, s.rd[i]⟩] } := by
  obtain ⟨hc, hf⟩ := getC_ok h1 h2 h3 h4
  obtain ⟨hi', a, b, c, -⟩ := get_zero hc
  have hI : getI s = i := by unfold getI; rw [h3]; rfl
  simp only [hI] at b c
  exact ⟨hc, b, by rw [c, List.eraseIdx_eq_take_drop_succ]⟩
def rgetRel (s : Sd) (W : World) (m : Nat) (v : Value) (wr : World) : Prop :=
  ∃ i : Nat, i ≤ s.rd.length ∧ (∀ (j : Nat) (hj : j < i) (hl : j < s.rd.length), lockd s s.rd[j].key = true) ∧ v = .int .i64 i ∧ m = s.rd.length - i ∧ Below W.heap.size W wr
theorem hds_one {w : World} {g : Nat} {m : Hd} (h : w.heap[g]? = some (.cells #[.int .i64 m.tag, .int .i64 m.m.pub, .int .i64 m.m.seq, .string ⟨m.m.key.toArray⟩, .string ⟨m.m.body.toArray⟩, .bool m.m.again] 37 (0, 0))) : HdsAt w (some ⟨g, 0, none⟩) 1 [m] := by
  refine ⟨Nat.le_refl _, by simp [maxLen], fun _ => ⟨g, 0, rfl, fun i hi r v hv => ?_⟩⟩
  obtain rfl : i = 0 := by simpa using hi
  rw [cell_of_row w _ _ _ _ _ h]
  have : (#[.int .i64 m.tag, .int .i64 m.m.pub, .int .i64 m.m.seq, .string ⟨m.m.key.toArray⟩, .string ⟨m.m.body.toArray⟩, .bool m.m.again] : Array Value)[0 + 0 * 6 + r]? = some v := by
    rw [show 0 + 0 * 6 + r = r by omega, ← hv, List.getElem?_toArray]; rfl
  exact this
theorem own_litd {w : World} (o : Obj) : OwnH ((w.drew.alloc o).alloc (.cells #[] 37)) w.heap.size (.slice (some ⟨w.heap.size + 1, 0, none⟩) 0 0) [] := by
  have h1 := OwnE.lit hdE (w.drew.alloc o) w.heap.size (by show w.heap.size ≤ (w.alloc o).heap.size; simp)
  have h2 : (w.drew.alloc o).heap.size = w.heap.size + 1 := by show (w.alloc o).heap.size = _; simp
  rwa [h2] at h1
theorem getrr_end {w w2 : World} {s : Sd} (ra : Option Addr) (rc : Nat) (ha : Option Addr) (hc : Nat) (ma : Option Addr) (mc : Nat) {c : Int} {x y z u v a b d e f g : Value} (h : getC s = c ∧ getS s = s ∧ getH s = hd0) (hs : SdAt w ra rc ha hc ma mc s) (hb : Below w.heap.size w w2) :
    GetRR s w (.returned (.tuple #[.agg #[.bool s.fr, .int .i64 s.nx, .slice ra s.rd.length rc, .slice ha s.hd.length hc, .slice ma s.ms.length mc], .agg #[.int .i64 hd0.tag, .int .i64 hd0.m.pub, .int .i64 hd0.m.seq, .string ⟨hd0.m.key.toArray⟩, .string ⟨hd0.m.body.toArray⟩, .bool hd0.m.again], .int .i64 c])) ((((((((((((w2.setCell ⟨w.heap.size + 1, 0, none⟩ x).setCell ⟨w.heap.size + 1, 1, none⟩ y).setCell ⟨w.heap.size + 1, 2, none⟩ z).setCell ⟨w.heap.size + 1, 3, none⟩ u).setCell ⟨w.heap.size + 1, 4, none⟩ v).setCell ⟨w.heap.size + 1 + 1, 0, none⟩ a).setCell ⟨w.heap.size + 1 + 1, 1, none⟩ b).setCell ⟨w.heap.size + 1 + 1, 2, none⟩ d).setCell ⟨w.heap.size + 1 + 1, 3, none⟩ e).setCell ⟨w.heap.size + 1 + 1, 4, none⟩ f).setCell ⟨w.heap.size + 1 + 1, 5, none⟩ g)) := by
  unfold GetRR
  rw [h.1, h.2.1, h.2.2]
  have hz : Below w.heap.size w ((((((((((((w2.setCell ⟨w.heap.size + 1, 0, none⟩ x).setCell ⟨w.heap.size + 1, 1, none⟩ y).setCell ⟨w.heap.size + 1, 2, none⟩ z).setCell ⟨w.heap.size + 1, 3, none⟩ u).setCell ⟨w.heap.size + 1, 4, none⟩ v).setCell ⟨w.heap.size + 1 + 1, 0, none⟩ a).setCell ⟨w.heap.size + 1 + 1, 1, none⟩ b).setCell ⟨w.heap.size + 1 + 1, 2, none⟩ d).setCell ⟨w.heap.size + 1 + 1, 3, none⟩ e).setCell ⟨w.heap.size + 1 + 1, 4, none⟩ f).setCell ⟨w.heap.size + 1 + 1, 5, none⟩ g)) := by
    repeat (refine low_set ?_ (by omega))
    exact hb
  exact ⟨_, _, _, _, _, _, rfl, hs.below _ _ _ _ _ _ hz, hz⟩

set_option maxRecDepth 100000 in
set_option maxHeartbeats 4000000 in
theorem rget_any (s : Sd) (ra : Option Addr) (rc : Nat) (ha : Option Addr) (hc : Nat) (ma : Option Addr) (mc : Nat) (w : World) (hs : SdAt w ra rc ha hc ma mc s) : Calls Try.prog 23 #[.agg #[.bool s.fr, .int .i64 s.nx, .slice ra s.rd.length rc, .slice ha s.hd.length hc, .slice ma s.ms.length mc]] w (GetRR s w) := by
  obtain ⟨hx, hy, hz, hb0, hWs⟩ := three_box (w := w) (.cells #[.bool s.fr, .int .i64 s.nx, .slice ra s.rd.length rc, .slice ha s.hd.length hc, .slice ma s.ms.length mc] 26) (.cells #[.bool false, .int .i64 0, .slice none 0 0, .slice none 0 0, .slice none 0 0] 26) (.cells #[.int .i64 0, .int .i64 0, .int .i64 0, .string ⟨#[]⟩, .string ⟨#[]⟩, .bool false] 37)
  obtain ⟨W, hW⟩ : ∃ W, W = ((w.alloc (.cells #[.bool s.fr, .int .i64 s.nx, .slice ra s.rd.length rc, .slice ha s.hd.length hc, .slice ma s.ms.length mc] 26)).alloc (.cells #[.bool false, .int .i64 0, .slice none 0 0, .slice none 0 0, .slice none 0 0] 26)).alloc (.cells #[.int .i64 0, .int .i64 0, .int .i64 0, .string ⟨#[]⟩, .string ⟨#[]⟩, .bool false] 37) := ⟨_, rfl⟩
  rw [← hW] at hx hy hz hb0 hWs
  have HBX := Lib.hid (fun (wx : World) (h : Below W.heap.size W wx) => And.intro (box_bl hx h) (And.intro (box_bl hy h) (box_bl hz h)))
  have HB0 := Lib.hid hb0
  have HWS := Lib.hid hWs
  have HS1 := Lib.hid (hs.below ra rc ha hc ma mc hb0)
  have HS0 := Lib.hid hs
  have HW := Lib.hid hW
  have HMAY := Lib.hid (rmay_any s ra rc ha hc ma mc W HS1.out)
  rw [hW] at HMAY
  have hl1 := hs.sm.1
  clear hs hx hy hz hb0 hWs hW
  by_cases h1 : MaySd s
  case neg =>
    have HR := Lib.hid (get_not (getC_arg h1) (by decide))
    rw [decide_eq_false h1] at HMAY
    clear h1
    go_enter Try.func23, Try.ntmps23
    go_wp2_with (first | (go_at_call 25; refine HMAY.out.mono ?_; rintro e w1 ⟨rfl, hb1⟩; rw [← HW.out] at hb1; have HB1 := Lib.hid hb1; obtain ⟨⟨c0, c1, c2, c3, c4⟩, -⟩ := box5 (HBX.out _ hb1).1; obtain ⟨⟨d0, d1, d2, d3, d4⟩, f0, f1, f2, f3, f4⟩ := box5 (HBX.out _ hb1).2.1; obtain ⟨⟨e0, e1, e2, e3, e4, e5⟩, g0, g1, g2, g3, g4, g5⟩ := box6 (HBX.out _ hb1).2.2; clear hb1))
    refine bodyPost_ret (v := .tuple #[.agg #[.bool s.fr, .int .i64 s.nx, .slice ra s.rd.length rc, .slice ha s.hd.length hc, .slice ma s.ms.length mc], .agg #[.int .i64 hd0.tag, .int .i64 hd0.m.pub, .int .i64 hd0.m.seq, .string ⟨hd0.m.key.toArray⟩, .string ⟨hd0.m.body.toArray⟩, .bool hd0.m.again], .int .i64 1]) (by simp [results, Try.results23, go_sem, hd0, mg0, *]) rfl ?_
    exact getrr_end _ _ _ _ _ _ HR.out HS0.out (HB0.out.trans (HB1.out.mono HB0.out.size))
  rw [decide_eq_true h1] at HMAY
  by_cases h2 : s.fr = true
  case pos =>
    have HR := Lib.hid (get_not (getC_fr h1 h2) (by decide))
    have H2 := Lib.hid h2
    clear h1 h2
    go_enter Try.func23, Try.ntmps23
    go_wp2_with (first | (go_at_call 25; refine HMAY.out.mono ?_; rintro e w1 ⟨rfl, hb1⟩; rw [← HW.out] at hb1; have HB1 := Lib.hid hb1; obtain ⟨⟨c0, c1, c2, c3, c4⟩, -⟩ := box5 (HBX.out _ hb1).1; obtain ⟨⟨d0, d1, d2, d3, d4⟩, f0, f1, f2, f3, f4⟩ := box5 (HBX.out _ hb1).2.1; obtain ⟨⟨e0, e1, e2, e3, e4, e5⟩, g0, g1, g2, g3, g4, g5⟩ := box6 (HBX.out _ hb1).2.2; rw [H2.out] at c0; clear hb1))
    refine bodyPost_ret (v := .tuple #[.agg #[.bool true, .int .i64 s.nx, .slice ra s.rd.length rc, .slice ha s.hd.length hc, .slice ma s.ms.length mc], .agg #[.int .i64 hd0.tag, .int .i64 hd0.m.pub, .int .i64 hd0.m.seq, .string ⟨hd0.m.key.toArray⟩, .string ⟨hd0.m.body.toArray⟩, .bool hd0.m.again], .int .i64 6]) (by simp [results, Try.results23, go_sem, hd0, mg0, *]) rfl ?_
    rw [← H2.out]
    exact getrr_end _ _ _ _ _ _ HR.out HS0.out (HB0.out.trans (HB1.out.mono HB0.out.size))
  case neg =>
    have H1 := Lib.hid h1
    have H2 : Hid (s.fr = false) := Lib.hid (by simpa using h2)
    have HXN : Hid (s.nx ≤ 1073741824 ∧ 1 ≤ s.nx) := Lib.hid ⟨h1.2.1, h1.1⟩
    clear h1 h2
    go_enter Try.func23, Try.ntmps23
    go_wp2_with (first | (go_at_call 25; refine HMAY.out.mono ?_; rintro e w1 ⟨rfl, hb1⟩; rw [← HW.out] at hb1; have HB1 := Lib.hid hb1; obtain ⟨⟨c0, c1, c2, c3, c4⟩, -⟩ := box5 (HBX.out _ hb1).1; rw [H2.out] at c0; clear hb1))
    clear c0 c1 c2 c3 c4
    go_loopg [5] s.rd.length (rgetRel s W)
    case atStart => exact ⟨0, Nat.zero_le _, fun j hj h => by omega, rfl, rfl, HB1.out⟩
    case round =>
      obtain ⟨i, hi, hno, rfl, rfl, hb⟩ := hrel
      have HNO := Lib.hid hno
      have HB := Lib.hid hb
      clear hno hb HB1
      obtain ⟨⟨c0, c1, c2, c3, c4⟩, -⟩ := box5 (HBX.out _ HB.out).1
      by_cases hlt : i < s.rd.length
      · have hlti : (i : Int) < (s.rd.length : Int) := by omega
        have h0i : (0 : Int) ≤ (i : Int) := by omega
        have h4 : IntKind.i64.wrap ((i : Int) + 1) = (i : Int) + 1 := IntWalk.i64_in _ (by omega)
        obtain ⟨b, o, hra, x0, x1, x2, x3, x4⟩ := MgsAt.get (HS1.out.below _ _ _ _ _ _ HB.out).rd i hlt
        have z2 := fun p : Und wr => cell_und x2 p
        have y0 := fun p : Und wr => (box5 (HBX.out _ (HB.out.trans (p.hb.mono HB.out.size))).1).1.1
        have y1 := fun p : Und wr => (box5 (HBX.out _ (HB.out.trans (p.hb.mono HB.out.size))).1).1.2.1
        have y2 := fun p : Und wr => (box5 (HBX.out _ (HB.out.trans (p.hb.mono HB.out.size))).1).1.2.2.1
        have y3 := fun p : Und wr => (box5 (HBX.out _ (HB.out.trans (p.hb.mono HB.out.size))).1).1.2.2.2.1
        have y4 := fun p : Und wr => (box5 (HBX.out _ (HB.out.trans (p.hb.mono HB.out.size))).1).1.2.2.2.2
        have HLK := Lib.hid fun p : Und wr => rlocked_any s ra rc ha hc ma mc s.rd[i].key p.wx (HS1.out.below _ _ _ _ _ _ (HB.out.trans (p.hb.mono HB.out.size)))
        have HF := Lib.hid fun h => free_at (s := s) hlt h fun j hj => HNO.out j hj (by omega)
        have HNX : Hid (lockd s s.rd[i].key = true → ∀ (j : Nat) (hj : j < i + 1) (hl : j < s.rd.length), lockd s s.rd[j].key = true) := Lib.hid fun h j hj hl => by
          by_cases e : j = i
          · subst e; exact h
          · exact HNO.out j (by omega) hl
        have HGI := Lib.hid fun h3 h4 => get_is hlt H1.out H2.out h3 h4
        have mixed : Try.prog.follows .mixedOrders = true := by kernel_rfl
        subst hra
        generalize hxi : s.rd[i] = x at *
        have HXI := Lib.hid hxi
        clear hxi x0 x1 x2 x3 x4
        cases hq : lockd s x.key with
        | true =>
          have HR := Lib.hid (HNX.out hq)
          rw [hq] at HLK
          clear hq HF HNX HGI
          go_wp2_with fail
          (refine wp_region_quiet_below (by assumption) (by kernel_rfl) ?_; (try dsimp only [List.append]); (repeat (go_big_quiet_step ((go_at_call 70; exact Calls.below_of (HLK.out _))))); refine wpQuiet_nil ?_; intro _ hw'; obtain ⟨wq, hw''⟩ := hw'; subst hw''; have HBQ := Lib.hid wq.hb)
          go_wp2_with fail
          go_roundg (s.rd.length - (i + 1))
          case measure => omega
          case rel => exact ⟨i + 1, by omega, HR.out, by go_num, rfl, HB.out.trans (HBQ.out.mono HB.out.size)⟩
        | false =>
          have HFI := Lib.hid (HF.out hq)
          rw [hq] at HLK
          clear hq HF HNX
          go_wp2_with fail
          (refine wp_region_quiet_below (by assumption) (by kernel_rfl) ?_; (try dsimp only [List.append]); (repeat (go_big_quiet_step ((go_at_call 70; exact Calls.below_of (HLK.out _))))); refine wpQuiet_nil ?_; intro _ hw'; obtain ⟨wq, hw''⟩ := hw'; subst hw''; have HBQ := Lib.hid wq.hb)
          clear HLK z2 y0 y1 y2 y3 y4 c0 c1 c2 c3 c4
          have hb2 := HB.out.trans (HBQ.out.mono HB.out.size)
          obtain ⟨W2, hW2⟩ : ∃ W2, W2 = wq.wx := ⟨_, rfl⟩
          rw [← hW2] at hb2 ⊢
          clear hW2 HBQ
          have HB2 := Lib.hid hb2
          clear hb2
          obtain ⟨⟨c0, c1, c2, c3, c4⟩, -⟩ := box5 (HBX.out _ HB2.out).1
          obtain ⟨⟨d0, d1, d2, d3, d4⟩, f0, f1, f2, f3, f4⟩ := box5 (HBX.out _ HB2.out).2.1
          obtain ⟨⟨e0, e1, e2, e3, e4, e5⟩, g0, g1, g2, g3, g4, g5⟩ := box6 (HBX.out _ HB2.out).2.2
          by_cases hnx : s.nx = 1073741824
          · have HR := Lib.hid (get_not (getC_full H1.out H2.out HFI.out hnx) (by decide))
            have hge : (1073741824 : Int) ≤ s.nx := by omega
            clear hnx HFI
            go_wp2_with fail
            refine bodyPost_ret (v := .tuple #[.agg #[.bool s.fr, .int .i64 s.nx, .slice (some ⟨b, o, none⟩) s.rd.length rc, .slice ha s.hd.length hc, .slice ma s.ms.length mc], .agg #[.int .i64 hd0.tag, .int .i64 hd0.m.pub, .int .i64 hd0.m.seq, .string ⟨hd0.m.key.toArray⟩, .string ⟨hd0.m.body.toArray⟩, .bool hd0.m.again], .int .i64 4]) (by simp [results, Try.results23, go_sem, hd0, mg0, *]) rfl ?_
            exact getrr_end _ _ _ _ _ _ HR.out HS0.out (HB0.out.trans (HB2.out.mono HB0.out.size))
          · have HR := Lib.hid (HGI.out HFI.out hnx)
            have hge : ¬ (1073741824 : Int) ≤ s.nx := by have := HXN.out; omega
            have hnw : IntKind.i64.wrap (s.nx + 1) = s.nx + 1 := IntWalk.i64_in _ (by have := HXN.out; omega)
            clear hnx HFI
            obtain ⟨b', o', hma, x0, x1, x2, x3, x4⟩ := MgsAt.get (HS1.out.below _ _ _ _ _ _ HB2.out).rd i hlt
            obtain ⟨rfl, rfl⟩ : b = b' ∧ o = o' := by injection hma with he; injection he with e1 e2; exact ⟨e1, e2⟩
            rw [HXI.out] at x0 x1 x2 x3 x4
            have hs2 := HB2.out.size
            have hws := HWS.out
            have nb0 : b < W2.heap.size := World.block_lt_of_cell? _ _ x0
            have nb1 : ¬ b = W2.heap.size := by omega
            have nb2 : ¬ b = W2.heap.size + 1 := by omega
            have n0 : w.heap.size < W2.heap.size := by omega
            have n1 : ¬ w.heap.size = W2.heap.size := by omega
            have n2 : w.heap.size + 1 < W2.heap.size := by omega
            have n3 : ¬ w.heap.size + 1 = W2.heap.size := by omega
            have n4 : w.heap.size + 1 + 1 < W2.heap.size := by omega
            have n5 : ¬ w.heap.size + 1 + 1 = W2.heap.size := by omega
            have n6 : ¬ w.heap.size = W2.heap.size + 1 := by omega
            clear hma
            go_wp2_with fail
            go_region
            go_wp2_with fail
            obtain ⟨t1, t2, t3, t4⟩ := two_box (w := W2) (.cells #[.int .i64 (⟨s.nx, x⟩ : Hd).tag, .int .i64 ((⟨s.nx, x⟩ : Hd).m).pub, .int .i64 ((⟨s.nx, x⟩ : Hd).m).seq, .string ⟨((⟨s.nx, x⟩ : Hd).m).key.toArray⟩, .string ⟨((⟨s.nx, x⟩ : Hd).m).body.toArray⟩, .bool ((⟨s.nx, x⟩ : Hd).m).again] 37) (.cells #[.bool s.fr, .int .i64 s.nx, .slice (some ⟨b, o, none⟩) s.rd.length rc, .slice ha s.hd.length hc, .slice ma s.ms.length mc] 26)
            obtain ⟨W4, hW4⟩ : ∃ W4, W4 = ((W2.alloc (.cells #[.int .i64 (⟨s.nx, x⟩ : Hd).tag, .int .i64 ((⟨s.nx, x⟩ : Hd).m).pub, .int .i64 ((⟨s.nx, x⟩ : Hd).m).seq, .string ⟨((⟨s.nx, x⟩ : Hd).m).key.toArray⟩, .string ⟨((⟨s.nx, x⟩ : Hd).m).body.toArray⟩, .bool ((⟨s.nx, x⟩ : Hd).m).again] 37)).alloc (.cells #[.bool s.fr, .int .i64 s.nx, .slice (some ⟨b, o, none⟩) s.rd.length rc, .slice ha s.hd.length hc, .slice ma s.ms.length mc] 26)).drew := ⟨_, rfl⟩
            rw [show ((W2.alloc (.cells #[.int .i64 s.nx, .int .i64 x.pub, .int .i64 x.seq, .string ⟨x.key.toArray⟩, .string ⟨x.body.toArray⟩, .bool x.again] 37)).alloc (.cells #[.bool s.fr, .int .i64 s.nx, .slice (some ⟨b, o, none⟩) s.rd.length rc, .slice ha s.hd.length hc, .slice ma s.ms.length mc] 26)).drew = W4 from hW4.symm]
            have eqH : ((W2.alloc (.cells #[.int .i64 (⟨s.nx, x⟩ : Hd).tag, .int .i64 ((⟨s.nx, x⟩ : Hd).m).pub, .int .i64 ((⟨s.nx, x⟩ : Hd).m).seq, .string ⟨((⟨s.nx, x⟩ : Hd).m).key.toArray⟩, .string ⟨((⟨s.nx, x⟩ : Hd).m).body.toArray⟩, .bool ((⟨s.nx, x⟩ : Hd).m).again] 37)).alloc (.cells #[.bool s.fr, .int .i64 s.nx, .slice (some ⟨b, o, none⟩) s.rd.length rc, .slice ha s.hd.length hc, .slice ma s.ms.length mc] 26)).heap = W4.heap := by rw [hW4]; rfl
            have t1' := t1
            have t2' := t2
            rw [eqH] at t1' t2'
            have t3' : Below W2.heap.size W2 W4 := by rw [hW4]; exact t3.drew
            have t4' : W4.heap.size = W2.heap.size + 2 := by rw [hW4]; exact t4
            have HT1 := Lib.hid t1'
            have HT2 := Lib.hid t2'
            have HT3 := Lib.hid t3'
            have HT4 := Lib.hid t4'
            have HUP := Lib.hid (fun (wx : World) (h : Below W4.heap.size W4 wx) => t3'.trans (h.mono t3'.size))
            have HKEEP := Lib.hid (fun (wx : World) (h : Below W2.heap.size W2 wx) => HBX.out wx (HB2.out.trans (h.mono HB2.out.size)))
            have HKC := Lib.hid (fun (wx : World) (h : Below W2.heap.size W2 wx) => (box5 (HKEEP.out wx h).1).1.2.2.1)
            have HRW := Lib.hid (fun (wx : World) (h : Below W2.heap.size W2 wx) => HS1.out.below _ _ _ _ _ _ (HB2.out.trans (h.mono HB2.out.size)))
            have hd3 : Below W4.heap.size W4 W4.drew := (Below.refl _ _).drew
            have HD3 := Lib.hid hd3
            have HA3 := Lib.hid (hd3.alloc (w := W4.drew) (Nat.le_refl _) (.cells #[] 35))
            have HO4 := Lib.hid (OwnE.lit mgE W4.drew W4.heap.size (Nat.le_refl _))
            have hf := mgE.front (HRW.out W2 (Below.refl _ _)).rd (fun e => by cases e) i (by omega)
            obtain ⟨ak, hbk1, hbk2, hbk3⟩ := mgE.back (HRW.out W2 (Below.refl _ _)).rd (fun e => by cases e) (i + 1) (by omega)
            have HF1 := Lib.hid hf.1
            have hfs := hf.2
            have HBK := Lib.hid (And.intro hbk1 hbk2)
            have HCUR := Lib.hid (HKC.out _ (HUP.out _ (Below.refl _ _)))
            have h4' : ((i + 1 : Nat) : Int) = (i : Int) + 1 := by omega
            rw [h4'] at hbk3
            clear hd3 hf hbk1 hbk2 t1 t2 t3 t4 t1' t2' t3' t4' hW4 eqH c0 c1 c2 c3 c4 d0 d1 d2 d3 d4 f0 f1 f2 f3 f4 e0 e1 e2 e3 e4 e5 g0 g1 g2 g3 g4 g5 x0 x1 x2 x3 x4 h4'
            go_region_held3 (fun wx => wx.cell? ⟨w.heap.size, 2, none⟩ = some (.slice (some ⟨b, o, none⟩) s.rd.length rc))
              (first | exact HKC.out _ (HUP.out _ HD3.out) | exact HKC.out _ (HUP.out _ HA3.out) | exact HKC.out _ (HUP.out _ HB5.out) | exact HKC.out _ (HUP.out _ HB6.out) | exact HKC.out _ (low_set (HUP.out _ HB6.out) (Nat.le_succ _)) | assumption)
              (first | (refine step_put_rows mgE (m := s.rd.take i) rfl (.tmp 46) (.tmp 50) rfl HO4.out HA3.out.size rfl _ rfl (by rw [List.length_take]; omega) (HF1.out.below (HUP.out _ HA3.out)) (by rw [List.length_take, List.length_nil]; omega) (fun e => by cases e) ?_; intro v5 w5 hown5 hg5; have HOWN5 := Lib.hid hown5; have HB5 := Lib.hid (OwnE.grown HA3.out HO4.out hg5 HA3.out.size); clear hown5 hg5) | (refine step_put_rows mgE (m := s.rd.drop (i + 1)) rfl (.tmp 51) (.tmp 56) rfl HOWN5.out HB5.out.size rfl _ rfl (by simp) (HBK.out.1.below (HUP.out _ HB5.out)) (by rw [List.length_append, List.length_take, List.length_drop, List.length_nil]; omega) HBK.out.2 ?_; intro v6 w6 hown6 hg6; obtain ⟨xr, cr, rfl, hat6, hnn6⟩ := OwnE.at mgE hown6; have HOWN6 := Lib.hid hown6; have HB6 := Lib.hid (OwnE.grown HB5.out HOWN5.out hg6 HB5.out.size); obtain ⟨⟨y0, y1, y2, y3, y4⟩, z0, z1, z2, z3, z4⟩ := box5 (box_bl HT2.out HB6.out); clear hown6 hg6 hat6 hnn6))
            rename_i hHeld
            clear hHeld
            have hn : i + (s.rd.length - (i + 1)) = (s.rd.take i ++ s.rd.drop (i + 1)).length := by rw [List.length_append, List.length_take, List.length_drop]; omega
            obtain ⟨N, hN⟩ : ∃ N, i + (s.rd.length - (i + 1)) = N := ⟨_, rfl⟩
            rw [hN]
            rw [hN] at hn
            have HN := Lib.hid hn
            rw [List.nil_append] at HOWN6
            obtain ⟨W7, hW7⟩ : ∃ W7, W7 = w6.setCell ⟨W2.heap.size + 1, 2, none⟩ (.slice xr N cr) := ⟨_, rfl⟩
            rw [← hW7]
            have hb7 : Below W2.heap.size W2 W7 := by rw [hW7]; exact low_set (HUP.out _ HB6.out) (Nat.le_succ _)
            have hx7 : W7.heap[W2.heap.size + 1]? = some (.cells #[.bool s.fr, .int .i64 s.nx, .slice xr N cr, .slice ha s.hd.length hc, .slice ma s.ms.length mc] 26 (0, 0)) := by rw [hW7]; exact set_heap (box_bl HT2.out HB6.out) 2 _
            have hy7 : W7.heap[W2.heap.size]? = some (.cells #[.int .i64 (⟨s.nx, x⟩ : Hd).tag, .int .i64 ((⟨s.nx, x⟩ : Hd).m).pub, .int .i64 ((⟨s.nx, x⟩ : Hd).m).seq, .string ⟨((⟨s.nx, x⟩ : Hd).m).key.toArray⟩, .string ⟨((⟨s.nx, x⟩ : Hd).m).body.toArray⟩, .bool ((⟨s.nx, x⟩ : Hd).m).again] 37 (0, 0)) := by rw [hW7]; exact (Below.heap_setCell w6 ⟨W2.heap.size + 1, 2, none⟩ _ _ (by show W2.heap.size ≠ W2.heap.size + 1; omega)).trans (box_bl HT1.out HB6.out)
            have ho7 : OwnG W7 W4.heap.size (.slice xr N cr) (s.rd.take i ++ s.rd.drop (i + 1)) := by rw [hW7]; exact OwnE.kept (by have := HOWN6.out; rwa [← HN.out] at this) fun b hb _ => Below.heap_setCell w6 ⟨W2.heap.size + 1, 2, none⟩ _ b (by have := HT4.out; show b ≠ W2.heap.size + 1; omega)
            have HB7 := Lib.hid hb7
            have HO7 := Lib.hid ho7
            have HX7 := Lib.hid (And.intro hx7 hy7)
            have h7s : W2.heap.size + 2 ≤ W7.heap.size := by have := HB6.out.size; have := HT4.out; rw [hW7]; simp; omega
            clear hN hW7 hb7 hx7 hy7 ho7 y0 y1 y2 y3 y4 z0 z1 z2 z3 z4 HOWN6 HOWN5 HB5 hfs hbk3 hn HB6 HA3 HD3 HO4 HF1 HBK HCUR
            go_wp2_with fail
            have HUP7 := Lib.hid (fun (wx : World) (h : Below W7.heap.size W7 wx) => HB7.out.trans (h.mono HB7.out.size))
            have HK14 := Lib.hid (fun (wx : World) (h : Below W7.heap.size W7 wx) => And.intro (box5 (HKEEP.out wx (HUP7.out _ h)).1).1.2.2.2.1 (box6 (box_bl HX7.out.2 h)).1)
            have HKS := Lib.hid (fun (wx : World) (v : Value) (h : Below W7.heap.size W7 wx) => And.intro (box5 (HKEEP.out (wx.setCell ⟨W2.heap.size + 1, 3, none⟩ v) (low_set (HUP7.out _ h) (Nat.le_succ _))).1).1.2.2.2.1 (box6 ((Below.heap_setCell wx ⟨W2.heap.size + 1, 3, none⟩ v W2.heap.size (by show W2.heap.size ≠ W2.heap.size + 1; omega)).trans (box_bl HX7.out.2 h))).1)
            have hd7 : Below W7.heap.size W7 W7.drew := (Below.refl _ _).drew
            have HD7 := Lib.hid hd7
            have ha7 : Below W7.heap.size W7 (W7.drew.alloc (.cells #[] 37)) := hd7.alloc (w := W7.drew) (Nat.le_refl _) _
            have HA7 := Lib.hid ha7
            have HOa := Lib.hid (OwnE.lit hdE W7.drew W7.heap.size (Nat.le_refl _))
            have hab : Below W7.heap.size W7 ((W7.drew.alloc (.cells #[] 37)).alloc (.cells #[.int .i64 (⟨s.nx, x⟩ : Hd).tag, .int .i64 ((⟨s.nx, x⟩ : Hd).m).pub, .int .i64 ((⟨s.nx, x⟩ : Hd).m).seq, .string ⟨((⟨s.nx, x⟩ : Hd).m).key.toArray⟩, .string ⟨((⟨s.nx, x⟩ : Hd).m).body.toArray⟩, .bool ((⟨s.nx, x⟩ : Hd).m).again] 37)) := ha7.alloc (Nat.le_trans (Nat.le_refl _) ha7.size) _
            have HAb := Lib.hid hab
            have HOb := Lib.hid (OwnE.below1 HOa.out ((Below.refl _ (W7.drew.alloc (.cells #[] 37))).alloc (Nat.le_refl _) (.cells #[.int .i64 (⟨s.nx, x⟩ : Hd).tag, .int .i64 ((⟨s.nx, x⟩ : Hd).m).pub, .int .i64 ((⟨s.nx, x⟩ : Hd).m).seq, .string ⟨((⟨s.nx, x⟩ : Hd).m).key.toArray⟩, .string ⟨((⟨s.nx, x⟩ : Hd).m).body.toArray⟩, .bool ((⟨s.nx, x⟩ : Hd).m).again] 37)))
            have hac1 : Below W7.heap.size W7 (W7.drew.alloc (.cells #[.int .i64 (⟨s.nx, x⟩ : Hd).tag, .int .i64 ((⟨s.nx, x⟩ : Hd).m).pub, .int .i64 ((⟨s.nx, x⟩ : Hd).m).seq, .string ⟨((⟨s.nx, x⟩ : Hd).m).key.toArray⟩, .string ⟨((⟨s.nx, x⟩ : Hd).m).body.toArray⟩, .bool ((⟨s.nx, x⟩ : Hd).m).again] 37)) := hd7.alloc (w := W7.drew) (Nat.le_refl _) _
            have HAc1 := Lib.hid hac1
            have HAc := Lib.hid (hac1.alloc hac1.size (.cells #[] 37))
            have HP3 := Lib.hid (two_box (w := W7) (.cells #[.int .i64 (⟨s.nx, x⟩ : Hd).tag, .int .i64 ((⟨s.nx, x⟩ : Hd).m).pub, .int .i64 ((⟨s.nx, x⟩ : Hd).m).seq, .string ⟨((⟨s.nx, x⟩ : Hd).m).key.toArray⟩, .string ⟨((⟨s.nx, x⟩ : Hd).m).body.toArray⟩, .bool ((⟨s.nx, x⟩ : Hd).m).again] 37) (.cells #[] 37))
            have HOc := Lib.hid (own_litd (w := W7) (.cells #[.int .i64 (⟨s.nx, x⟩ : Hd).tag, .int .i64 ((⟨s.nx, x⟩ : Hd).m).pub, .int .i64 ((⟨s.nx, x⟩ : Hd).m).seq, .string ⟨((⟨s.nx, x⟩ : Hd).m).key.toArray⟩, .string ⟨((⟨s.nx, x⟩ : Hd).m).body.toArray⟩, .bool ((⟨s.nx, x⟩ : Hd).m).again] 37))
            have HP2 := Lib.hid (two_boxd (w := W7) (.cells #[] 37) (.cells #[.int .i64 (⟨s.nx, x⟩ : Hd).tag, .int .i64 ((⟨s.nx, x⟩ : Hd).m).pub, .int .i64 ((⟨s.nx, x⟩ : Hd).m).seq, .string ⟨((⟨s.nx, x⟩ : Hd).m).key.toArray⟩, .string ⟨((⟨s.nx, x⟩ : Hd).m).body.toArray⟩, .bool ((⟨s.nx, x⟩ : Hd).m).again] 37))
            have HXS := Lib.hid (HK14.out _ (Below.refl _ _))
            have hm1 := hl1
            have HHL : Hid (s.hd.length ≤ 1000) := Lib.hid HS0.out.sm.2.1
            clear hd7 ha7 hab hac1
            go_region_held3 (fun wx => wx.cell? ⟨w.heap.size, 3, none⟩ = some (.slice ha s.hd.length hc) ∧ (wx.cell? ⟨W2.heap.size, 0, none⟩ = some (.int .i64 s.nx) ∧ wx.cell? ⟨W2.heap.size, 1, none⟩ = some (.int .i64 x.pub) ∧ wx.cell? ⟨W2.heap.size, 2, none⟩ = some (.int .i64 x.seq) ∧ wx.cell? ⟨W2.heap.size, 3, none⟩ = some (.string ⟨x.key.toArray⟩) ∧ wx.cell? ⟨W2.heap.size, 4, none⟩ = some (.string ⟨x.body.toArray⟩) ∧ wx.cell? ⟨W2.heap.size, 5, none⟩ = some (.bool x.again)))
              (first | exact HK14.out _ HD7.out | exact HK14.out _ HA7.out | exact HK14.out _ HAb.out | exact HK14.out _ HAc1.out | exact HK14.out _ HAc.out | exact HK14.out _ HB8.out | exact HK14.out _ HB9.out | exact HK14.out _ (HB8.out.alloc HB8.out.size _) | exact HK14.out _ (Below.drew HB8.out) | exact HKS.out _ _ HB9.out | assumption)
              (first | (refine step_put_rows hdE (m := s.hd) rfl (.tmp 59) (.tmp 61) rfl HOa.out HA7.out.size rfl _ rfl rfl (HRW.out _ (HUP7.out _ HA7.out)).hd (by have := HHL.out; rw [List.length_nil]; omega) (HS0.out).nh ?_; intro v8 w8 hown8 hg8; have HOWN8 := Lib.hid hown8; have HB8 := Lib.hid (OwnE.grown HA7.out HOa.out hg8 HA7.out.size); clear hown8 hg8) | (refine step_put_one hdE (⟨s.nx, x⟩ : Hd) rfl (.tmp 62) (.tmp 64) rfl HOWN8.out HB8.out.size (by have := HHL.out; rw [List.length_append, List.length_nil]; omega) _ rfl rfl _ rfl rfl ?_; intro v9 w9 hown9 hg9; obtain ⟨xh, ch, rfl, hat9, hnn9⟩ := OwnE.at hdE hown9; have HOWN9 := Lib.hid hown9; have HB9 := Lib.hid (OwnE.grown HB8.out HOWN8.out hg9 HB8.out.size); obtain ⟨⟨y0, y1, y2, y3, y4⟩, z0, z1, z2, z3, z4⟩ := box5 (box_bl HX7.out.1 HB9.out); clear hown9 hg9 hat9 hnn9) | (refine step_put_rows hdE (m := s.hd) rfl (.tmp 59) (.tmp 61) rfl HOb.out HAb.out.size rfl _ rfl rfl (HRW.out _ (HUP7.out _ HAb.out)).hd (by have := HHL.out; rw [List.length_nil]; omega) (HS0.out).nh ?_; intro v8 w8 hown8 hg8; have HOWN8 := Lib.hid hown8; have HB8 := Lib.hid (OwnE.grown HAb.out HOb.out hg8 HAb.out.size); have hq8 := (hg8.block (W7.heap.size + 1) (by have := HP2.out.2.2; show _ < ((W7.alloc (.cells #[] 37)).drew.alloc (.cells #[.int .i64 (⟨s.nx, x⟩ : Hd).tag, .int .i64 ((⟨s.nx, x⟩ : Hd).m).pub, .int .i64 ((⟨s.nx, x⟩ : Hd).m).seq, .string ⟨((⟨s.nx, x⟩ : Hd).m).key.toArray⟩, .string ⟨((⟨s.nx, x⟩ : Hd).m).body.toArray⟩, .bool ((⟨s.nx, x⟩ : Hd).m).again] 37)).heap.size; omega) (by intro e; have e : W7.heap.size + 1 = W7.heap.size := Option.some.inj e; omega)).trans HP2.out.1; have HR8 := Lib.hid (hds_one (m := (⟨s.nx, x⟩ : Hd)) hq8); clear hown8 hg8 hq8) | (refine step_put_rows hdE (m := s.hd) rfl (.tmp 59) (.tmp 61) rfl HOc.out HAc.out.size rfl _ rfl rfl (HRW.out _ (HUP7.out _ HAc.out)).hd (by have := HHL.out; rw [List.length_nil]; omega) (HS0.out).nh ?_; intro v8 w8 hown8 hg8; have HOWN8 := Lib.hid hown8; have HB8 := Lib.hid (OwnE.grown HAc.out HOc.out hg8 HAc.out.size); have hq8 := (hg8.block W7.heap.size (by have := HP3.out.2.2.2; show _ < ((W7.alloc (.cells #[.int .i64 (⟨s.nx, x⟩ : Hd).tag, .int .i64 ((⟨s.nx, x⟩ : Hd).m).pub, .int .i64 ((⟨s.nx, x⟩ : Hd).m).seq, .string ⟨((⟨s.nx, x⟩ : Hd).m).key.toArray⟩, .string ⟨((⟨s.nx, x⟩ : Hd).m).body.toArray⟩, .bool ((⟨s.nx, x⟩ : Hd).m).again] 37)).alloc (.cells #[] 37)).heap.size; omega) (by intro e; have e : W7.heap.size = W7.heap.size + 1 := Option.some.inj e; omega)).trans HP3.out.1; have HR8 := Lib.hid (hds_one (m := (⟨s.nx, x⟩ : Hd)) hq8); clear hown8 hg8 hq8) | (refine step_put_rows hdE (m := [(⟨s.nx, x⟩ : Hd)]) rfl (.tmp 62) (.tmp 64) rfl HOWN8.out HB8.out.size rfl _ rfl rfl HR8.out (by have := HHL.out; rw [List.length_append, List.length_nil]; simp; omega) (fun e => by cases e) ?_; intro v9 w9 hown9 hg9; obtain ⟨xh, ch, rfl, hat9, hnn9⟩ := OwnE.at hdE hown9; have HOWN9 := Lib.hid hown9; have HB9 := Lib.hid (OwnE.grown HB8.out HOWN8.out hg9 HB8.out.size); obtain ⟨⟨y0, y1, y2, y3, y4⟩, z0, z1, z2, z3, z4⟩ := box5 (box_bl HX7.out.1 HB9.out); clear hown9 hg9 hat9 hnn9))
            all_goals
              rename_i hHeld
              clear hHeld
              obtain ⟨M, hM⟩ : ∃ M, M = s.hd.length + 1 := ⟨_, rfl⟩
              rw [← hM]
              obtain ⟨W10, hW10⟩ : ∃ W10, W10 = w9.setCell ⟨W2.heap.size + 1, 3, none⟩ (.slice xh M ch) := ⟨_, rfl⟩
              rw [← hW10]
              have hb10 : Below W2.heap.size W2 W10 := by rw [hW10]; exact low_set (HUP7.out _ HB9.out) (Nat.le_succ _)
              have hx10 : W10.heap[W2.heap.size + 1]? = some (.cells #[.bool s.fr, .int .i64 s.nx, .slice xr N cr, .slice xh M ch, .slice ma s.ms.length mc] 26 (0, 0)) := by rw [hW10]; exact set_heap (box_bl HX7.out.1 HB9.out) 3 _
              have hy10 : W10.heap[W2.heap.size]? = some (.cells #[.int .i64 (⟨s.nx, x⟩ : Hd).tag, .int .i64 ((⟨s.nx, x⟩ : Hd).m).pub, .int .i64 ((⟨s.nx, x⟩ : Hd).m).seq, .string ⟨((⟨s.nx, x⟩ : Hd).m).key.toArray⟩, .string ⟨((⟨s.nx, x⟩ : Hd).m).body.toArray⟩, .bool ((⟨s.nx, x⟩ : Hd).m).again] 37 (0, 0)) := by rw [hW10]; exact (Below.heap_setCell w9 ⟨W2.heap.size + 1, 3, none⟩ _ _ (by show W2.heap.size ≠ W2.heap.size + 1; omega)).trans (box_bl HX7.out.2 HB9.out)
              have h7z := HB7.out.size
              have h4z := HT4.out
              have hr10 : OwnG W10 W4.heap.size (.slice xr N cr) (s.rd.take i ++ s.rd.drop (i + 1)) := by rw [hW10]; exact OwnE.kept (HO7.out.below1 HB9.out) fun b hb _ => Below.heap_setCell w9 ⟨W2.heap.size + 1, 3, none⟩ _ b (by show b ≠ W2.heap.size + 1; omega)
              have hh10 : OwnH W10 W4.heap.size (.slice xh M ch) (s.hd ++ [(⟨s.nx, x⟩ : Hd)]) := by
                have h1 := HOWN9.out
                rw [List.nil_append] at h1
                rw [show (s.hd ++ [(⟨s.nx, x⟩ : Hd)]).length = M by rw [hM]; simp] at h1
                rw [hW10]; exact OwnE.kept (OwnE.mono h1 (by omega)) fun b hb _ => Below.heap_setCell w9 ⟨W2.heap.size + 1, 3, none⟩ _ b (by show b ≠ W2.heap.size + 1; omega)
              have HM := Lib.hid hM
              have HB10 := Lib.hid hb10
              have HR10 := Lib.hid hr10
              have HH10 := Lib.hid hh10
              have HX10 := Lib.hid (And.intro hx10 hy10)
              have h10s : W2.heap.size + 2 ≤ W10.heap.size := by have := HB9.out.size; rw [hW10]; simp; omega
              obtain ⟨⟨p0, p1, p2, p3, p4⟩, q0, q1, q2, q3, q4⟩ := box5 hx10
              clear hM hW10 hb10 hx10 hy10 hr10 hh10 y0 y1 y2 y3 y4 z0 z1 z2 z3 z4 HOWN9 HOWN8 HB8 HB9 HA7 HAb HAc HAc1 HOa HOb HOc HD7 HK14 HKS HXS HP2 HP3 HX7 HO7 HB7 h7s h7z HUP7
              go_wp2_with fail
              generalize hW11 : World.setCell W10 _ _ = W11
              have hW11' : W10.setCell ⟨W2.heap.size + 1, 1, none⟩ (.int .i64 (s.nx + 1)) = W11 := hW11
              have hb11 : Below W2.heap.size W2 W11 := by rw [← hW11']; exact low_set HB10.out (Nat.le_succ _)
              have hx11 : W11.heap[W2.heap.size + 1]? = some (.cells #[.bool s.fr, .int .i64 (s.nx + 1), .slice xr N cr, .slice xh M ch, .slice ma s.ms.length mc] 26 (0, 0)) := by rw [← hW11']; exact set_heap HX10.out.1 1 _
              have hf11 : ∀ b, b ≠ W2.heap.size + 1 → W11.heap[b]? = W10.heap[b]? := fun b hb => by rw [← hW11']; exact Below.heap_setCell W10 ⟨W2.heap.size + 1, 1, none⟩ _ b hb
              have hy11 := (hf11 W2.heap.size (by omega)).trans HX10.out.2
              have h4z := HT4.out
              have hr11 := HR10.out.kept (w' := W11) fun b hb _ => hf11 b (by omega)
              have hh11 := HH10.out.kept (w' := W11) fun b hb _ => hf11 b (by omega)
              have hws := HWS.out
              obtain ⟨⟨p0, p1, p2, p3, p4⟩, -⟩ := box5 hx11
              obtain ⟨⟨r0, r1, r2, r3, r4, r5⟩, -⟩ := box6 hy11
              obtain ⟨⟨d0, d1, d2, d3, d4⟩, f0, f1, f2, f3, f4⟩ := box5 (HKEEP.out _ hb11).2.1
              obtain ⟨⟨e0, e1, e2, e3, e4, e5⟩, g0, g1, g2, g3, g4, g5⟩ := box6 (HKEEP.out _ hb11).2.2
              have HB11 := Lib.hid (HB0.out.trans ((HB2.out.trans (hb11.mono HB2.out.size)).mono HB0.out.size))
              have HR11 := Lib.hid hr11
              have HH11 := Lib.hid hh11
              have l1 : ¬ W2.heap.size + 1 = w.heap.size + 1 := by omega
              have l2 : ¬ W2.heap.size + 1 = w.heap.size + 1 + 1 := by omega
              have l3 : ¬ W2.heap.size = w.heap.size + 1 := by omega
              have l4 : ¬ W2.heap.size = w.heap.size + 1 + 1 := by omega
              have l5 : ¬ w.heap.size + 1 = W2.heap.size + 1 := by omega
              have l6 : ¬ w.heap.size + 1 + 1 = W2.heap.size + 1 := by omega
              have l7 : ¬ w.heap.size + 1 = W2.heap.size := by omega
              have l8 : ¬ w.heap.size + 1 + 1 = W2.heap.size := by omega
              clear hW11 hW11' hb11 hx11 hf11 hy11 hr11 hh11 q0 q1 q2 q3 q4 h10s HX10 HR10 HH10 HB10
              go_region
              go_wp2_with fail
              refine bodyPost_ret (v := .tuple #[.agg #[.bool s.fr, .int .i64 (s.nx + 1), .slice xr N cr, .slice xh M ch, .slice ma s.ms.length mc], .agg #[.int .i64 (⟨s.nx, x⟩ : Hd).tag, .int .i64 ((⟨s.nx, x⟩ : Hd).m).pub, .int .i64 ((⟨s.nx, x⟩ : Hd).m).seq, .string ⟨((⟨s.nx, x⟩ : Hd).m).key.toArray⟩, .string ⟨((⟨s.nx, x⟩ : Hd).m).body.toArray⟩, .bool ((⟨s.nx, x⟩ : Hd).m).again], .int .i64 0]) (by simp [results, Try.results23, go_sem, *]) rfl ?_
              have hMM : M = (s.hd ++ [(⟨s.nx, x⟩ : Hd)]).length := by rw [HM.out]; simp
              have hHL := HHL.out
              unfold GetRR
              rw [HR.out.1, HR.out.2.1, HR.out.2.2, HN.out, hMM]
              have hr11 := HR11.out
              have hh11 := HH11.out
              rw [HN.out] at hr11
              rw [hMM] at hh11
              have k1 : w.heap.size + 1 < W4.heap.size := by omega
              have k2 : w.heap.size + 1 + 1 < W4.heap.size := by omega
              have hbe : ∀ wz, Below w.heap.size w wz → (∀ b, W4.heap.size ≤ b → wz.heap[b]? = W11.heap[b]?) → SdAt wz xr cr xh ch ma mc { s with nx := s.nx + 1, rd := s.rd.take i ++ s.rd.drop (i + 1), hd := s.hd ++ [(⟨s.nx, x⟩ : Hd)] } := fun wz h hf => by
                have h1 := HS0.out.below _ _ _ _ _ _ h
                obtain ⟨a', c', he, h2, h3⟩ := OwnE.at mgE (OwnE.kept (w' := wz) hr11 fun b hb _ => hf b hb)
                obtain ⟨rfl, -, rfl⟩ := Value.slice.inj he
                obtain ⟨a', c', he, h4, h5⟩ := OwnE.at hdE (OwnE.kept (w' := wz) hh11 fun b hb _ => hf b hb)
                obtain ⟨rfl, -, rfl⟩ := Value.slice.inj he
                have hsm := HS0.out.sm
                have hmb := H1.out.2.2.1
                exact ⟨h2, h4, h1.ms, h3, h5, h1.nm, by rw [List.length_append, List.length_take, List.length_drop]; omega, by rw [List.length_append]; simp; omega, hsm.2.2⟩
              refine ⟨_, _, _, _, _, _, rfl, hbe _ ?_ ?_, ?_⟩
              · refine low_drew ?_
                repeat (refine low_set ?_ (by omega))
                exact HB11.out
              · refine far_drew ?_
                repeat (refine far_set ?_ (by omega))
                exact far_refl _
              · refine low_drew ?_
                repeat (refine low_set ?_ (by omega))
                exact HB11.out
      · obtain rfl : i = s.rd.length := by omega
        have HR := Lib.hid (get_not (getC_none H1.out H2.out (free_no fun j hj => HNO.out j hj hj)) (by decide))
        obtain ⟨⟨d0, d1, d2, d3, d4⟩, f0, f1, f2, f3, f4⟩ := box5 (HBX.out _ HB.out).2.1
        obtain ⟨⟨e0, e1, e2, e3, e4, e5⟩, g0, g1, g2, g3, g4, g5⟩ := box6 (HBX.out _ HB.out).2.2
        go_wp2_with fail
        refine bodyPost_ret (v := .tuple #[.agg #[.bool s.fr, .int .i64 s.nx, .slice ra s.rd.length rc, .slice ha s.hd.length hc, .slice ma s.ms.length mc], .agg #[.int .i64 hd0.tag, .int .i64 hd0.m.pub, .int .i64 hd0.m.seq, .string ⟨hd0.m.key.toArray⟩, .string ⟨hd0.m.body.toArray⟩, .bool hd0.m.again], .int .i64 3]) (by simp [results, Try.results23, go_sem, hd0, mg0, *]) rfl ?_
        exact getrr_end _ _ _ _ _ _ HR.out HS0.out (HB0.out.trans (HB.out.mono HB0.out.size))

end Go.Proofs.Ythohjcfpobeplaa.Sh
