/-
  The document's set, Freeze, Thaw, walked; rows beside a box that is written.
-/
import Derived.Test.YthohjcfpobeplaaShKeep
import Derived.Test.YthohjcfpobeplaaShRMay
namespace Go.Proofs.Ythohjcfpobeplaa.Sh
open Go.RowKit Rg Go.Sort
set_option linter.unusedVariables false
set_option linter.unusedSimpArgs false

set_option maxRecDepth 100000 in
set_option maxHeartbeats 4000000 in
theorem rset_any (s : Sd) (b : Bool) (ra : Option Addr) (rc : Nat) (ha : Option Addr) (hc : Nat) (ma : Option Addr) (mc : Nat) (w : World) (hs : SdAt w ra rc ha hc ma mc s) : Calls Try.prog 84 #[.agg #[.bool s.fr, .int .i64 s.nx, .slice ra s.rd.length rc, .slice ha s.hd.length hc, .slice ma s.ms.length mc], .bool b] w (ShR (setS s b) (setC s b) w) := by
  obtain ⟨hx, hy, hb0, hWs⟩ := two_box (w := w) (.cells #[.bool s.fr, .int .i64 s.nx, .slice ra s.rd.length rc, .slice ha s.hd.length hc, .slice ma s.ms.length mc] 26) (.cells #[.bool false, .int .i64 0, .slice none 0 0, .slice none 0 0, .slice none 0 0] 26)
  obtain ⟨W, hW⟩ : ∃ W, W = (w.alloc (.cells #[.bool s.fr, .int .i64 s.nx, .slice ra s.rd.length rc, .slice ha s.hd.length hc, .slice ma s.ms.length mc] 26)).alloc (.cells #[.bool false, .int .i64 0, .slice none 0 0, .slice none 0 0, .slice none 0 0] 26) := ⟨_, rfl⟩
  rw [← hW] at hx hy hb0 hWs
  have HBX := Lib.hid (boxes ra rc ha hc ma mc hx hy (by omega))
  have HB0 := Lib.hid hb0
  have HWS := Lib.hid hWs
  have HS1 := Lib.hid (hs.below ra rc ha hc ma mc hb0)
  have HS0 := Lib.hid hs
  have HW := Lib.hid hW
  have HMAY := Lib.hid (rmay_any s ra rc ha hc ma mc W HS1.out)
  rw [hW] at HMAY
  clear hs hx hy hb0 hWs hW
  by_cases h1 : MaySd s
  case neg =>
    have HR := Lib.hid (setC_arg (b := b) h1)
    rw [decide_eq_false h1] at HMAY
    clear h1
    go_enter Try.func84, Try.ntmps84
    go_wp2_with (first | (go_at_call 25; refine HMAY.out.mono ?_; rintro e w1 ⟨rfl, hb1⟩; rw [← HW.out] at hb1; have HB1 := Lib.hid hb1; obtain ⟨⟨c0, c1, c2, c3, c4⟩, -⟩ := box5 (HBX.out _ hb1).1; obtain ⟨⟨d0, d1, d2, d3, d4⟩, f0, f1, f2, f3, f4⟩ := box5 (HBX.out _ hb1).2; clear hb1))
    refine bodyPost_ret (v := .tuple #[.agg #[.bool s.fr, .int .i64 s.nx, .slice ra s.rd.length rc, .slice ha s.hd.length hc, .slice ma s.ms.length mc], .int .i64 1]) (by simp [results, Try.results84, go_sem, *]) rfl ?_
    rw [HR.out.1, HR.out.2]
    have hsz := HWS.out
    have hs1 := HB1.out.size
    have hbl : Below w.heap.size w w1 := HB0.out.trans (HB1.out.mono HB0.out.size)
    refine shr_of _ _ _ _ _ _ (HS0.out.below _ _ _ _ _ _ ?_) ?_
    all_goals
      repeat (refine low_set ?_ (by omega))
      exact hbl
  rw [decide_eq_true h1] at HMAY
  by_cases h2 : s.fr = b
  · have HR := Lib.hid (setC_same h1 h2)
    have H2 := Lib.hid h2
    have hbb : (b == b) = true := by simp
    clear h1 h2
    go_enter Try.func84, Try.ntmps84
    go_wp2_with (first | (go_at_call 25; refine HMAY.out.mono ?_; rintro e w1 ⟨rfl, hb1⟩; rw [← HW.out] at hb1; have HB1 := Lib.hid hb1; obtain ⟨⟨c0, c1, c2, c3, c4⟩, -⟩ := box5 (HBX.out _ hb1).1; obtain ⟨⟨d0, d1, d2, d3, d4⟩, f0, f1, f2, f3, f4⟩ := box5 (HBX.out _ hb1).2; rw [H2.out] at c0; clear hb1))
    refine bodyPost_ret (v := .tuple #[.agg #[.bool b, .int .i64 s.nx, .slice ra s.rd.length rc, .slice ha s.hd.length hc, .slice ma s.ms.length mc], .int .i64 7]) (by simp [results, Try.results84, go_sem, *]) rfl ?_
    rw [HR.out.1, HR.out.2, ← H2.out]
    have hsz := HWS.out
    have hs1 := HB1.out.size
    have hbl : Below w.heap.size w w1 := HB0.out.trans (HB1.out.mono HB0.out.size)
    refine shr_of _ _ _ _ _ _ (HS0.out.below _ _ _ _ _ _ ?_) ?_
    all_goals
      repeat (refine low_set ?_ (by omega))
      exact hbl
  · have HR := Lib.hid (setC_ok h1 h2)
    have hne : (s.fr == b) = false := by simpa using h2
    clear h1 h2
    go_enter Try.func84, Try.ntmps84
    go_wp2_with (first | (go_at_call 25; refine HMAY.out.mono ?_; rintro e w1 ⟨rfl, hb1⟩; rw [← HW.out] at hb1; have HB1 := Lib.hid hb1; obtain ⟨⟨c0, c1, c2, c3, c4⟩, k0, k1, k2, k3, k4⟩ := box5 (HBX.out _ hb1).1; obtain ⟨⟨d0, d1, d2, d3, d4⟩, f0, f1, f2, f3, f4⟩ := box5 (HBX.out _ hb1).2; clear hb1))
    refine bodyPost_ret (v := .tuple #[.agg #[.bool b, .int .i64 s.nx, .slice ra s.rd.length rc, .slice ha s.hd.length hc, .slice ma s.ms.length mc], .int .i64 0]) (by simp [results, Try.results84, go_sem, *]) rfl ?_
    rw [HR.out.1, HR.out.2]
    have hsz := HWS.out
    have hs1 := HB1.out.size
    have hbl : Below w.heap.size w w1 := HB0.out.trans (HB1.out.mono HB0.out.size)
    have hend : ∀ wz, Below w.heap.size w wz → SdAt wz ra rc ha hc ma mc { s with fr := b } := fun wz h => by
      have := HS0.out.below _ _ _ _ _ _ h
      exact ⟨this.rd, this.hd, this.ms, this.nr, this.nh, this.nm, this.sm⟩
    refine shr_of (s' := { s with fr := b }) _ _ _ _ _ _ (hend _ ?_) ?_
    all_goals
      repeat (refine low_set ?_ (by omega))
      exact hbl

set_option maxRecDepth 100000 in
set_option maxHeartbeats 1000000 in
theorem rfreeze_any (s : Sd) (ra : Option Addr) (rc : Nat) (ha : Option Addr) (hc : Nat) (ma : Option Addr) (mc : Nat) (w : World) (hs : SdAt w ra rc ha hc ma mc s) : Calls Try.prog 34 #[.agg #[.bool s.fr, .int .i64 s.nx, .slice ra s.rd.length rc, .slice ha s.hd.length hc, .slice ma s.ms.length mc]] w (ShR (setS s true) (setC s true) w) := by
  obtain ⟨hx, hy, hb0, hWs⟩ := two_box (w := w) (.cells #[.bool s.fr, .int .i64 s.nx, .slice ra s.rd.length rc, .slice ha s.hd.length hc, .slice ma s.ms.length mc] 26) (.cells #[.bool false, .int .i64 0, .slice none 0 0, .slice none 0 0, .slice none 0 0] 26)
  have HB0 := Lib.hid hb0
  have HBX := Lib.hid (boxes ra rc ha hc ma mc hx hy (by omega))
  have HWS := Lib.hid hWs
  have HT := Lib.hid (rset_any s true ra rc ha hc ma mc _ (hs.below ra rc ha hc ma mc hb0))
  unfold ShR at HT
  clear hs hx hy hb0 hWs
  go_enter Try.func34, Try.ntmps34
  go_wp2_with (go_at_call 84; refine HT.out.mono ?_; rintro e w1 ⟨ra1, rc1, ha1, hc1, ma1, mc1, rfl, hs1, hb1⟩; have HS1 := Lib.hid hs1; have HB1 := Lib.hid hb1; have HX2 := Lib.hid (HBX.out _ hb1).2; obtain ⟨⟨d0, d1, d2, d3, d4⟩, f0, f1, f2, f3, f4⟩ := box5 (HBX.out _ hb1).2; clear hs1 hb1)
  refine bodyPost_ret (v := .tuple #[.agg #[.bool (setS s true).fr, .int .i64 (setS s true).nx, .slice ra1 (setS s true).rd.length rc1, .slice ha1 (setS s true).hd.length hc1, .slice ma1 (setS s true).ms.length mc1], .int .i64 (setC s true)]) (by simp [results, Try.results34, go_sem, *]) rfl ?_
  have hsz := HWS.out
  have hs1 := HB1.out.size
  refine shr_of _ _ _ _ _ _ (sd_keep _ _ _ _ _ _ HS1.out HX2.out ?_) ?_
  · intro b hb
    repeat (refine (Below.heap_setCell _ _ _ _ hb).trans ?_)
    rfl
  · repeat (refine low_set ?_ (by omega))
    exact HB0.out.trans (HB1.out.mono HB0.out.size)
set_option maxRecDepth 100000 in
set_option maxHeartbeats 1000000 in
theorem rthaw_any (s : Sd) (ra : Option Addr) (rc : Nat) (ha : Option Addr) (hc : Nat) (ma : Option Addr) (mc : Nat) (w : World) (hs : SdAt w ra rc ha hc ma mc s) : Calls Try.prog 36 #[.agg #[.bool s.fr, .int .i64 s.nx, .slice ra s.rd.length rc, .slice ha s.hd.length hc, .slice ma s.ms.length mc]] w (ShR (setS s false) (setC s false) w) := by
  obtain ⟨hx, hy, hb0, hWs⟩ := two_box (w := w) (.cells #[.bool s.fr, .int .i64 s.nx, .slice ra s.rd.length rc, .slice ha s.hd.length hc, .slice ma s.ms.length mc] 26) (.cells #[.bool false, .int .i64 0, .slice none 0 0, .slice none 0 0, .slice none 0 0] 26)
  have HB0 := Lib.hid hb0
  have HBX := Lib.hid (boxes ra rc ha hc ma mc hx hy (by omega))
  have HWS := Lib.hid hWs
  have HT := Lib.hid (rset_any s false ra rc ha hc ma mc _ (hs.below ra rc ha hc ma mc hb0))
  unfold ShR at HT
  clear hs hx hy hb0 hWs
  go_enter Try.func36, Try.ntmps36
  go_wp2_with (go_at_call 84; refine HT.out.mono ?_; rintro e w1 ⟨ra1, rc1, ha1, hc1, ma1, mc1, rfl, hs1, hb1⟩; have HS1 := Lib.hid hs1; have HB1 := Lib.hid hb1; have HX2 := Lib.hid (HBX.out _ hb1).2; obtain ⟨⟨d0, d1, d2, d3, d4⟩, f0, f1, f2, f3, f4⟩ := box5 (HBX.out _ hb1).2; clear hs1 hb1)
  refine bodyPost_ret (v := .tuple #[.agg #[.bool (setS s false).fr, .int .i64 (setS s false).nx, .slice ra1 (setS s false).rd.length rc1, .slice ha1 (setS s false).hd.length hc1, .slice ma1 (setS s false).ms.length mc1], .int .i64 (setC s false)]) (by simp [results, Try.results36, go_sem, *]) rfl ?_
  have hsz := HWS.out
  have hs1 := HB1.out.size
  refine shr_of _ _ _ _ _ _ (sd_keep _ _ _ _ _ _ HS1.out HX2.out ?_) ?_
  · intro b hb
    repeat (refine (Below.heap_setCell _ _ _ _ hb).trans ?_)
    rfl
  · repeat (refine low_set ?_ (by omega))
    exact HB0.out.trans (HB1.out.mono HB0.out.size)

end Go.Proofs.Ythohjcfpobeplaa.Sh
