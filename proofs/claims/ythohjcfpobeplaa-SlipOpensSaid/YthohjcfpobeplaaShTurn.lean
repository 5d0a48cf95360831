/-
  shard.turn, Freeze, Thaw, New, walked.
-/
import Derived.Test.YthohjcfpobeplaaShOwnA
import Derived.Test.YthohjcfpobeplaaShMay
namespace Go.Proofs.Ythohjcfpobeplaa.Sh
open Go.RowKit Rg Go.Sort
set_option linter.unusedVariables false
set_option linter.unusedSimpArgs false

/-- an answer that is a shard of the call's own and a code. -/
def ShO (s' : Sd) (c : Int) (w : World) (e : Ending) (w' : World) : Prop :=
  ∃ ra rc ha hc ma mc, e = .returned (.tuple #[.agg #[.bool s'.fr, .int .i64 s'.nx, .slice ra s'.rd.length rc, .slice ha s'.hd.length hc, .slice ma s'.ms.length mc], .int .i64 c]) ∧ OwnS w' w.heap.size s' (.slice ra s'.rd.length rc) (.slice ha s'.hd.length hc) (.slice ma s'.ms.length mc) ∧ (s'.rd.length ≤ 1000 ∧ s'.hd.length ≤ 1000 ∧ s'.ms.length ≤ 1000) ∧ Below w.heap.size w w'
theorem OwnS.sd {w : World} {base : Nat} (ra : Option Addr) (rc : Nat) (ha : Option Addr) (hc : Nat) (ma : Option Addr) (mc : Nat) {s : Sd} (h : OwnS w base s (.slice ra s.rd.length rc) (.slice ha s.hd.length hc) (.slice ma s.ms.length mc)) (hsm : s.rd.length ≤ 1000 ∧ s.hd.length ≤ 1000 ∧ s.ms.length ≤ 1000) : SdAt w ra rc ha hc ma mc s := by
  obtain ⟨ra', rc', ha', hc', ma', mc', e1, e2, e3, h2⟩ := h.at hsm
  obtain ⟨rfl, -, rfl⟩ := Value.slice.inj e1
  obtain ⟨rfl, -, rfl⟩ := Value.slice.inj e2
  obtain ⟨rfl, -, rfl⟩ := Value.slice.inj e3
  exact h2
theorem sho_of {s' : Sd} {c : Int} {w w' : World} {base : Nat} (ra : Option Addr) (rc : Nat) (ha : Option Addr) (hc : Nat) (ma : Option Addr) (mc : Nat) (h : OwnS w' base s' (.slice ra s'.rd.length rc) (.slice ha s'.hd.length hc) (.slice ma s'.ms.length mc)) (hbs : w.heap.size ≤ base) (hsm : s'.rd.length ≤ 1000 ∧ s'.hd.length ≤ 1000 ∧ s'.ms.length ≤ 1000) (hb : Below w.heap.size w w') : ShO s' c w (.returned (.tuple #[.agg #[.bool s'.fr, .int .i64 s'.nx, .slice ra s'.rd.length rc, .slice ha s'.hd.length hc, .slice ma s'.ms.length mc], .int .i64 c])) w' :=
  ⟨ra, rc, ha, hc, ma, mc, rfl, h.mono hbs, hsm, hb⟩
/-- the world with both boxes; what stands in them later. -/
theorem boxes {w W : World} {s : Sd} (ra : Option Addr) (rc : Nat) (ha : Option Addr) (hc : Nat) (ma : Option Addr) (mc : Nat) (hx : W.heap[w.heap.size]? = some (.cells #[.bool s.fr, .int .i64 s.nx, .slice ra s.rd.length rc, .slice ha s.hd.length hc, .slice ma s.ms.length mc] 26 (0, 0))) (hy : W.heap[w.heap.size + 1]? = some (.cells #[.bool false, .int .i64 0, .slice none 0 0, .slice none 0 0, .slice none 0 0] 26 (0, 0))) (hWs : w.heap.size + 2 ≤ W.heap.size) :
    ∀ wx, Below W.heap.size W wx → wx.heap[w.heap.size]? = some (.cells #[.bool s.fr, .int .i64 s.nx, .slice ra s.rd.length rc, .slice ha s.hd.length hc, .slice ma s.ms.length mc] 26 (0, 0)) ∧ wx.heap[w.heap.size + 1]? = some (.cells #[.bool false, .int .i64 0, .slice none 0 0, .slice none 0 0, .slice none 0 0] 26 (0, 0)) := fun wx h =>
  ⟨(h.block _ (by omega)).trans hx, (h.block _ (by omega)).trans hy⟩

theorem own2_any (s : Sd) (ra : Option Addr) (rc : Nat) (ha : Option Addr) (hc : Nat) (ma : Option Addr) (mc : Nat) (w : World) (hs : SdAt w ra rc ha hc ma mc s) : Calls Try.prog 64 #[.agg #[.bool s.fr, .int .i64 s.nx, .slice ra s.rd.length rc, .slice ha s.hd.length hc, .slice ma s.ms.length mc]] w fun e w' =>
    ∃ ra2 rc2 ha2 hc2 ma2 mc2, e = .returned (.agg #[.bool s.fr, .int .i64 s.nx, .slice ra2 s.rd.length rc2, .slice ha2 s.hd.length hc2, .slice ma2 s.ms.length mc2]) ∧ OwnS w' w.heap.size s (.slice ra2 s.rd.length rc2) (.slice ha2 s.hd.length hc2) (.slice ma2 s.ms.length mc2) ∧ Below w.heap.size w w' := by
  refine (own_any s ra rc ha hc ma mc w hs).mono ?_
  rintro e w' ⟨vr, vh, vm, rfl, ho, hb⟩
  obtain ⟨ra2, rc2, ha2, hc2, ma2, mc2, rfl, rfl, rfl, -⟩ := ho.at hs.sm
  exact ⟨_, _, _, _, _, _, rfl, ho, hb⟩
def TurnR (s : Sd) (b : Bool) (w : World) (e : Ending) (w' : World) : Prop := ShO (setS s b) (setC s b) w e w'
theorem setC_arg {s : Sd} {b : Bool} (h : ¬ MaySd s) : setC s b = 1 ∧ setS s b = s := by
  have h1 : setC s b = 1 := by unfold setC; rw [if_pos h]
  exact ⟨h1, by unfold setS; rw [if_neg (by rw [h1]; decide)]⟩
theorem setC_same {s : Sd} {b : Bool} (h : MaySd s) (h2 : s.fr = b) : setC s b = 7 ∧ setS s b = s := by
  have h1 : setC s b = 7 := by unfold setC; rw [if_neg (fun g => g h), if_pos h2]
  exact ⟨h1, by unfold setS; rw [if_neg (by rw [h1]; decide)]⟩
theorem setC_ok {s : Sd} {b : Bool} (h : MaySd s) (h2 : ¬ s.fr = b) : setC s b = 0 ∧ setS s b = { s with fr := b } := by
  have h1 : setC s b = 0 := by unfold setC; rw [if_neg (fun g => g h), if_neg h2]
  exact ⟨h1, by unfold setS; rw [if_pos h1]⟩
set_option maxRecDepth 100000 in
set_option maxHeartbeats 4000000 in
theorem turn_any (s : Sd) (b : Bool) (ra : Option Addr) (rc : Nat) (ha : Option Addr) (hc : Nat) (ma : Option Addr) (mc : Nat) (w : World) (hs : SdAt w ra rc ha hc ma mc s) : Calls Try.prog 83 #[.agg #[.bool s.fr, .int .i64 s.nx, .slice ra s.rd.length rc, .slice ha s.hd.length hc, .slice ma s.ms.length mc], .bool b] w (TurnR s b w) := by
  unfold TurnR
  obtain ⟨hx, hy, hb0, hWs⟩ := two_box (w := w) (.cells #[.bool s.fr, .int .i64 s.nx, .slice ra s.rd.length rc, .slice ha s.hd.length hc, .slice ma s.ms.length mc] 26) (.cells #[.bool false, .int .i64 0, .slice none 0 0, .slice none 0 0, .slice none 0 0] 26)
  obtain ⟨W, hW⟩ : ∃ W, W = (w.alloc (.cells #[.bool s.fr, .int .i64 s.nx, .slice ra s.rd.length rc, .slice ha s.hd.length hc, .slice ma s.ms.length mc] 26)).alloc (.cells #[.bool false, .int .i64 0, .slice none 0 0, .slice none 0 0, .slice none 0 0] 26) := ⟨_, rfl⟩
  rw [← hW] at hx hy hb0 hWs
  have HBX := Lib.hid (boxes ra rc ha hc ma mc hx hy (by omega))
  have HB0 := Lib.hid hb0
  have HWS := Lib.hid hWs
  have HS1 := Lib.hid (hs.below ra rc ha hc ma mc hb0)
  have HSM := Lib.hid hs.sm
  have HW := Lib.hid hW
  have HMAY := Lib.hid (may_any s ra rc ha hc ma mc W HS1.out)
  rw [hW] at HMAY
  have HOWN := Lib.hid fun wx (hx : Below W.heap.size W wx) => own2_any s ra rc ha hc ma mc wx (HS1.out.below _ _ _ _ _ _ hx)
  clear hs hx hy hb0 hWs hW
  by_cases h1 : MaySd s
  case neg =>
    have HR := Lib.hid (setC_arg (b := b) h1)
    rw [decide_eq_false h1] at HMAY
    clear h1
    go_enter Try.func83, Try.ntmps83
    go_wp2_with (first | (go_at_call 24; refine HMAY.out.mono ?_; rintro e w1 ⟨rfl, hb1⟩; rw [← HW.out] at hb1; have HB1 := Lib.hid hb1; obtain ⟨⟨c0, c1, c2, c3, c4⟩, -⟩ := box5 (HBX.out _ hb1).1; clear hb1) | (go_at_call 64; refine (HOWN.out _ HB1.out).mono ?_; rintro e w2 ⟨ra2, rc2, ha2, hc2, ma2, mc2, rfl, ho2, hb2⟩; have HO2 := Lib.hid ho2; have HB2 := Lib.hid (HB1.out.trans (hb2.mono HB1.out.size)); obtain ⟨⟨d0, d1, d2, d3, d4⟩, f0, f1, f2, f3, f4⟩ := box5 (HBX.out _ HB2.out).2; obtain ⟨-, k0, k1, k2, k3, k4⟩ := box5 (HBX.out _ HB2.out).1; clear ho2 hb2))
    refine bodyPost_ret (v := .tuple #[.agg #[.bool s.fr, .int .i64 s.nx, .slice ra2 s.rd.length rc2, .slice ha2 s.hd.length hc2, .slice ma2 s.ms.length mc2], .int .i64 1]) (by simp [results, Try.results83, go_sem, *]) rfl ?_
    rw [HR.out.1, HR.out.2]
    have hsz := HWS.out
    have hs1 := HB1.out.size
    refine sho_of _ _ _ _ _ _ (HO2.out.kept ?_) (by omega) HSM.out ?_
    · repeat (refine far_set ?_ (by omega))
      exact fun _ _ => rfl
    · repeat (refine low_set ?_ (by omega))
      exact HB0.out.trans (HB2.out.mono HB0.out.size)
  rw [decide_eq_true h1] at HMAY
  by_cases h2 : s.fr = b
  · have HR := Lib.hid (setC_same h1 h2)
    have H2 := Lib.hid h2
    have hbb : (b == b) = true := by simp
    clear h1 h2
    go_enter Try.func83, Try.ntmps83
    go_wp2_with (first | (go_at_call 24; refine HMAY.out.mono ?_; rintro e w1 ⟨rfl, hb1⟩; rw [← HW.out] at hb1; have HB1 := Lib.hid hb1; obtain ⟨⟨c0, c1, c2, c3, c4⟩, -⟩ := box5 (HBX.out _ hb1).1; clear hb1) | (go_at_call 64; refine (HOWN.out _ HB1.out).mono ?_; rintro e w2 ⟨ra2, rc2, ha2, hc2, ma2, mc2, rfl, ho2, hb2⟩; have HO2 := Lib.hid ho2; have HB2 := Lib.hid (HB1.out.trans (hb2.mono HB1.out.size)); obtain ⟨⟨d0, d1, d2, d3, d4⟩, f0, f1, f2, f3, f4⟩ := box5 (HBX.out _ HB2.out).2; obtain ⟨⟨e0, e1, e2, e3, e4⟩, k0, k1, k2, k3, k4⟩ := box5 (HBX.out _ HB2.out).1; clear ho2 hb2; rw [H2.out]))
    refine bodyPost_ret (v := .tuple #[.agg #[.bool b, .int .i64 s.nx, .slice ra2 s.rd.length rc2, .slice ha2 s.hd.length hc2, .slice ma2 s.ms.length mc2], .int .i64 7]) (by simp [results, Try.results83, go_sem, *]) rfl ?_
    rw [HR.out.1, HR.out.2, ← H2.out]
    have hsz := HWS.out
    have hs1 := HB1.out.size
    refine sho_of _ _ _ _ _ _ (HO2.out.kept ?_) (by omega) HSM.out ?_
    · repeat (refine far_set ?_ (by omega))
      exact fun _ _ => rfl
    · repeat (refine low_set ?_ (by omega))
      exact HB0.out.trans (HB2.out.mono HB0.out.size)
  · have HR := Lib.hid (setC_ok h1 h2)
    have hne : (s.fr == b) = false := by simpa using h2
    clear h1 h2
    go_enter Try.func83, Try.ntmps83
    go_wp2_with (first | (go_at_call 24; refine HMAY.out.mono ?_; rintro e w1 ⟨rfl, hb1⟩; rw [← HW.out] at hb1; have HB1 := Lib.hid hb1; obtain ⟨⟨c0, c1, c2, c3, c4⟩, -⟩ := box5 (HBX.out _ hb1).1; clear hb1) | (go_at_call 64; refine (HOWN.out _ HB1.out).mono ?_; rintro e w2 ⟨ra2, rc2, ha2, hc2, ma2, mc2, rfl, ho2, hb2⟩; have HO2 := Lib.hid ho2; have HB2 := Lib.hid (HB1.out.trans (hb2.mono HB1.out.size)); obtain ⟨⟨d0, d1, d2, d3, d4⟩, f0, f1, f2, f3, f4⟩ := box5 (HBX.out _ HB2.out).2; obtain ⟨⟨e0, e1, e2, e3, e4⟩, k0, k1, k2, k3, k4⟩ := box5 (HBX.out _ HB2.out).1; clear ho2 hb2))
    refine bodyPost_ret (v := .tuple #[.agg #[.bool b, .int .i64 s.nx, .slice ra2 s.rd.length rc2, .slice ha2 s.hd.length hc2, .slice ma2 s.ms.length mc2], .int .i64 0]) (by simp [results, Try.results83, go_sem, *]) rfl ?_
    rw [HR.out.1, HR.out.2]
    have hsz := HWS.out
    have hs1 := HB1.out.size
    refine sho_of (s' := { s with fr := b }) _ _ _ _ _ _ (OwnS.kept (s := { s with fr := b }) ⟨HO2.out.rd, HO2.out.hd, HO2.out.ms⟩ ?_) (by omega) HSM.out ?_
    · repeat (refine far_set ?_ (by omega))
      exact fun _ _ => rfl
    · repeat (refine low_set ?_ (by omega))
      exact HB0.out.trans (HB2.out.mono HB0.out.size)

set_option maxRecDepth 100000 in
set_option maxHeartbeats 1000000 in
theorem freeze_any (s : Sd) (ra : Option Addr) (rc : Nat) (ha : Option Addr) (hc : Nat) (ma : Option Addr) (mc : Nat) (w : World) (hs : SdAt w ra rc ha hc ma mc s) : Calls Try.prog 33 #[.agg #[.bool s.fr, .int .i64 s.nx, .slice ra s.rd.length rc, .slice ha s.hd.length hc, .slice ma s.ms.length mc]] w (ShO (setS s true) (setC s true) w) := by
  obtain ⟨hx, hy, hb0, hWs⟩ := two_box (w := w) (.cells #[.bool s.fr, .int .i64 s.nx, .slice ra s.rd.length rc, .slice ha s.hd.length hc, .slice ma s.ms.length mc] 26) (.cells #[.bool false, .int .i64 0, .slice none 0 0, .slice none 0 0, .slice none 0 0] 26)
  have HB0 := Lib.hid hb0
  have HBX := Lib.hid (boxes ra rc ha hc ma mc hx hy (by omega))
  have HWS := Lib.hid hWs
  have HT := Lib.hid (turn_any s true ra rc ha hc ma mc _ (hs.below ra rc ha hc ma mc hb0))
  unfold TurnR at HT
  clear hs hx hy hb0 hWs
  go_enter Try.func33, Try.ntmps33
  go_wp2_with (go_at_call 83; refine HT.out.mono ?_; rintro e w1 ⟨ra1, rc1, ha1, hc1, ma1, mc1, rfl, hs1, hsm1, hb1⟩; have HS1 := Lib.hid hs1; have HSM1 := Lib.hid hsm1; have HB1 := Lib.hid hb1; obtain ⟨⟨d0, d1, d2, d3, d4⟩, f0, f1, f2, f3, f4⟩ := box5 (HBX.out _ hb1).2; clear hs1 hb1 hsm1)
  refine bodyPost_ret (v := .tuple #[.agg #[.bool (setS s true).fr, .int .i64 (setS s true).nx, .slice ra1 (setS s true).rd.length rc1, .slice ha1 (setS s true).hd.length hc1, .slice ma1 (setS s true).ms.length mc1], .int .i64 (setC s true)]) (by simp [results, Try.results33, go_sem, *]) rfl ?_
  have hsz := HWS.out
  have hs1 := HB1.out.size
  refine sho_of _ _ _ _ _ _ (HS1.out.kept ?_) (by omega) HSM1.out ?_
  · repeat (refine far_set ?_ (by omega))
    exact fun _ _ => rfl
  · repeat (refine low_set ?_ (by omega))
    exact HB0.out.trans (HB1.out.mono HB0.out.size)

set_option maxRecDepth 100000 in
set_option maxHeartbeats 1000000 in
theorem thaw_any (s : Sd) (ra : Option Addr) (rc : Nat) (ha : Option Addr) (hc : Nat) (ma : Option Addr) (mc : Nat) (w : World) (hs : SdAt w ra rc ha hc ma mc s) : Calls Try.prog 35 #[.agg #[.bool s.fr, .int .i64 s.nx, .slice ra s.rd.length rc, .slice ha s.hd.length hc, .slice ma s.ms.length mc]] w (ShO (setS s false) (setC s false) w) := by
  obtain ⟨hx, hy, hb0, hWs⟩ := two_box (w := w) (.cells #[.bool s.fr, .int .i64 s.nx, .slice ra s.rd.length rc, .slice ha s.hd.length hc, .slice ma s.ms.length mc] 26) (.cells #[.bool false, .int .i64 0, .slice none 0 0, .slice none 0 0, .slice none 0 0] 26)
  have HB0 := Lib.hid hb0
  have HBX := Lib.hid (boxes ra rc ha hc ma mc hx hy (by omega))
  have HWS := Lib.hid hWs
  have HT := Lib.hid (turn_any s false ra rc ha hc ma mc _ (hs.below ra rc ha hc ma mc hb0))
  unfold TurnR at HT
  clear hs hx hy hb0 hWs
  go_enter Try.func35, Try.ntmps35
  go_wp2_with (go_at_call 83; refine HT.out.mono ?_; rintro e w1 ⟨ra1, rc1, ha1, hc1, ma1, mc1, rfl, hs1, hsm1, hb1⟩; have HS1 := Lib.hid hs1; have HSM1 := Lib.hid hsm1; have HB1 := Lib.hid hb1; obtain ⟨⟨d0, d1, d2, d3, d4⟩, f0, f1, f2, f3, f4⟩ := box5 (HBX.out _ hb1).2; clear hs1 hb1 hsm1)
  refine bodyPost_ret (v := .tuple #[.agg #[.bool (setS s false).fr, .int .i64 (setS s false).nx, .slice ra1 (setS s false).rd.length rc1, .slice ha1 (setS s false).hd.length hc1, .slice ma1 (setS s false).ms.length mc1], .int .i64 (setC s false)]) (by simp [results, Try.results35, go_sem, *]) rfl ?_
  have hsz := HWS.out
  have hs1 := HB1.out.size
  refine sho_of _ _ _ _ _ _ (HS1.out.kept ?_) (by omega) HSM1.out ?_
  · repeat (refine far_set ?_ (by omega))
    exact fun _ _ => rfl
  · repeat (refine low_set ?_ (by omega))
    exact HB0.out.trans (HB1.out.mono HB0.out.size)

set_option maxHeartbeats 400000 in
theorem new_any (w : World) : Calls Try.prog 38 #[] w fun e w' => e = .returned (.agg #[.bool false, .int .i64 1, .slice none 0 0, .slice none 0 0, .slice none 0 0]) ∧ Below w.heap.size w w' := by
  have hb := (Below.refl w.heap.size w).alloc (Nat.le_refl _) (.cells #[.bool false, .int .i64 1, .slice none 0 0, .slice none 0 0, .slice none 0 0] 26)
  have HB := Lib.hid hb
  clear hb
  go_enter Try.func38, Try.ntmps38
  go_wp2_with fail
  refine bodyPost_ret (v := .agg #[.bool false, .int .i64 1, .slice none 0 0, .slice none 0 0, .slice none 0 0]) (by simp [results, Try.results38, go_sem, *]) rfl ?_
  refine ⟨rfl, ?_⟩
  first | exact HB.out | (repeat (refine low_set ?_ (by omega))); exact (Below.refl _ _).alloc (Nat.le_refl _) _

end Go.Proofs.Ythohjcfpobeplaa.Sh
