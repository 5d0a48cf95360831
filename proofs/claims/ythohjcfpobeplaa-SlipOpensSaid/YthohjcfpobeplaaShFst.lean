/-
  shard.first, under, walked.
-/
import Derived.Test.YthohjcfpobeplaaShMay
import Derived.BigQuiet
namespace Go.Proofs.Ythohjcfpobeplaa.Sh
open Go.RowKit Rg Go.Sort
set_option linter.unusedVariables false
set_option linter.unusedSimpArgs false

def firI (s : Sd) : Int := if getC s = 0 then (getI s : Int) else -1
theorem getC_arg {s : Sd} (h : ¬ MaySd s) : getC s = 1 := by unfold getC; rw [if_pos h]
theorem getC_fr {s : Sd} (h1 : MaySd s) (h : s.fr = true) : getC s = 6 := by unfold getC; rw [if_neg (fun g => g h1), if_pos h]
theorem getC_none {s : Sd} (h1 : MaySd s) (h2 : s.fr = false) (h : freeI s = none) : getC s = 3 := by unfold getC; rw [if_neg (fun g => g h1), if_neg (by simp [h2]), if_pos h]
theorem getC_full {s : Sd} {i : Nat} (h1 : MaySd s) (h2 : s.fr = false) (h : freeI s = some i) (h3 : s.nx = 1073741824) : getC s = 4 := by unfold getC; rw [if_neg (fun g => g h1), if_neg (by simp [h2]), if_neg (by simp [h]), if_pos h3]
theorem getC_ok {s : Sd} {i : Nat} (h1 : MaySd s) (h2 : s.fr = false) (h : freeI s = some i) (h3 : ¬ s.nx = 1073741824) : getC s = 0 ∧ firI s = i := by
  have hc : getC s = 0 := by unfold getC; rw [if_neg (fun g => g h1), if_neg (by simp [h2]), if_neg (by simp [h]), if_neg h3]
  refine ⟨hc, ?_⟩
  unfold firI getI
  rw [if_pos hc, h]; rfl
theorem firI_not {s : Sd} {c : Int} (h : getC s = c) (hc : c ≠ 0) : firI s = -1 := by unfold firI; rw [if_neg (by rw [h]; exact hc)]

def firRel (s : Sd) (w : World) (ra : Option Addr) (rc : Nat) (ha : Option Addr) (hc : Nat) (ma : Option Addr) (mc : Nat) (m : Nat) (a' : Act) (w' : World) : Prop :=
  ∃ (i : Nat) (u0 u5 u6 u7 u8 u9 u10 u11 u12 u13 u14 u15 u16 u17 u18 u19 u20 u21 u22 u23 u24 u25 u26 u27 u28 u29 : Value), a' = { tmps := #[u0, .pointer (some ⟨w.heap.size, 0, none⟩), .int .i64 0, .int .i64 0, .int .i64 i, u5, u6, u7, u8, u9, u10, u11, u12, u13, u14, u15, u16, u17, u18, u19, u20, u21, u22, u23, u24, u25, u26, u27, u28, u29], defers := [] } ∧
    m = s.rd.length - i ∧ i ≤ s.rd.length ∧ (∀ (j : Nat) (h : j < s.rd.length), j < i → lockd s s.rd[j].key = true) ∧ MaySd s ∧ s.fr = false ∧
    w'.heap[w.heap.size]? = some (.cells #[.bool s.fr, .int .i64 s.nx, .slice ra s.rd.length rc, .slice ha s.hd.length hc, .slice ma s.ms.length mc] 26 (0, 0)) ∧ SdAt w' ra rc ha hc ma mc s ∧ Below w.heap.size w w'
set_option maxRecDepth 100000 in
set_option maxHeartbeats 2000000 in
theorem first_any (s : Sd) (ra : Option Addr) (rc : Nat) (ha : Option Addr) (hc : Nat) (ma : Option Addr) (mc : Nat) (w : World) (hs : SdAt w ra rc ha hc ma mc s) :
    Calls Try.prog 68 #[.agg #[.bool s.fr, .int .i64 s.nx, .slice ra s.rd.length rc, .slice ha s.hd.length hc, .slice ma s.ms.length mc]] w fun e w' => e = .returned (.tuple #[.int .i64 (firI s), .int .i64 (getC s)]) ∧ Below w.heap.size w w' := by
  obtain ⟨W, hW⟩ : ∃ W, W = w.alloc (.cells #[.bool s.fr, .int .i64 s.nx, .slice ra s.rd.length rc, .slice ha s.hd.length hc, .slice ma s.ms.length mc] 26) := ⟨_, rfl⟩
  have hb0 : Below w.heap.size w W := by rw [hW]; exact (Below.refl _ _).alloc (Nat.le_refl _) _
  have hWs : W.heap.size = w.heap.size + 1 := by rw [hW]; simp
  have hx : W.heap[w.heap.size]? = some (.cells #[.bool s.fr, .int .i64 s.nx, .slice ra s.rd.length rc, .slice ha s.hd.length hc, .slice ma s.ms.length mc] 26 (0, 0)) := by rw [hW]; exact heap_alloc_new _ _
  have HB0 := Lib.hid hb0
  have HWS := Lib.hid hWs
  have HX := Lib.hid hx
  have HS1 := Lib.hid (hs.below ra rc ha hc ma mc hb0)
  have HMAY := Lib.hid (may_any s ra rc ha hc ma mc W HS1.out)
  have HW := Lib.hid hW
  rw [hW] at HMAY
  clear hs hb0 hWs hx hW
  go_enter Try.func68, Try.ntmps68
  go_wp2_with fail
  refine wp_scope_ghost 0 (firRel s w ra rc ha hc ma mc) rfl ?_ ?_
  · intro H hb'
    have HBK := Lib.hid hb'
    clear hb'
    by_cases h1 : MaySd s
    case neg =>
      have HR := Lib.hid (getC_arg h1)
      have HI := Lib.hid (firI_not HR.out (by decide))
      rw [decide_eq_false h1] at HMAY
      clear h1
      go_wp2_with (go_at_call 24; refine HMAY.out.mono ?_; rintro e w1 ⟨rfl, hb1⟩; have HB1 := Lib.hid hb1; clear hb1)
      simp only [Exit.jump]
      refine bodyPost_ret (v := .tuple #[.int .i64 (-1), .int .i64 1]) (by simp [results, Try.results68, go_sem, *]) rfl ?_
      exact ⟨by rw [HR.out, HI.out], HB0.out.trans ((HW.out ▸ HB1.out).mono HB0.out.size)⟩
    have H1 := Lib.hid h1
    rw [decide_eq_true h1] at HMAY
    clear h1
    by_cases h2 : s.fr = true
    · have HR := Lib.hid (getC_fr H1.out h2)
      have HI := Lib.hid (firI_not HR.out (by decide))
      have H2 := Lib.hid h2
      clear h2
      go_wp2_with (go_at_call 24; refine HMAY.out.mono ?_; rintro e w1 ⟨rfl, hb1⟩; rw [← HW.out] at hb1; have HB1 := Lib.hid hb1; obtain ⟨⟨c0, c1, c2, c3, c4⟩, -⟩ := box5 ((hb1.block _ (by rw [HWS.out]; omega)).trans HX.out); rw [H2.out] at c0; clear hb1)
      simp only [Exit.jump]
      refine bodyPost_ret (v := .tuple #[.int .i64 (-1), .int .i64 6]) (by simp [results, Try.results68, go_sem, *]) rfl ?_
      exact ⟨by rw [HR.out, HI.out], HB0.out.trans (HB1.out.mono HB0.out.size)⟩
    have H2 : Hid (s.fr = false) := Lib.hid (by simpa using h2)
    clear h2
    go_wp2_with (go_at_call 24; refine HMAY.out.mono ?_; rintro e w1 ⟨rfl, hb1⟩; rw [← HW.out] at hb1; have HB1 := Lib.hid hb1; have HX1 := Lib.hid ((hb1.block _ (by rw [HWS.out]; omega)).trans HX.out); obtain ⟨⟨c0, c1, c2, c3, c4⟩, -⟩ := box5 HX1.out; rw [H2.out] at c0; clear hb1)
    go_step3
    rename_i hK
    refine hK _ _ (HBK.out s.rd.length _ _ ⟨0, .agg #[.bool s.fr, .int .i64 s.nx, .slice ra s.rd.length rc, .slice ha s.hd.length hc, .slice ma s.ms.length mc], ?_⟩)
    repeat apply Exists.intro
    exact ⟨rfl, by omega, by omega, fun j h hj => by omega, H1.out, H2.out, HX1.out, HS1.out.below _ _ _ _ _ _ HB1.out, HB0.out.trans (HB1.out.mono HB0.out.size)⟩
  · rintro m a' w' ⟨i, u0, u5, u6, u7, u8, u9, u10, u11, u12, u13, u14, u15, u16, u17, u18, u19, u20, u21, u22, u23, u24, u25, u26, u27, u28, u29, rfl, rfl, hi, hno, hm, hfr, hbx, hs', hb⟩ H hH
    have HH := Lib.hid hH
    have HNO := Lib.hid hno
    have HM := Lib.hid hm
    have HFR := Lib.hid hfr
    have HBX := Lib.hid hbx
    have HS := Lib.hid hs'
    have HB := Lib.hid hb
    have hsm := hs'.sm.1
    obtain ⟨⟨c0, c1, c2, c3, c4⟩, -⟩ := box5 hbx
    clear hH hno hm hfr hbx hs' hb
    by_cases hlt : i < s.rd.length
    · have hlti : (i : Int) < (s.rd.length : Int) := by omega
      have h0i : (0 : Int) ≤ (i : Int) := by omega
      have hne : ((i : Int) == (s.rd.length : Int)) = false := by rw [beq_eq_false_iff_ne]; omega
      have q4 : IntKind.i64.wrap ((i : Int) + 1) = (i : Int) + 1 := IntWalk.i64_in _ (by omega)
      obtain ⟨b, o, rfl, d0, d1, d2, d3, d4⟩ := MgsAt.get HS.out.rd i hlt
      have hho := Lib.hid fun n => holds_any ha hc s.hd s.rd[i].key (w'.drewN n) (HS.out.hd.below (Below.drewN (Below.refl _ _) n))
      clear d0 d1 d3 d4
      cases hq : hasK s.hd s.rd[i].key with
      | true =>
        rw [hq] at hho
        have HQ : Hid (lockd s s.rd[i].key = true) := Lib.hid hq
        clear hq
        go_wp2_with fail
        go_quiet ((go_at_call 109; exact Calls.quiet_of_same ((hho.out _).mono fun e w' h => ⟨h.1, h.2.symm⟩)))
        go_wp2_with fail
        go_step3
        refine ⟨rfl, HH.out (s.rd.length - (i + 1)) _ _ (by omega) ⟨i + 1, u0, ?_⟩⟩
        repeat apply Exists.intro
        refine ⟨rfl, rfl, by omega, fun j h hj => ?_, HM.out, HFR.out, HBX.out, HS.out.below _ _ _ _ _ _ (Below.drewN (Below.refl _ _) _), Below.drewN HB.out _⟩
        by_cases hji : j = i
        · subst hji; exact HQ.out
        · exact HNO.out j h (by omega)
      | false =>
        rw [hq] at hho
        have HF : Hid (freeI s = some i) := Lib.hid (find_first hlt (by show (!lockd s s.rd[i].key) = true; rw [show lockd s s.rd[i].key = false from hq]; rfl) (fun j hj => by show (!lockd s s.rd[j].key) = false; rw [HNO.out j (by omega) hj]; rfl))
        clear hq
        by_cases hn : s.nx = 1073741824
        · have HR := Lib.hid (getC_full HM.out HFR.out HF.out hn)
          have HI := Lib.hid (firI_not HR.out (by decide))
          have en : (s.nx == 1073741824) = true := by rw [beq_iff_eq]; exact hn
          clear hn
          go_wp2_with fail
          go_quiet ((go_at_call 109; exact Calls.quiet_of_same ((hho.out _).mono fun e w' h => ⟨h.1, h.2.symm⟩)))
          go_wp2_with fail
          simp only [Exit.jump]
          refine bodyPost_ret (v := .tuple #[.int .i64 (-1), .int .i64 4]) (by simp [results, Try.results68, go_sem, *]) rfl ?_
          exact ⟨by rw [HR.out, HI.out], Below.drewN HB.out _⟩
        · have HR := Lib.hid (getC_ok HM.out HFR.out HF.out hn)
          have en : (s.nx == 1073741824) = false := by rw [beq_eq_false_iff_ne]; exact hn
          clear hn
          go_wp2_with fail
          go_quiet ((go_at_call 109; exact Calls.quiet_of_same ((hho.out _).mono fun e w' h => ⟨h.1, h.2.symm⟩)))
          go_wp2_with fail
          simp only [Exit.jump]
          refine bodyPost_ret (v := .tuple #[.int .i64 i, .int .i64 0]) (by simp [results, Try.results68, go_sem, *]) rfl ?_
          exact ⟨by rw [HR.out.1, HR.out.2], Below.drewN HB.out _⟩
    · obtain rfl : i = s.rd.length := by omega
      have hne : ((s.rd.length : Int) == (s.rd.length : Int)) = true := by simp
      have HR := Lib.hid (getC_none HM.out HFR.out (find_not fun j hj => by show (!lockd s s.rd[j].key) = false; rw [HNO.out j hj hj]; rfl))
      have HI := Lib.hid (firI_not HR.out (by decide))
      go_wp2_with fail
      simp only [Exit.jump]
      refine bodyPost_ret (v := .tuple #[.int .i64 (-1), .int .i64 3]) (by simp [results, Try.results68, go_sem, *]) rfl ?_
      exact ⟨by rw [HR.out, HI.out], HB.out⟩

/-! ### under -/
def undI (s : Sd) (t : Int) : Int := if outC s t = 0 then (outI s t : Int) else -1
theorem outC_arg {s : Sd} {t : Int} (h : ¬ MaySd s) : outC s t = 1 := by unfold outC; rw [if_pos h]
theorem outC_none {s : Sd} {t : Int} (h1 : MaySd s) (h : tagI s t = none) : outC s t = 3 := by unfold outC; rw [if_neg (fun g => g h1), if_pos h]
theorem outC_ok {s : Sd} {t : Int} {i : Nat} (h1 : MaySd s) (h : tagI s t = some i) : outC s t = 0 ∧ undI s t = i := by
  have hc : outC s t = 0 := by unfold outC; rw [if_neg (fun g => g h1), if_neg (by simp [h])]
  refine ⟨hc, ?_⟩
  unfold undI outI
  rw [if_pos hc, h]; rfl
theorem undI_not {s : Sd} {t c : Int} (h : outC s t = c) (hc : c ≠ 0) : undI s t = -1 := by unfold undI; rw [if_neg (by rw [h]; exact hc)]
def undRel (s : Sd) (t : Int) (w : World) (ra : Option Addr) (rc : Nat) (ha : Option Addr) (hc : Nat) (ma : Option Addr) (mc : Nat) (m : Nat) (a' : Act) (w' : World) : Prop :=
  ∃ (i : Nat) (u7 u8 u9 u10 u11 u12 u13 u14 u15 u16 u17 u18 u19 u20 u21 u22 u23 u24 u25 : Value), a' = { tmps := #[.agg #[.bool s.fr, .int .i64 s.nx, .slice ra s.rd.length rc, .slice ha s.hd.length hc, .slice ma s.ms.length mc], .int .i64 t, .pointer (some ⟨w.heap.size, 0, none⟩), undef, .int .i64 0, .int .i64 0, .int .i64 i, u7, u8, u9, u10, u11, u12, u13, u14, u15, u16, u17, u18, u19, u20, u21, u22, u23, u24, u25], defers := [] } ∧
    m = s.hd.length - i ∧ i ≤ s.hd.length ∧ (∀ (j : Nat) (h : j < s.hd.length), j < i → ¬ s.hd[j].tag = t) ∧ MaySd s ∧
    w'.heap[w.heap.size]? = some (.cells #[.bool s.fr, .int .i64 s.nx, .slice ra s.rd.length rc, .slice ha s.hd.length hc, .slice ma s.ms.length mc] 26 (0, 0)) ∧ SdAt w' ra rc ha hc ma mc s ∧ Below w.heap.size w w'
set_option maxRecDepth 100000 in
set_option maxHeartbeats 2000000 in
theorem under_any (s : Sd) (t : Int) (ra : Option Addr) (rc : Nat) (ha : Option Addr) (hc : Nat) (ma : Option Addr) (mc : Nat) (w : World) (hs : SdAt w ra rc ha hc ma mc s) :
    Calls Try.prog 111 #[.agg #[.bool s.fr, .int .i64 s.nx, .slice ra s.rd.length rc, .slice ha s.hd.length hc, .slice ma s.ms.length mc], .int .i64 t] w fun e w' => e = .returned (.tuple #[.int .i64 (undI s t), .int .i64 (outC s t)]) ∧ Below w.heap.size w w' := by
  obtain ⟨W, hW⟩ : ∃ W, W = w.alloc (.cells #[.bool s.fr, .int .i64 s.nx, .slice ra s.rd.length rc, .slice ha s.hd.length hc, .slice ma s.ms.length mc] 26) := ⟨_, rfl⟩
  have hb0 : Below w.heap.size w W := by rw [hW]; exact (Below.refl _ _).alloc (Nat.le_refl _) _
  have hWs : W.heap.size = w.heap.size + 1 := by rw [hW]; simp
  have hx : W.heap[w.heap.size]? = some (.cells #[.bool s.fr, .int .i64 s.nx, .slice ra s.rd.length rc, .slice ha s.hd.length hc, .slice ma s.ms.length mc] 26 (0, 0)) := by rw [hW]; exact heap_alloc_new _ _
  have HB0 := Lib.hid hb0
  have HWS := Lib.hid hWs
  have HX := Lib.hid hx
  have HS1 := Lib.hid (hs.below ra rc ha hc ma mc hb0)
  have HMAY := Lib.hid (may_any s ra rc ha hc ma mc W HS1.out)
  have HW := Lib.hid hW
  rw [hW] at HMAY
  clear hs hb0 hWs hx hW
  go_enter Try.func111, Try.ntmps111
  go_wp2_with fail
  refine wp_scope_ghost 0 (undRel s t w ra rc ha hc ma mc) rfl ?_ ?_
  · intro H hb'
    have HBK := Lib.hid hb'
    clear hb'
    by_cases h1 : MaySd s
    case neg =>
      have HR := Lib.hid (outC_arg (t := t) h1)
      have HI := Lib.hid (undI_not HR.out (by decide))
      rw [decide_eq_false h1] at HMAY
      clear h1
      go_wp2_with (go_at_call 24; refine HMAY.out.mono ?_; rintro e w1 ⟨rfl, hb1⟩; have HB1 := Lib.hid hb1; clear hb1)
      simp only [Exit.jump]
      refine bodyPost_ret (v := .tuple #[.int .i64 (-1), .int .i64 1]) (by simp [results, Try.results111, go_sem, *]) rfl ?_
      exact ⟨by rw [HR.out, HI.out], HB0.out.trans ((HW.out ▸ HB1.out).mono HB0.out.size)⟩
    have H1 := Lib.hid h1
    rw [decide_eq_true h1] at HMAY
    clear h1
    go_wp2_with (go_at_call 24; refine HMAY.out.mono ?_; rintro e w1 ⟨rfl, hb1⟩; rw [← HW.out] at hb1; have HB1 := Lib.hid hb1; have HX1 := Lib.hid ((hb1.block _ (by rw [HWS.out]; omega)).trans HX.out); obtain ⟨⟨c0, c1, c2, c3, c4⟩, -⟩ := box5 HX1.out; clear hb1)
    go_step3
    rename_i hK
    refine hK _ _ (HBK.out s.hd.length _ _ ⟨0, ?_⟩)
    repeat apply Exists.intro
    exact ⟨rfl, by omega, by omega, fun j h hj => by omega, H1.out, HX1.out, HS1.out.below _ _ _ _ _ _ HB1.out, HB0.out.trans (HB1.out.mono HB0.out.size)⟩
  · rintro m a' w' ⟨i, u7, u8, u9, u10, u11, u12, u13, u14, u15, u16, u17, u18, u19, u20, u21, u22, u23, u24, u25, rfl, rfl, hi, hno, hm, hbx, hs', hb⟩ H hH
    have HH := Lib.hid hH
    have HNO := Lib.hid hno
    have HM := Lib.hid hm
    have HBX := Lib.hid hbx
    have HS := Lib.hid hs'
    have HB := Lib.hid hb
    have hsm := hs'.sm.2.1
    obtain ⟨⟨c0, c1, c2, c3, c4⟩, -⟩ := box5 hbx
    clear hH hno hm hbx hs' hb
    by_cases hlt : i < s.hd.length
    · have hlti : (i : Int) < (s.hd.length : Int) := by omega
      have h0i : (0 : Int) ≤ (i : Int) := by omega
      have hne : ((i : Int) == (s.hd.length : Int)) = false := by rw [beq_eq_false_iff_ne]; omega
      have q4 : IntKind.i64.wrap ((i : Int) + 1) = (i : Int) + 1 := IntWalk.i64_in _ (by omega)
      obtain ⟨b, o, rfl, d0, d1, d2, d3, d4, d5⟩ := HdsAt.get HS.out.hd i hlt
      clear d1 d2 d3 d4 d5
      by_cases hq : s.hd[i].tag = t
      · have HR := Lib.hid (outC_ok HM.out (find_first hlt (decide_eq_true hq) (fun j hj => decide_eq_false (HNO.out j (by omega) hj))))
        have e1 : (s.hd[i].tag == t) = true := by simpa using hq
        have e2 : (s.hd[i].tag != t) = false := by simpa using hq
        clear hq
        go_wp2_with fail
        simp only [Exit.jump]
        refine bodyPost_ret (v := .tuple #[.int .i64 i, .int .i64 0]) (by simp [results, Try.results111, go_sem, *]) rfl ?_
        exact ⟨by rw [HR.out.1, HR.out.2], HB.out⟩
      · have HQ := Lib.hid hq
        have e1 : (s.hd[i].tag == t) = false := by simpa using hq
        have e2 : (s.hd[i].tag != t) = true := by simpa using hq
        clear hq
        go_wp2_with fail
        go_step3
        refine ⟨rfl, HH.out (s.hd.length - (i + 1)) _ _ (by omega) ⟨i + 1, ?_⟩⟩
        repeat apply Exists.intro
        refine ⟨rfl, rfl, by omega, fun j h hj => ?_, HM.out, HBX.out, HS.out, HB.out⟩
        by_cases hji : j = i
        · subst hji; exact HQ.out
        · exact HNO.out j h (by omega)
    · obtain rfl : i = s.hd.length := by omega
      have hne : ((s.hd.length : Int) == (s.hd.length : Int)) = true := by simp
      have HR := Lib.hid (outC_none HM.out (t := t) (find_not fun j hj => decide_eq_false (HNO.out j hj hj)))
      have HI := Lib.hid (undI_not HR.out (by decide))
      go_wp2_with fail
      simp only [Exit.jump]
      refine bodyPost_ret (v := .tuple #[.int .i64 (-1), .int .i64 3]) (by simp [results, Try.results111, go_sem, *]) rfl ?_
      exact ⟨by rw [HR.out, HI.out], HB.out⟩

end Go.Proofs.Ythohjcfpobeplaa.Sh
