/-
  shard.Ack, Nack, walked.
-/
import Derived.Test.YthohjcfpobeplaaShGet
namespace Go.Proofs.Ythohjcfpobeplaa.Sh
open Go.RowKit Rg Go.Sort
set_option linter.unusedVariables false
set_option linter.unusedSimpArgs false

theorem setl_sm {s : Sd} {t : Int} (h : s.rd.length ≤ 1000 ∧ s.hd.length ≤ 1000 ∧ s.ms.length ≤ 1000) : (setlS s t).rd.length ≤ 1000 ∧ (setlS s t).hd.length ≤ 1000 ∧ (setlS s t).ms.length ≤ 1000 := by
  unfold setlS
  split
  · refine ⟨h.1, ?_, h.2.2⟩
    show (s.hd.eraseIdx _).length ≤ 1000
    have := List.length_eraseIdx_le s.hd (outI s t)
    omega
  · exact h
set_option maxRecDepth 100000 in
set_option maxHeartbeats 2000000 in
theorem ack_any (s : Sd) (t : Int) (ra : Option Addr) (rc : Nat) (ha : Option Addr) (hc : Nat) (ma : Option Addr) (mc : Nat) (w : World) (hs : SdAt w ra rc ha hc ma mc s) : Calls Try.prog 27 #[.agg #[.bool s.fr, .int .i64 s.nx, .slice ra s.rd.length rc, .slice ha s.hd.length hc, .slice ma s.ms.length mc], .int .i64 t] w (ShO (ackS s t) (outC s t) w) := by
  have hack : ackS s t = setlS s t := rfl
  rw [hack]
  obtain ⟨hx, hy, hb0, hWs⟩ := two_box (w := w) (.cells #[.bool s.fr, .int .i64 s.nx, .slice ra s.rd.length rc, .slice ha s.hd.length hc, .slice ma s.ms.length mc] 26) (.cells #[.bool false, .int .i64 0, .slice none 0 0, .slice none 0 0, .slice none 0 0] 26)
  obtain ⟨W, hW⟩ : ∃ W, W = (w.alloc (.cells #[.bool s.fr, .int .i64 s.nx, .slice ra s.rd.length rc, .slice ha s.hd.length hc, .slice ma s.ms.length mc] 26)).alloc (.cells #[.bool false, .int .i64 0, .slice none 0 0, .slice none 0 0, .slice none 0 0] 26) := ⟨_, rfl⟩
  rw [← hW] at hx hy hb0 hWs
  have HBX := Lib.hid (boxes ra rc ha hc ma mc hx hy (by omega))
  have HB0 := Lib.hid hb0
  have HWS := Lib.hid hWs
  have HSM := Lib.hid (setl_sm (t := t) hs.sm)
  have HW := Lib.hid hW
  have HSE := Lib.hid (settle_any s t ra rc ha hc ma mc W (hs.below ra rc ha hc ma mc hb0))
  unfold SetR at HSE
  rw [hW] at HSE
  generalize setlS s t = s' at *
  generalize setlM s t = mm at *
  generalize outC s t = c at *
  clear hs hx hy hb0 hWs hW hack
  go_enter Try.func27, Try.ntmps27
  go_wp2_with (go_at_call 76; refine HSE.out.mono ?_; rintro e w1 ⟨ra1, rc1, ha1, hc1, ma1, mc1, rfl, ho1, hb1⟩; rw [← HW.out] at hb1 ho1; have HB1 := Lib.hid hb1; have HO1 := Lib.hid ho1; obtain ⟨⟨d0, d1, d2, d3, d4⟩, f0, f1, f2, f3, f4⟩ := box5 (HBX.out _ hb1).2; obtain ⟨⟨e0, e1, e2, e3, e4⟩, k0, k1, k2, k3, k4⟩ := box5 (HBX.out _ hb1).1; have m2 := hb1.size; have m3 : w.heap.size < w1.heap.size := (by have := HWS.out; omega); have m4 : ¬ w.heap.size = w1.heap.size := (by omega); have m5 : w.heap.size + 1 < w1.heap.size := (by have := HWS.out; omega); have m6 : ¬ w.heap.size + 1 = w1.heap.size := (by omega); have m7 : ¬ w1.heap.size = w.heap.size := (by omega); have m8 : ¬ w1.heap.size = w.heap.size + 1 := (by omega); clear hb1 ho1)
  refine bodyPost_ret (v := .tuple #[.agg #[.bool s'.fr, .int .i64 s'.nx, .slice ra1 s'.rd.length rc1, .slice ha1 s'.hd.length hc1, .slice ma1 s'.ms.length mc1], .int .i64 c]) (by simp [results, Try.results27, go_sem, *]) rfl ?_
  have hsz := HWS.out
  refine sho_of _ _ _ _ _ _ (base := W.heap.size) ?_ (by omega) HSM.out ?_
  · refine OwnS.below1 (HO1.out.kept ?_) ((Below.refl _ _).alloc (Nat.le_refl _) _)
    repeat (refine far_set ?_ (by omega))
    exact far_refl _
  · refine Below.alloc ?_ (by simp; omega) _
    repeat (refine low_set ?_ (by omega))
    exact HB0.out.trans (HB1.out.mono HB0.out.size)

theorem nack_ok {s : Sd} {t : Int} (h : outC s t = 0) : nackS s t = { setlS s t with rd := { setlM s t with again := true } :: (setlS s t).rd } := by
  unfold nackS setlS setlM
  rw [if_pos h, if_pos h, if_pos h]
theorem nack_not {s : Sd} {t : Int} (h : ¬ outC s t = 0) : nackS s t = setlS s t := by
  unfold nackS setlS
  rw [if_neg h, if_neg h]
set_option maxRecDepth 100000 in
set_option maxHeartbeats 2000000 in
theorem nack_any (s : Sd) (t : Int) (ra : Option Addr) (rc : Nat) (ha : Option Addr) (hc : Nat) (ma : Option Addr) (mc : Nat) (w : World) (hs : SdAt w ra rc ha hc ma mc s) : Calls Try.prog 29 #[.agg #[.bool s.fr, .int .i64 s.nx, .slice ra s.rd.length rc, .slice ha s.hd.length hc, .slice ma s.ms.length mc], .int .i64 t] w (ShO (nackS s t) (outC s t) w) := by
  obtain ⟨hx, hy, hb0, hWs⟩ := two_box (w := w) (.cells #[.bool s.fr, .int .i64 s.nx, .slice ra s.rd.length rc, .slice ha s.hd.length hc, .slice ma s.ms.length mc] 26) (.cells #[.bool false, .int .i64 0, .slice none 0 0, .slice none 0 0, .slice none 0 0] 26)
  obtain ⟨W, hW⟩ : ∃ W, W = (w.alloc (.cells #[.bool s.fr, .int .i64 s.nx, .slice ra s.rd.length rc, .slice ha s.hd.length hc, .slice ma s.ms.length mc] 26)).alloc (.cells #[.bool false, .int .i64 0, .slice none 0 0, .slice none 0 0, .slice none 0 0] 26) := ⟨_, rfl⟩
  rw [← hW] at hx hy hb0 hWs
  have HBX := Lib.hid (boxes ra rc ha hc ma mc hx hy (by omega))
  have HB0 := Lib.hid hb0
  have HWS := Lib.hid hWs
  have HSM := Lib.hid (setl_sm (t := t) hs.sm)
  have HRD : Hid ((setlS s t).rd.length ≤ 999 ∨ ¬ outC s t = 0) := Lib.hid (by
    by_cases h : outC s t = 0
    · refine .inl ?_
      have hm : MaySd s := by
        unfold outC at h
        split at h
        · cases h
        · rename_i h1; exact Classical.byContradiction fun g => h1 g
      have h1 : (setlS s t).rd = s.rd := by unfold setlS; split <;> rfl
      rw [h1]
      have := hm.2.2.1
      omega
    · exact .inr h)
  have HW := Lib.hid hW
  have HSE := Lib.hid (settle_any s t ra rc ha hc ma mc W (hs.below ra rc ha hc ma mc hb0))
  unfold SetR at HSE
  rw [hW] at HSE
  by_cases h1 : outC s t = 0
  case neg =>
    rw [nack_not h1]
    have hne : (outC s t != 0) = true := by simpa using h1
    have hne2 : (outC s t == 0) = false := by simpa using h1
    clear HRD h1
    generalize setlS s t = s' at *
    generalize setlM s t = mm at *
    generalize outC s t = c at *
    clear hs hx hy hb0 hWs hW
    go_enter Try.func29, Try.ntmps29
    go_wp2_with (go_at_call 76; refine HSE.out.mono ?_; rintro e w1 ⟨ra1, rc1, ha1, hc1, ma1, mc1, rfl, ho1, hb1⟩; rw [← HW.out] at hb1 ho1; have HB1 := Lib.hid hb1; have HO1 := Lib.hid ho1; obtain ⟨⟨d0, d1, d2, d3, d4⟩, f0, f1, f2, f3, f4⟩ := box5 (HBX.out _ hb1).2; obtain ⟨⟨e0, e1, e2, e3, e4⟩, k0, k1, k2, k3, k4⟩ := box5 (HBX.out _ hb1).1; have m2 := hb1.size; have m3 : w.heap.size < w1.heap.size := (by have := HWS.out; omega); have m4 : ¬ w.heap.size = w1.heap.size := (by omega); have m5 : w.heap.size + 1 < w1.heap.size := (by have := HWS.out; omega); have m6 : ¬ w.heap.size + 1 = w1.heap.size := (by omega); have m7 : ¬ w1.heap.size = w.heap.size := (by omega); have m8 : ¬ w1.heap.size = w.heap.size + 1 := (by omega); clear hb1 ho1)
    refine bodyPost_ret (v := .tuple #[.agg #[.bool s'.fr, .int .i64 s'.nx, .slice ra1 s'.rd.length rc1, .slice ha1 s'.hd.length hc1, .slice ma1 s'.ms.length mc1], .int .i64 c]) (by simp [results, Try.results29, go_sem, *]) rfl ?_
    have hsz := HWS.out
    refine sho_of _ _ _ _ _ _ (base := W.heap.size) ?_ (by omega) HSM.out ?_
    · refine OwnS.below1 (HO1.out.kept ?_) ((Below.refl _ _).alloc (Nat.le_refl _) _)
      repeat (refine far_set ?_ (by omega))
      exact far_refl _
    · refine Below.alloc ?_ (by simp; omega) _
      repeat (refine low_set ?_ (by omega))
      exact HB0.out.trans (HB1.out.mono HB0.out.size)
  rw [nack_ok h1, h1]
  rw [h1] at HSE
  have HRL : Hid ((setlS s t).rd.length ≤ 999) := Lib.hid (HRD.out.resolve_right (fun g => g h1))
  clear HRD h1
  generalize setlS s t = s' at *
  generalize setlM s t = mm at *
  clear hs hx hy hb0 hWs hW
  go_enter Try.func29, Try.ntmps29
  go_wp2_with (go_at_call 76; refine HSE.out.mono ?_; rintro e w1 ⟨ra1, rc1, ha1, hc1, ma1, mc1, rfl, ho1, hb1⟩; rw [← HW.out] at hb1 ho1; have HB1 := Lib.hid hb1; have HO1 := Lib.hid ho1; obtain ⟨⟨d0, d1, d2, d3, d4⟩, f0, f1, f2, f3, f4⟩ := box5 (HBX.out _ hb1).2; obtain ⟨⟨e0, e1, e2, e3, e4⟩, k0, k1, k2, k3, k4⟩ := box5 (HBX.out _ hb1).1; have m2 := hb1.size; have m3 : w.heap.size < w1.heap.size := (by have := HWS.out; omega); have m4 : ¬ w.heap.size = w1.heap.size := (by omega); have m5 : w.heap.size + 1 < w1.heap.size := (by have := HWS.out; omega); have m6 : ¬ w.heap.size + 1 = w1.heap.size := (by omega); have m7 : ¬ w1.heap.size = w.heap.size := (by omega); have m8 : ¬ w1.heap.size = w.heap.size + 1 := (by omega); clear hb1 ho1)
  generalize hw3 : World.alloc (World.alloc (World.setCell (World.setCell (World.setCell (World.setCell (World.setCell w1 _ _) _ _) _ _) _ _) _ _) _) _ = w3
  have hw3' : ((set5 w1 w.heap.size (.bool s'.fr) (.int .i64 s'.nx) (.slice ra1 s'.rd.length rc1) (.slice ha1 s'.hd.length hc1) (.slice ma1 s'.ms.length mc1)).alloc (.cells #[.int .i64 ({ mm with again := true } : Mg).pub, .int .i64 ({ mm with again := true } : Mg).seq, .string ⟨({ mm with again := true } : Mg).key.toArray⟩, .string ⟨({ mm with again := true } : Mg).body.toArray⟩, .bool ({ mm with again := true } : Mg).again] 35)).alloc (.cells #[.int .i64 ({ mm with again := true } : Mg).pub, .int .i64 ({ mm with again := true } : Mg).seq, .string ⟨({ mm with again := true } : Mg).key.toArray⟩, .string ⟨({ mm with again := true } : Mg).body.toArray⟩, .bool ({ mm with again := true } : Mg).again] 35) = w3 := hw3
  have hsz := HWS.out
  obtain ⟨-, t2, t3, t4⟩ := two_box (w := set5 w1 w.heap.size (.bool s'.fr) (.int .i64 s'.nx) (.slice ra1 s'.rd.length rc1) (.slice ha1 s'.hd.length hc1) (.slice ma1 s'.ms.length mc1)) (.cells #[.int .i64 ({ mm with again := true } : Mg).pub, .int .i64 ({ mm with again := true } : Mg).seq, .string ⟨({ mm with again := true } : Mg).key.toArray⟩, .string ⟨({ mm with again := true } : Mg).body.toArray⟩, .bool ({ mm with again := true } : Mg).again] 35) (.cells #[.int .i64 ({ mm with again := true } : Mg).pub, .int .i64 ({ mm with again := true } : Mg).seq, .string ⟨({ mm with again := true } : Mg).key.toArray⟩, .string ⟨({ mm with again := true } : Mg).body.toArray⟩, .bool ({ mm with again := true } : Mg).again] 35)
  rw [hw3'] at t2 t3 t4
  rw [set5_size] at t2 t4
  have b1 : w3.heap[w.heap.size]? = some (.cells #[.bool s'.fr, .int .i64 s'.nx, .slice ra1 s'.rd.length rc1, .slice ha1 s'.hd.length hc1, .slice ma1 s'.ms.length mc1] 26 (0, 0)) :=
    (t3.block _ (by rw [set5_size]; omega)).trans (set5_box (HBX.out _ HB1.out).1 _ _ _ _ _)
  have b2 := (t3.block (w.heap.size + 1) (by rw [set5_size]; omega)).trans ((set5_heap _ _ _ _ _ _ _ _ (by omega)).trans (HBX.out _ HB1.out).2)
  have bel3 : Below w.heap.size w w3 := (set5_below (HB0.out.trans (HB1.out.mono HB0.out.size)) (Nat.le_refl _) _ _ _ _ _).trans (t3.mono (by rw [set5_size]; omega))
  have o3 : OwnS w3 W.heap.size s' (.slice ra1 s'.rd.length rc1) (.slice ha1 s'.hd.length hc1) (.slice ma1 s'.ms.length mc1) := (HO1.out.kept fun b hb => set5_heap _ _ _ _ _ _ _ _ (by omega)).below1 t3
  have hlt := fun g e => (World.ownsRow.lt HO1.out.rd g e).2
  have hins := ins_any { mm with again := true } s'.rd HSM.out.1 w3 W.heap.size _ o3.rd (by omega) (w1.heap.size + 1) t2 (fun e => by have := hlt _ e; omega)
  have hltB : ∀ g, (Value.slice ra1 s'.rd.length rc1).ownBlock = some g → w.heap.size + 1 < g := fun g e => by have := (World.ownsRow.lt HO1.out.rd g e).1; omega
  have HINS := Lib.hid hins
  have HO3 := Lib.hid o3
  have HB3 := Lib.hid bel3
  have HBB := Lib.hid (And.intro b1 b2)
  have HLB := Lib.hid hltB
  clear b1 b2 t2 t3 bel3 o3 hins hlt hltB hw3 hw3' d0 d1 d2 d3 d4 f0 f1 f2 f3 f4 e0 e1 e2 e3 e4 k0 k1 k2 k3 k4
  refine HINS.out.mono ?_
  rintro e w4 ⟨v', rfl, hd4, hg4⟩
  obtain ⟨xr, cr, rfl, -, -⟩ := OwnE.at mgE hd4
  have k1 := (hg4.block w.heap.size (by omega) (fun e => by have := HLB.out _ e.symm; omega)).trans HBB.out.1
  have k2 := (hg4.block (w.heap.size + 1) (by omega) (fun e => by have := HLB.out _ e.symm; omega)).trans HBB.out.2
  obtain ⟨⟨a0, a1, a2, a3, a4⟩, f0, f1, f2, f3, f4⟩ := box5 k1
  obtain ⟨⟨d0, d1, d2, d3, d4⟩, l0, l1, l2, l3, l4⟩ := box5 k2
  have HO4 : Hid (OwnS w4 W.heap.size { s' with rd := { mm with again := true } :: s'.rd } (.slice xr (({ mm with again := true } : Mg) :: s'.rd).length cr) (.slice ha1 s'.hd.length hc1) (.slice ma1 s'.ms.length mc1)) := Lib.hid ⟨hd4, OwnE.other HO3.out.rd HO3.out.hd (by decide) hg4, OwnE.other HO3.out.rd HO3.out.ms (by decide) hg4⟩
  have HB4 : Hid (Below w.heap.size w w4) := Lib.hid (HB3.out.grown hg4 (by omega) (fun k e => by have := HLB.out _ e; omega))
  have hs4 := hg4.size
  have HSM4 : Hid ((({ mm with again := true } : Mg) :: s'.rd).length ≤ 1000 ∧ s'.hd.length ≤ 1000 ∧ s'.ms.length ≤ 1000) := Lib.hid ⟨by simp; have := HRL.out; omega, HSM.out.2⟩
  generalize hL : ({ mm with again := true } : Mg) :: s'.rd = L at *
  clear hd4 hg4 k1 k2 hL
  go_wp2_with fail
  refine bodyPost_ret (v := .tuple #[.agg #[.bool s'.fr, .int .i64 s'.nx, .slice xr L.length cr, .slice ha1 s'.hd.length hc1, .slice ma1 s'.ms.length mc1], .int .i64 0]) (by simp [results, Try.results29, go_sem, a0, a1, a2, a3, a4, d0, d1, d2, d3, d4]) rfl ?_
  refine sho_of (s' := { s' with rd := L }) _ _ _ _ _ _ (base := W.heap.size) (HO4.out.kept ?_) (by omega) HSM4.out ?_
  · repeat (refine far_set ?_ (by omega))
    exact far_refl _
  · repeat (refine low_set ?_ (by omega))
    exact HB4.out

end Go.Proofs.Ythohjcfpobeplaa.Sh
