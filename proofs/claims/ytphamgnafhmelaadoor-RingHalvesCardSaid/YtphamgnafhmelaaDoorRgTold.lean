/-
  What every law of the layer asks for first: a few of the document's answers.
-/
import Derived.Test.YtphamgnafhmelaaDoorRgBuild
import Derived.Test.YtphamgnafhmelaaDoorRgHalve
namespace Go.Proofs.YtphamgnafhmelaaDoor.Rg
open Go.RowKit
set_option linter.unusedVariables false

theorem ars_lit (w : World) (x y : Int) : AsAt (w.alloc (.cells #[.int .u32 x, .int .i64 y] 39)) (some ⟨w.heap.size, 0, none⟩) 1 [⟨x, y⟩] := by
  refine ⟨by simp, by simp [maxLen], fun _ => ⟨_, 0, rfl, fun i hi r v hv => ?_⟩⟩
  obtain rfl : i = 0 := by simpa using hi
  match r, hv with
  | 0, hv => cases hv; simp
  | 1, hv => cases hv; simp
theorem ws_lit2 (w : World) (x y : Int) : WsAt (w.alloc (.cells #[.int .i64 x, .int .i64 y] 3)) (some ⟨w.heap.size, 0, none⟩) 2 [x, y] := by
  refine ⟨by simp, by simp [maxLen], fun _ => ⟨_, 0, rfl, fun i hi r v hv => ?_⟩⟩
  have hr : r = 0 := by
    have := (List.getElem?_eq_some_iff.1 hv).1
    rw [wC_len] at this
    omega
  subst hr
  match i, hi, hv with
  | 0, _, hv => cases hv; simp
  | 1, _, hv => cases hv; simp
  | i + 2, hi, _ => exact absurd hi (by simp)
theorem ws_lit1 (w : World) (x : Int) : WsAt (w.alloc (.cells #[.int .i64 x] 3)) (some ⟨w.heap.size, 0, none⟩) 1 [x] := by
  refine ⟨by simp, by simp [maxLen], fun _ => ⟨_, 0, rfl, fun i hi r v hv => ?_⟩⟩
  have hr : r = 0 := by
    have := (List.getElem?_eq_some_iff.1 hv).1
    rw [wC_len] at this
    omega
  subst hr
  obtain rfl : i = 0 := by simpa using hi
  cases hv; simp

theorem mayW12 : MayW [1, 2] := ⟨by decide, by decide, by decide, 1, by decide, by decide⟩
theorem told_b : (buildL [1, 2]).length = 24 ∧ buildC [1, 2] = 0 ∧ buildC [0] = 1 := by
  refine ⟨?_, if_pos mayW12, if_neg fun h => ?_⟩
  · unfold buildL
    rw [if_pos mayW12]
    unfold ringW
    rw [srt_length]
    unfold marksF
    rw [List.length_map]
    decide
  · obtain ⟨_, _, _, x, hx, h0⟩ := h
    simp at hx
    omega
def oneA : List Ar := [⟨5, 2⟩]
def twoA : List Ar := [⟨5, 2⟩, ⟨2147483653, 3⟩]
theorem may_one (f s : Int) (hs : 0 ≤ s ∧ s < 16) : May [⟨f, s⟩] :=
  may_of (by simp) (by simp) (fun a ha => by simp at ha; subst ha; exact hs) (List.pairwise_singleton _ _)
theorem oneA_may : May oneA := may_one 5 2 (by decide)
theorem twoA_may : May twoA := by
  refine may_of (by decide) (by decide) (fun a ha => ?_) ?_
  · unfold twoA at ha
    simp at ha
    rcases ha with rfl | rfl <;> decide
  · unfold Up twoA; simp
theorem oneA_wf : Wf oneA := fun a ha => by unfold oneA at ha; simp at ha; subst ha; decide
theorem twoA_wf : Wf twoA := fun a ha => by unfold twoA at ha; simp at ha; rcases ha with rfl | rfl <;> decide
theorem told_halve : halveA oneA 2 3 = twoA := by
  have hc : cutF oneA 2 3 = twoA := by decide
  unfold halveA
  rw [if_pos ⟨oneA_may, by decide, by rw [hc]; decide⟩]
  unfold halveF
  rw [hc]
  exact (srt_one twoA_may.up (List.Perm.refl _)).symm
theorem told_ow : ownerA oneA 3 = 2 ∧ widthA oneA 0 = 4294967296 ∧ shareA oneA 2 = 4294967296 ∧ ownerA twoA 2147483653 = 3 ∧ ownerA twoA 2147483652 = 2 ∧ ownerA [] 0 = -1 ∧ decide (May oneA) = true ∧ decide (May []) = false := by
  unfold ownerA widthA shareA
  rw [if_pos oneA_may, if_pos oneA_may, if_pos twoA_may, if_pos twoA_may, if_pos ⟨oneA_may, by decide⟩]
  refine ⟨by decide, by decide, by decide, by decide, by decide, if_neg fun h => ?_, decide_eq_true oneA_may, decide_eq_false fun h => ?_⟩
  · have := h.1; simp at this
  · have := h.1; simp at this

set_option maxHeartbeats 2000000 in
theorem told_any (w : World) :
    Calls Tryd.prog 11 #[] w fun e w' => e = .returned (.bool true) ∧ Below w.heap.size w w' := by
  obtain ⟨W, hW⟩ : ∃ W, W = w.alloc (.cells #[.int .u32 5, .int .i64 2] 39) := ⟨_, rfl⟩
  have hWb : Below w.heap.size w W := by rw [hW]; exact (Below.refl _ _).alloc (Nat.le_refl _) _
  have hWs : W.heap.size = w.heap.size + 1 := by rw [hW]; simp
  have hWa : AsAt W (some ⟨w.heap.size, 0, none⟩) 1 oneA := by rw [hW]; exact ars_lit w 5 2
  have HW := Lib.hid hW
  have HWB := Lib.hid hWb
  have HWS := Lib.hid hWs
  have HWA := Lib.hid hWa
  have hB := told_b
  have HO := Lib.hid told_ow
  have HB1 := Lib.hid fun (wx : World) a h => build_any a 2 [1, 2] wx h
  have HB2 := Lib.hid fun (wx : World) a h => build_any a 1 [0] wx h
  have HH := Lib.hid fun (wx : World) a h => halve_any a 1 oneA 2 3 wx h oneA_wf
  rw [told_halve] at HH
  unfold BuildR at HB1 HB2
  unfold ArsR at HH
  rw [show twoA.length = 2 from rfl] at HH
  rw [hB.1, hB.2.1] at HB1
  rw [hB.2.2] at HB2
  clear hB hW hWb hWs hWa
  go_enter Tryd.func11, Tryd.ntmps11
  go_wp2_with fail
  rw [← HW.out, ← HWS.out]
  refine (HB1.out _ (some ⟨W.heap.size, 0, none⟩) (ws_lit2 W 1 2)).mono ?_
  rintro e w2 ⟨ba, bc, rfl, _, _, hb2⟩
  have HL2 := Lib.hid (Below.trans ((Below.refl W.heap.size W).alloc (Nat.le_refl _) _) (hb2.mono (by simp)))
  clear hb2
  go_wp2_with fail
  refine (HB2.out _ (some ⟨w2.heap.size, 0, none⟩) (ws_lit1 w2 0)).mono ?_
  rintro e w3 ⟨da, dc, rfl, _, _, hb3⟩
  have HL3 := Lib.hid (Below.trans (HL2.out.alloc HL2.out.size _) (hb3.mono (Nat.le_trans HL2.out.size (by simp))))
  clear hb3
  go_wp2_with fail
  refine (HH.out _ (some ⟨w.heap.size, 0, none⟩) (HWA.out.below HL3.out)).mono ?_
  rintro e w4 ⟨ha, hc, rfl, hat, hn, hb4⟩
  have HL4 := Lib.hid (HL3.out.trans (hb4.mono HL3.out.size))
  have HAT := Lib.hid hat
  clear hat hn hb4
  have HT4 := HAT
  have hc5 := owner_any (some ⟨w.heap.size, 0, none⟩) 1 oneA 3 w4 (HWA.out.below HL4.out)
  rw [HO.out.1] at hc5
  have HC5 := Lib.hid hc5
  clear hc5
  go_wp2_with fail
  refine HC5.out.mono ?_
  rintro e w5 ⟨rfl, hd⟩
  have HL5 := Lib.hid (HL4.out.trans (hd.below.mono HL4.out.size))
  have HT5 := Lib.hid (HT4.out.below hd.below)
  clear hd HC5
  have hc6 := widthA_any (some ⟨w.heap.size, 0, none⟩) 1 oneA 0 w5 (HWA.out.below HL5.out) oneA_wf
  rw [HO.out.2.1] at hc6
  have HC6 := Lib.hid hc6
  clear hc6
  go_wp2_with fail
  refine HC6.out.mono ?_
  rintro e w6 ⟨rfl, hd⟩
  have HL6 := Lib.hid (HL5.out.trans (hd.below.mono HL5.out.size))
  have HT6 := Lib.hid (HT5.out.below hd.below)
  clear hd HC6
  have hc7 := share_any (some ⟨w.heap.size, 0, none⟩) 1 oneA 2 w6 (HWA.out.below HL6.out) oneA_wf
  rw [HO.out.2.2.1] at hc7
  have HC7 := Lib.hid hc7
  clear hc7
  go_wp2_with fail
  refine HC7.out.mono ?_
  rintro e w7 ⟨rfl, hd⟩
  have HL7 := Lib.hid (HL6.out.trans (hd.below.mono HL6.out.size))
  have HT7 := Lib.hid (HT6.out.below hd.below)
  clear hd HC7
  have hc8 := owner_any ha hc twoA 2147483653 w7 HT7.out
  rw [HO.out.2.2.2.1] at hc8
  have HC8 := Lib.hid hc8
  clear hc8
  go_wp2_with fail
  refine HC8.out.mono ?_
  rintro e w8 ⟨rfl, hd⟩
  have HL8 := Lib.hid (HL7.out.trans (hd.below.mono HL7.out.size))
  have HT8 := Lib.hid (HT7.out.below hd.below)
  clear hd HC8
  have hc9 := owner_any ha hc twoA 2147483652 w8 HT8.out
  rw [HO.out.2.2.2.2.1] at hc9
  have HC9 := Lib.hid hc9
  clear hc9
  go_wp2_with fail
  refine HC9.out.mono ?_
  rintro e w9 ⟨rfl, hd⟩
  have HL9 := Lib.hid (HL8.out.trans (hd.below.mono HL8.out.size))
  have HT9 := Lib.hid (HT8.out.below hd.below)
  clear hd HC9
  have hc10 := may_any (some ⟨w.heap.size, 0, none⟩) 1 oneA w9 (HWA.out.below HL9.out)
  rw [HO.out.2.2.2.2.2.2.1] at hc10
  have HC10 := Lib.hid hc10
  clear hc10
  go_wp2_with fail
  refine HC10.out.mono ?_
  rintro e w10 ⟨rfl, hd⟩
  have HL10 := Lib.hid (HL9.out.trans (hd.below.mono HL9.out.size))
  have HT10 := Lib.hid (HT9.out.below hd.below)
  clear hd HC10
  have hc11 := may_any none 0 [] w10 (RowsAt.nil _ _ _ _ _ (by decide))
  rw [HO.out.2.2.2.2.2.2.2] at hc11
  have HC11 := Lib.hid hc11
  clear hc11
  go_wp2_with fail
  refine HC11.out.mono ?_
  rintro e w11 ⟨rfl, hd⟩
  have HL11 := Lib.hid (HL10.out.trans (hd.below.mono HL10.out.size))
  have HT11 := Lib.hid (HT10.out.below hd.below)
  clear hd HC11
  have hc12 := owner_any none 0 [] 0 w11 (RowsAt.nil _ _ _ _ _ (by decide))
  rw [HO.out.2.2.2.2.2.1] at hc12
  have HC12 := Lib.hid hc12
  clear hc12
  go_wp2_with fail
  refine HC12.out.mono ?_
  rintro e w12 ⟨rfl, hd⟩
  have HL12 := Lib.hid (HL11.out.trans (hd.below.mono HL11.out.size))
  have HT12 := Lib.hid (HT11.out.below hd.below)
  clear hd HC12
  go_wp2_with fail
  go_ret
  exact ⟨rfl, HWB.out.trans (HL12.out.mono HWB.out.size)⟩

end Go.Proofs.YtphamgnafhmelaaDoor.Rg
