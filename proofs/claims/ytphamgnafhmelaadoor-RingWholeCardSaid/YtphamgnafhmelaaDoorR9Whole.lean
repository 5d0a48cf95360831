/-
  RingWhole, walked.
-/
import Derived.Test.YtphamgnafhmelaaDoorR9Few
namespace Go.Proofs.YtphamgnafhmelaaDoor.Rg
open Go.RowKit
set_option linter.unusedVariables false

def totK (l : List Ar) (i : Nat) : Int := tot ((ringT l).take i)
theorem totK_succ (l : List Ar) (i : Nat) (h : i < l.length) : totK l (i + 1) = totK l i + widthF l i := by
  unfold totK widthF
  rw [List.take_succ_eq_append_getElem (by rw [ring_length]; exact h), tot_app, ring_get l i h, dif_pos h]
  simp [tot]
theorem totK_in {l : List Ar} (hw : Wf l) (hm : May l) (i : Nat) : 0 ≤ totK l i ∧ totK l i ≤ 4294967296 := by
  have h1 := tot_nonneg ((ringT l).take i)
  have h2 := take_tot (ringT l) i
  rw [tot_ring hw hm.up hm.1] at h2
  exact ⟨h1, h2⟩
theorem totK_all {l : List Ar} (hw : Wf l) (hm : May l) : totK l l.length = 4294967296 := by
  unfold totK
  rw [List.take_of_length_le (by rw [ring_length]; omega)]
  exact tot_ring hw hm.up hm.1
def whole1Rel (w : World) (l : List Ar) (m : Nat) (u v : Value) (wr : World) : Prop :=
  ∃ i : Nat, i ≤ l.length ∧ u = .int .u64 (totK l i) ∧ v = .int .i64 i ∧ m = l.length - i ∧ Below w.heap.size w wr
def whole2Rel (w : World) (l : List Ar) (m : Nat) (u v : Value) (wr : World) : Prop :=
  ∃ i : Nat, i ≤ 16 ∧ u = .int .u64 (smAll (ringT l) i) ∧ v = .int .i64 i ∧ m = 16 - i ∧ Below w.heap.size w wr

set_option maxRecDepth 100000 in
set_option maxHeartbeats 2000000 in
theorem whole_any (a : Option Addr) (cap : Nat) (l : List Ar) (p : Int) (w : World) (h0 : AArg w a cap l) (h1 : (Lit.int .u32 p).wf = true) :
    Calls Tryd.prog 5 #[.slice a l.length cap, .int .u32 p] w fun e w' => e = .returned (.bool true) ∧ Below w.heap.size w w' := by
  have hp := in_u32 h1
  have hf := h0.at'
  have hw := h0.wf
  have hcap := hf.max
  have hlen := hf.len
  unfold maxLen at hcap
  have HT := Lib.hid told_any
  have hfe := fun wx => few_any a cap l.length wx
  clear h0 h1
  by_cases h60 : l.length ≤ 60
  case neg =>
    rw [decide_eq_false h60] at hfe
    clear hf hw
    go_enter Tryd.func5, Tryd.ntmps5
    go_wp2_with (first | (go_at_call 10; refine (hfe _).mono ?_; rintro e w1 ⟨rfl, rfl⟩) | (go_at_call 11; refine (HT.out _).mono ?_; rintro e w2 ⟨rfl, hb2⟩; have HB2 := Lib.hid hb2; clear hb2))
    go_ret
    exact ⟨rfl, HB2.out⟩
  rw [decide_eq_true h60] at hfe
  have hma := may_any a cap l w hf
  by_cases hm : May l
  case neg =>
    rw [decide_eq_false hm] at hma
    clear hf hw hm
    go_enter Tryd.func5, Tryd.ntmps5
    go_wp2_with (first | (go_at_call 10; refine (hfe _).mono ?_; rintro e w1 ⟨rfl, rfl⟩) | (go_at_call 12; refine hma.mono ?_; rintro e w1 ⟨rfl, hd⟩; have HD1 := Lib.hid hd; clear hd) | (go_at_call 11; refine (HT.out _).mono ?_; rintro e w2 ⟨rfl, hb2⟩; have HB2 := Lib.hid (HD1.out.below.trans (hb2.mono HD1.out.below.size)); clear hb2))
    go_ret
    exact ⟨rfl, HB2.out⟩
  rw [decide_eq_true hm] at hma
  have HF := Lib.hid hf
  have HM := Lib.hid hm
  have HWF := Lib.hid hw
  have HWI := Lib.hid fun (i : Nat) (hi : i < l.length) (wx : World) (hx : AsAt wx a cap l) => (show Calls Tryd.prog 16 #[.slice a l.length cap, .int .i64 i] wx fun e w' => e = .returned (.int .u64 (widthF l i)) ∧ Drew wx w' by
    have := widthA_any a cap l i wx hx hw
    rwa [show widthA l (i : Int) = widthF l i by unfold widthA; rw [if_pos ⟨hm, by omega, by omega⟩, Int.toNat_natCast]] at this)
  have HSH := Lib.hid fun (x : Int) (wx : World) (hx : AsAt wx a cap l) => (show Calls Tryd.prog 18 #[.slice a l.length cap, .int .i64 x] wx fun e w' => e = .returned (.int .u64 (sm (ringT l) x)) ∧ Drew wx w' by
    have := share_any a cap l x wx hx hw
    rwa [show shareA l x = sm (ringT l) x by unfold shareA; rw [if_pos hm]; rfl] at this)
  have HOW := Lib.hid fun (wx : World) (hx : AsAt wx a cap l) => (show Calls Tryd.prog 14 #[.slice a l.length cap, .int .u32 p] wx fun e w' => e = .returned (.int .i64 (ownerF l p)) ∧ Drew wx w' by
    have := owner_any a cap l p wx hx
    rwa [show ownerA l p = ownerF l p by unfold ownerA; rw [if_pos hm]] at this)
  clear hf hm hw
  go_enter Tryd.func5, Tryd.ntmps5
  go_wp2_with (first | (go_at_call 10; refine (hfe _).mono ?_; rintro e w1 ⟨rfl, rfl⟩) | (go_at_call 12; refine hma.mono ?_; rintro e w1 ⟨rfl, hd⟩; have HD1 := Lib.hid hd; clear hd))
  go_loopg [5, 7] l.length (whole1Rel w l)
  case atStart => exact ⟨0, Nat.zero_le _, rfl, rfl, rfl, HD1.out.below⟩
  case round =>
    obtain ⟨i, hi, rfl, rfl, rfl, hb⟩ := hrel
    have HB := Lib.hid hb
    have HF1 := Lib.hid (HF.out.below hb)
    clear hb
    have hin := totK_in HWF.out HM.out i
    by_cases hlt : i < l.length
    · have hlti : (i : Int) < (l.length : Int) := by omega
      have h0i : (0 : Int) ≤ (i : Int) := by omega
      have HS := Lib.hid (totK_succ l i hlt)
      have hin2 := totK_in HWF.out HM.out (i + 1)
      rw [HS.out] at hin2
      have hwd : 0 ≤ widthF l i ∧ widthF l i ≤ 4294967296 := by
        unfold widthF
        rw [dif_pos hlt]
        have := wd_in l[i].f (nx l i)
        omega
      have HW1 := Lib.hid (HWI.out i hlt)
      generalize widthF l i = W at *
      generalize totK l i = T at *
      go_wp2_with (go_at_call 16; refine (HW1.out _ HF1.out).mono ?_; rintro e w3 ⟨rfl, hd⟩; have HB3 := Lib.hid (HB.out.trans (hd.below.mono HB.out.size)); clear hd)
      go_roundg (l.length - (i + 1))
      case measure => omega
      case rel => exact ⟨i + 1, by omega, by rw [HS.out], by go_num, by simp, HB3.out⟩
    · obtain rfl : i = l.length := by omega
      have HTA := Lib.hid (totK_all HWF.out HM.out)
      rw [HTA.out]
      clear hin
      go_wp2_with fail
      go_loopg [6, 8] 16 (whole2Rel w l)
      case atStart => exact ⟨0, Nat.zero_le _, rfl, rfl, rfl, HB.out⟩
      case round =>
        obtain ⟨i, hi, rfl, rfl, rfl, hb2⟩ := hrel
        have HB2 := Lib.hid hb2
        have HF2 := Lib.hid (HF.out.below hb2)
        clear hb2
        have hin := smAll_le (ringT l) 16 i hi
        rw [shares_all HWF.out HM.out] at hin
        by_cases hlt : i < 16
        · have hlti : (i : Int) < 16 := by omega
          have h0i : (0 : Int) ≤ (i : Int) := by omega
          have HS := Lib.hid (show smAll (ringT l) (i + 1) = smAll (ringT l) i + sm (ringT l) (i : Int) from rfl)
          have hin2 := smAll_le (ringT l) 16 (i + 1) (by omega)
          rw [shares_all HWF.out HM.out, HS.out] at hin2
          have hnn := sm_nonneg (ringT l) (i : Int)
          have HS1 := Lib.hid (HSH.out i)
          generalize sm (ringT l) (i : Int) = W at *
          generalize smAll (ringT l) i = T at *
          go_wp2_with (go_at_call 18; refine (HS1.out _ HF2.out).mono ?_; rintro e w3 ⟨rfl, hd⟩; have HB3 := Lib.hid (HB2.out.trans (hd.below.mono HB2.out.size)); clear hd)
          go_roundg (16 - (i + 1))
          case measure => omega
          case rel => exact ⟨i + 1, by omega, by rw [HS.out], by go_num, by simp, HB3.out⟩
        · obtain rfl : i = 16 := by omega
          have HSA := Lib.hid (shares_all HWF.out HM.out)
          rw [HSA.out]
          have hos := owner_share HM.out.1 p
          have hon : 0 ≤ ownerF l p := by
            obtain ⟨x, hx, e⟩ := owner_shard HM.out.1 p
            rw [e]
            exact (HM.out.shard hx).1
          have HS1 := Lib.hid (HSH.out (ownerF l p))
          have hos' : 0 < sm (ringT l) (ownerF l p) := by
            have : shareF l (ownerF l p) = sm (ringT l) (ownerF l p) := rfl
            omega
          clear hin hos
          generalize sm (ringT l) (ownerF l p) = Z at *
          generalize ownerF l p = O at *
          go_wp2_with (first | (go_at_call 14; refine (HOW.out _ HF2.out).mono ?_; rintro e w3 ⟨rfl, hd⟩; have HB3 := Lib.hid (HB2.out.trans (hd.below.mono HB2.out.size)); clear hd) | (go_at_call 11; refine (HT.out _).mono ?_; rintro e w4 ⟨rfl, hb4⟩; have HB4 := Lib.hid (HB3.out.trans (hb4.mono HB3.out.size)); clear hb4) | (go_at_call 18; refine (HS1.out _ (HF.out.below HB4.out)).mono ?_; rintro e w5 ⟨rfl, hd⟩; have HB5 := Lib.hid (HB4.out.trans (hd.below.mono HB4.out.size)); clear hd))
          go_ret
          exact ⟨rfl, HB5.out⟩

end Go.Proofs.YtphamgnafhmelaaDoor.Rg
