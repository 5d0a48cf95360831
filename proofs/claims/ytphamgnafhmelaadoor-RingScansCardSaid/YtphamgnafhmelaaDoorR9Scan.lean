/-
  RingScans, walked.
-/
import Derived.Test.YtphamgnafhmelaaDoorR9Few
import Derived.Deep.RegionHeld3
namespace Go.Proofs.YtphamgnafhmelaaDoor.Rg
open Go.RowKit
set_option linter.unusedVariables false

theorem wrap_way (x : Int) : IntKind.u64.wrap (IntKind.u32.wrap x) = x % 4294967296 := by
  have h : IntKind.u32.wrap x = x % 4294967296 := by simp [IntKind.wrap, IntKind.bits, IntKind.signed]
  rw [h]
  simp [IntKind.wrap, IntKind.bits, IntKind.signed]
  omega
/-- the nearest of the first i. -/
def scanRel (w : World) (l : List Ar) (p : Int) (m : Nat) (u v : Value) (wr : World) : Prop :=
  ∃ (i k : Nat), i ≤ l.length ∧ (k < l.length ∧ ∀ j (g : j < l.length) (g2 : k < l.length), j < i → ds l[k].f p ≤ ds l[j].f p) ∧ u = .int .i64 k ∧ v = .int .i64 i ∧ m = l.length - i ∧ Below w.heap.size w wr

set_option maxRecDepth 100000 in
set_option maxHeartbeats 2000000 in
theorem scans_any (a : Option Addr) (cap : Nat) (l : List Ar) (p : Int) (w : World) (h0 : AArg w a cap l) (h1 : (Lit.int .u32 p).wf = true) :
    Calls Tryd.prog 8 #[.slice a l.length cap, .int .u32 p] w fun e w' => e = .returned (.bool true) ∧ Below w.heap.size w w' := by
  have hp := in_u32 h1
  have hf := h0.at'
  have hw := h0.wf
  have hcap := hf.max
  have hlen := hf.len
  unfold maxLen at hcap
  have HT := Lib.hid told_any
  have hfe := fun wx => few_any a cap l.length wx
  clear h0 h1
  by_cases h60 : l.length ≤ 60
  case neg =>
    rw [decide_eq_false h60] at hfe
    clear hf hw
    go_enter Tryd.func8, Tryd.ntmps8
    go_wp2_with (first | (go_at_call 10; refine (hfe _).mono ?_; rintro e w1 ⟨rfl, rfl⟩) | (go_at_call 11; refine (HT.out _).mono ?_; rintro e w2 ⟨rfl, hb2⟩; have HB2 := Lib.hid hb2; clear hb2))
    go_ret
    exact ⟨rfl, HB2.out⟩
  rw [decide_eq_true h60] at hfe
  have hma := may_any a cap l w hf
  by_cases hm : May l
  case neg =>
    rw [decide_eq_false hm] at hma
    clear hf hw hm
    go_enter Tryd.func8, Tryd.ntmps8
    go_wp2_with (first | (go_at_call 10; refine (hfe _).mono ?_; rintro e w1 ⟨rfl, rfl⟩) | (go_at_call 12; refine hma.mono ?_; rintro e w1 ⟨rfl, hd⟩; have HD1 := Lib.hid hd; clear hd) | (go_at_call 11; refine (HT.out _).mono ?_; rintro e w2 ⟨rfl, hb2⟩; have HB2 := Lib.hid (HD1.out.below.trans (hb2.mono HD1.out.below.size)); clear hb2))
    go_ret
    exact ⟨rfl, HB2.out⟩
  rw [decide_eq_true hm] at hma
  have HF := Lib.hid hf
  have HM := Lib.hid hm
  have HWF := Lib.hid hw
  have hl1 := hm.1
  clear hf hm hw
  go_enter Tryd.func8, Tryd.ntmps8
  go_wp2_with (first | (go_at_call 10; refine (hfe _).mono ?_; rintro e w1 ⟨rfl, rfl⟩) | (go_at_call 12; refine hma.mono ?_; rintro e w1 ⟨rfl, hd⟩; have HD1 := Lib.hid hd; clear hd))
  go_loopg [5, 6] l.length (scanRel w l p)
  case atStart => exact ⟨0, 0, Nat.zero_le _, ⟨by omega, fun j g g2 hj => by omega⟩, rfl, rfl, rfl, HD1.out.below⟩
  case round =>
    obtain ⟨i, k, hi, ⟨hk, hnear⟩, rfl, rfl, rfl, hb⟩ := hrel
    have HNEAR := Lib.hid hnear
    have HB := Lib.hid hb
    have HF1 := Lib.hid (HF.out.below hb)
    have hki : (k : Int) < (l.length : Int) := by omega
    have h0k : (0 : Int) ≤ (k : Int) := by omega
    clear hnear hb
    by_cases hlt : i < l.length
    · have hlti : (i : Int) < (l.length : Int) := by omega
      have h0i : (0 : Int) ≤ (i : Int) := by omega
      obtain ⟨b, o, rfl, c0, c1⟩ := AsAt.get HF1.out i hlt
      obtain ⟨b', o', he, d0, d1⟩ := AsAt.get HF1.out k hk
      injection he with he
      injection he with e2 e3
      subst e2 e3
      by_cases hq : (p - l[i].f) % 4294967296 < (p - l[k].f) % 4294967296
      · have HQ := Lib.hid hq
        go_wp2_with fail
        go_quiet (fail)
        go_wp2_with fail
        go_roundg (l.length - (i + 1))
        case measure => omega
        case rel =>
          refine ⟨i + 1, i, by omega, ⟨hlt, fun j g g2 hj => ?_⟩, rfl, by go_num, by simp, Below.drewN HB.out _⟩
          by_cases hji : j = i
          · subst hji; exact Int.le_refl _
          · have := HNEAR.out j g hk (by omega)
            have h2 := HQ.out
            unfold ds at *
            omega
      · have HQ := Lib.hid hq
        go_wp2_with fail
        go_quiet (fail)
        go_wp2_with fail
        go_roundg (l.length - (i + 1))
        case measure => omega
        case rel =>
          refine ⟨i + 1, k, by omega, ⟨hk, fun j g g2 hj => ?_⟩, rfl, by go_num, by simp, Below.drewN HB.out _⟩
          by_cases hji : j = i
          · subst hji
            have h2 := HQ.out
            unfold ds
            omega
          · exact HNEAR.out j g hk (by omega)
    · obtain rfl : i = l.length := by omega
      obtain ⟨b, o, rfl, d0, d1⟩ := AsAt.get HF1.out k hk
      have hown : ownerA l p = l[k].s := by
        unfold ownerA
        rw [if_pos HM.out]
        refine owner_near HWF.out HM.out.up hp (List.getElem_mem hk) fun x hx => ?_
        obtain ⟨j, hj, rfl⟩ := List.getElem_of_mem hx
        exact HNEAR.out j hj hk hj
      have hwi : widthA l (k : Int) = widthF l k := by unfold widthA; rw [if_pos ⟨HM.out, by omega, by omega⟩, Int.toNat_natCast]
      have hin : (p - l[k].f) % 4294967296 < widthF l k := by
        have h3 := place_in HWF.out HM.out.up hl1 hp
        have hkp : placeF l p = k := by
          have e1 := place_near HWF.out HM.out.up hl1 hp k hk
          have e2 := HNEAR.out (placeF l p) (place_lt hl1 p) hk (place_lt hl1 p)
          have e3 := ds_inj (HWF.out _ (List.getElem_mem (place_lt hl1 p))) (HWF.out _ (List.getElem_mem hk)) (Int.le_antisymm e1 e2)
          rcases Nat.lt_trichotomy (placeF l p) k with g | g | g
          · have := HM.out.up.lt hk g; omega
          · exact g
          · have := HM.out.up.lt (place_lt hl1 p) g; omega
        unfold widthF
        rw [dif_pos hk]
        simp only [hkp] at h3
        unfold ds at h3
        exact h3
      have HOW := Lib.hid fun (wx : World) hx => owner_any (some ⟨b, o, none⟩) cap l p wx hx
      have HWI := Lib.hid fun (wx : World) hx => widthA_any (some ⟨b, o, none⟩) cap l k wx hx HWF.out
      rw [hown] at HOW
      rw [hwi] at HWI
      have HKEEP := Lib.hid (show ∀ wx, Below wr.heap.size wr wx → (wx.cell? ⟨b, o + k * 2, none⟩ = some (.int .u32 l[k].f) ∧ wx.cell? ⟨b, o + k * 2 + 1, none⟩ = some (.int .i64 l[k].s)) ∧ Below wr.heap.size wr wx from fun wx h => ⟨⟨(cell_of_below h (lt_of_cell d0)).trans d0, (cell_of_below h (lt_of_cell d1)).trans d1⟩, h⟩)
      clear hown hwi d0 d1
      generalize widthF l k = W at *
      generalize l[k].s = S at *
      generalize l[k].f = F at *
      go_wp2_with fail
      go_region_held3 (fun wx => (wx.cell? ⟨b, o + k * 2, none⟩ = some (.int .u32 F) ∧ wx.cell? ⟨b, o + k * 2 + 1, none⟩ = some (.int .i64 S)) ∧ Below wr.heap.size wr wx)
        (first | exact HKEEP.out _ (Below.refl _ _).drew | exact HKEEP.out _ HB5.out | exact HKEEP.out _ HB4.out | exact HKEEP.out _ HB3.out | assumption)
        (first
          | (go_at_call 11; have hbx := (by assumption : _ ∧ Below _ _ _).2; refine (HT.out _).mono ?_; rintro e w3 ⟨rfl, hb3⟩; have HB3 := Lib.hid (hbx.trans (hb3.mono hbx.size)); clear hb3 hbx)
          | (go_at_call 14; have hbx := (by assumption : _ ∧ Below _ _ _).2; refine (HOW.out _ (HF1.out.below hbx)).mono ?_; rintro e w4 ⟨rfl, hd⟩; have HB4 := Lib.hid (hbx.trans (hd.below.mono hbx.size)); clear hd hbx)
          | (go_at_call 16; have hbx := (by assumption : _ ∧ Below _ _ _).2; refine (HWI.out _ (HF1.out.below hbx)).mono ?_; rintro e w5 ⟨rfl, hd⟩; have HB5 := Lib.hid (hbx.trans (hd.below.mono hbx.size)); clear hd hbx))
      rename_i hHeld
      clear hHeld
      have HIN := Lib.hid hin
      clear hin
      go_wp2_with fail
      go_ret
      refine ⟨ret_bool ?_, HB.out.trans (HB5.out.mono HB.out.size)⟩
      have h5 := HIN.out
      rw [wrap_way, decide_eq_true_eq]
      exact h5

end Go.Proofs.YtphamgnafhmelaaDoor.Rg
