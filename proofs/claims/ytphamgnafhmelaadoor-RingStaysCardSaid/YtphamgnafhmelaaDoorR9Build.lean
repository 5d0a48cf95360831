/-
  RingBuilds, walked.
-/
import Derived.Test.YtphamgnafhmelaaDoorRgTold
import Derived.Test.YtphamgnafhmelaaDoorRgSame
namespace Go.Proofs.YtphamgnafhmelaaDoor.Rg
open Go.RowKit
set_option linter.unusedVariables false

/-- weights that came in. -/
theorem ws_of_row {w : World} {a : Option Addr} {len cap : Nat} {z : List Int} (h : IsRow .i64 w a len cap z) : (z.take len).length = len ∧ WsAt w a cap (z.take len) := by
  rcases h with ⟨rfl, rfl, rfl, rfl⟩ | ⟨x, rfl, hlc, hcm, hz, hc, _⟩
  · exact ⟨rfl, RowsAt.nil _ _ _ _ _ (by simp [maxLen])⟩
  · have hl : (z.take len).length = len := by rw [List.length_take]; omega
    refine ⟨hl, ⟨by omega, hcm, fun h0 => ?_⟩⟩
    obtain ⟨b, off, rfl⟩ := addr_of (hc 0 (by omega))
    refine ⟨b, off, rfl, fun i hi r v hv => ?_⟩
    have hr : r = 0 := by
      have := (List.getElem?_eq_some_iff.1 hv).1
      rw [wC_len] at this
      omega
    subst hr
    have := hc i (by omega)
    rw [add_at] at this
    rw [Nat.mul_one, Nat.add_zero, this]
    have e : (z.take len)[i] = z.getD i 0 := by
      rw [List.getElem_take, List.getD_eq_getElem?_getD, List.getElem?_eq_getElem (by omega)]
      rfl
    rw [← e]
    exact hv

set_option maxRecDepth 100000 in
set_option maxHeartbeats 2000000 in
theorem builds_any (a : Option Addr) (len cap : Nat) (z : List Int) (w : World) (h0 : IsRow .i64 w a len cap z) :
    Calls Tryd.prog 4 #[.slice a len cap] w fun e w' => e = .returned (.bool true) ∧ Below w.heap.size w w' := by
  obtain ⟨hl, hws⟩ := ws_of_row h0
  have HT := Lib.hid told_any
  clear h0
  generalize z.take len = ws at hl hws
  subst hl
  by_cases h20 : 20 < ws.length
  · have h20i : (20 : Int) < (ws.length : Int) := by omega
    clear hws
    go_enter Tryd.func4, Tryd.ntmps4
    go_wp2_with (go_at_call 11; refine (HT.out _).mono ?_; rintro e w2 ⟨rfl, hb2⟩; have HB2 := Lib.hid hb2; clear hb2)
    go_ret
    exact ⟨rfl, HB2.out⟩
  have h20i : ¬ (20 : Int) < (ws.length : Int) := by omega
  have HWS := Lib.hid hws
  have HB1 := Lib.hid fun (wx : World) (hx : WsAt wx a cap ws) => build_any a cap ws wx hx
  have HB2 := Lib.hid fun (wx : World) (hx : WsAt wx a cap ws) => rbuild_any a cap ws wx hx
  unfold BuildR at HB1 HB2
  clear hws
  generalize buildC ws = c at *
  generalize buildL ws = L at *
  go_enter Tryd.func4, Tryd.ntmps4
  go_wp2_with fail
  refine (HB1.out _ HWS.out).mono ?_
  rintro e w1 ⟨ba, bc, rfl, hat1, hn1, hb1⟩
  have HAT1 := Lib.hid hat1
  have HL1 := Lib.hid hb1
  clear hat1 hn1 hb1
  go_wp2_with fail
  refine (HB2.out _ (HWS.out.below HL1.out)).mono ?_
  rintro e w2 ⟨da, dc, rfl, hat2, hn2, hb2⟩
  have HAT2 := Lib.hid hat2
  have HL2 := Lib.hid (HL1.out.trans (hb2.mono HL1.out.size))
  have HAT1b := Lib.hid (HAT1.out.below hb2)
  clear hat2 hn2 hb2
  have hcc : (c == c) = true := by simp
  go_wp2_with fail
  refine (HT.out _).mono ?_
  rintro e w3 ⟨rfl, hb3⟩
  have HL3 := Lib.hid (HL2.out.trans (hb3.mono HL2.out.size))
  have HSM := Lib.hid (same_any ba da bc dc L L w3 (HAT1b.out.below hb3) (HAT2.out.below hb3))
  rw [decide_eq_true rfl] at HSM
  clear hb3
  go_wp2_with fail
  refine HSM.out.mono ?_
  rintro e w4 ⟨rfl, hd⟩
  have HL4 := Lib.hid (HL3.out.trans (hd.below.mono HL3.out.size))
  clear hd
  go_wp2_with fail
  go_ret
  exact ⟨rfl, HL4.out⟩

end Go.Proofs.YtphamgnafhmelaaDoor.Rg
