/-
  RingAsks, walked.
-/
import Derived.Test.YtphamgnafhmelaaDoorR9Few
import Derived.Test.YtphamgnafhmelaaDoorRgRHalve
import Derived.Test.YtphamgnafhmelaaDoorRgSame
namespace Go.Proofs.YtphamgnafhmelaaDoor.Rg
open Go.RowKit
set_option linter.unusedVariables false

set_option maxRecDepth 100000 in
set_option maxHeartbeats 4000000 in
theorem asks_any (a : Option Addr) (cap : Nat) (l : List Ar) (b : Option Addr) (cap2 : Nat) (m : List Ar) (p k s o : Int) (w : World) (h0 : AArg w a cap l) (h1 : AArg w b cap2 m) :
    Calls Tryd.prog 3 #[.slice a l.length cap, .slice b m.length cap2, .int .u32 p, .int .i64 k, .int .i64 s, .int .i64 o] w fun e w' => e = .returned (.bool true) ∧ Below w.heap.size w w' := by
  have hf := h0.at'
  have hw := h0.wf
  have hn := h0.none
  have hg := h1.at'
  have HT := Lib.hid told_any
  have hfe := fun wx => few_any a cap l.length wx
  have hfe2 := fun wx => few_any b cap2 m.length wx
  clear h0 h1
  by_cases h60 : l.length ≤ 60
  case neg =>
    rw [decide_eq_false h60] at hfe
    clear hf hw hg hn hfe2
    go_enter Tryd.func3, Tryd.ntmps3
    go_wp2_with fail
    refine (hfe _).mono ?_
    rintro e w1 ⟨rfl, rfl⟩
    clear hfe
    go_wp2_with fail
    refine (HT.out _).mono ?_
    rintro e w2 ⟨rfl, hb2⟩
    have HB2 := Lib.hid hb2
    clear hb2
    go_wp2_with fail
    go_ret
    exact ⟨rfl, HB2.out⟩
  rw [decide_eq_true h60] at hfe
  by_cases h61 : m.length ≤ 60
  case neg =>
    rw [decide_eq_false h61] at hfe2
    clear hf hw hg hn
    go_enter Tryd.func3, Tryd.ntmps3
    go_wp2_with fail
    refine (hfe _).mono ?_
    rintro e w1 ⟨rfl, rfl⟩
    clear hfe
    go_wp2_with fail
    refine (hfe2 _).mono ?_
    rintro e w1 ⟨rfl, rfl⟩
    clear hfe2
    go_wp2_with fail
    refine (HT.out _).mono ?_
    rintro e w2 ⟨rfl, hb2⟩
    have HB2 := Lib.hid hb2
    clear hb2
    go_wp2_with fail
    go_ret
    exact ⟨rfl, HB2.out⟩
  rw [decide_eq_true h61] at hfe2
  have HF := Lib.hid hf
  have HG := Lib.hid hg
  have H1 := Lib.hid fun (wx : World) (hx : AsAt wx a cap l) => may_any a cap l wx hx
  have H2 := Lib.hid fun (wx : World) (hx : AsAt wx a cap l) => rmay_any a cap l wx hx
  have H3 := Lib.hid fun (wx : World) (hx : AsAt wx a cap l) => owner_any a cap l p wx hx
  have H4 := Lib.hid fun (wx : World) (hx : AsAt wx a cap l) => rowner_any a cap l p wx hx
  have H5 := Lib.hid fun (wx : World) (hx : AsAt wx a cap l) => widthA_any a cap l k wx hx hw
  have H6 := Lib.hid fun (wx : World) (hx : AsAt wx a cap l) => rwidth_any a cap l k wx hx hw
  have H7 := Lib.hid fun (wx : World) (hx : AsAt wx a cap l) => share_any a cap l s wx hx hw
  have H8 := Lib.hid fun (wx : World) (hx : AsAt wx a cap l) => rshare_any a cap l s wx hx hw
  have H9 := Lib.hid fun (wx : World) (hx : AsAt wx a cap l) => halve_any a cap l s o wx hx hw
  have HA := Lib.hid fun (wx : World) (hx : AsAt wx a cap l) => rhalve_any a cap l s o wx hx hn hw
  have HC := Lib.hid fun (wx : World) (hx : AsAt wx a cap l) (hy : AsAt wx b cap2 m) => psame_any a b cap cap2 l m wx hx hy
  have HD := Lib.hid fun (wx : World) (hx : AsAt wx a cap l) (hy : AsAt wx b cap2 m) => same_any a b cap cap2 l m wx hx hy
  unfold ArsR at H9 HA
  have HE := Lib.hid fun (H : List Ar) (wx : World) (x y : Option Addr) (c d : Nat) (hx : AsAt wx x c H) (hy : AsAt wx y d H) => same_any x y c d H H wx hx hy
  have HE2 := Lib.hid (HE.out (halveA l s o))
  rw [decide_eq_true rfl] at HE2
  clear hf hw hg hn HE
  generalize decide (May l) = q1 at *
  generalize ownerA l p = q2 at *
  generalize widthA l k = q3 at *
  generalize shareA l s = q4 at *
  generalize decide (l = m) = q5 at *
  generalize halveA l s o = H at *
  have e1 : (q1 == q1) = true := by simp
  have e2 : (q2 == q2) = true := by simp
  have e3 : (q3 == q3) = true := by simp
  have e4 : (q4 == q4) = true := by simp
  have e5 : (q5 == q5) = true := by simp
  go_enter Tryd.func3, Tryd.ntmps3
  go_wp2_with fail
  refine (hfe _).mono ?_
  rintro e w1 ⟨rfl, rfl⟩
  clear hfe
  go_wp2_with fail
  refine (hfe2 _).mono ?_
  rintro e w1 ⟨rfl, rfl⟩
  clear hfe2
  go_wp2_with fail
  refine (HT.out _).mono ?_
  rintro e w1 ⟨rfl, hb1⟩
  have HB1 := Lib.hid hb1
  clear hb1
  go_wp2_with fail
  refine (H1.out _ (HF.out.below HB1.out)).mono ?_
  rintro e w2 ⟨rfl, hd⟩
  have HB2 := Lib.hid (HB1.out.trans (hd.below.mono HB1.out.size))
  clear hd
  go_wp2_with fail
  refine (H2.out _ (HF.out.below HB2.out)).mono ?_
  rintro e w3 ⟨rfl, hd⟩
  have HB3 := Lib.hid (HB2.out.trans (hd.below.mono HB2.out.size))
  clear hd
  go_wp2_with fail
  refine (H3.out _ (HF.out.below HB3.out)).mono ?_
  rintro e w4 ⟨rfl, hd⟩
  have HB4 := Lib.hid (HB3.out.trans (hd.below.mono HB3.out.size))
  clear hd
  go_wp2_with fail
  refine (H4.out _ (HF.out.below HB4.out)).mono ?_
  rintro e w5 ⟨rfl, hd⟩
  have HB5 := Lib.hid (HB4.out.trans (hd.below.mono HB4.out.size))
  clear hd
  go_wp2_with fail
  refine (H5.out _ (HF.out.below HB5.out)).mono ?_
  rintro e w6 ⟨rfl, hd⟩
  have HB6 := Lib.hid (HB5.out.trans (hd.below.mono HB5.out.size))
  clear hd
  go_wp2_with fail
  refine (H6.out _ (HF.out.below HB6.out)).mono ?_
  rintro e w7 ⟨rfl, hd⟩
  have HB7 := Lib.hid (HB6.out.trans (hd.below.mono HB6.out.size))
  clear hd
  go_wp2_with fail
  refine (H7.out _ (HF.out.below HB7.out)).mono ?_
  rintro e w8 ⟨rfl, hd⟩
  have HB8 := Lib.hid (HB7.out.trans (hd.below.mono HB7.out.size))
  clear hd
  go_wp2_with fail
  refine (H8.out _ (HF.out.below HB8.out)).mono ?_
  rintro e w9 ⟨rfl, hd⟩
  have HB9 := Lib.hid (HB8.out.trans (hd.below.mono HB8.out.size))
  clear hd
  go_wp2_with fail
  refine (H9.out _ (HF.out.below HB9.out)).mono ?_
  rintro e w10 ⟨ha, hc, rfl, hat, _, hb⟩
  have HB10 := Lib.hid (HB9.out.trans (hb.mono HB9.out.size))
  have HAT := Lib.hid hat
  clear hat hb
  go_wp2_with fail
  refine (HA.out _ (HF.out.below HB10.out)).mono ?_
  rintro e w11 ⟨ra, rc, rfl, rat, _, hb⟩
  have HB11 := Lib.hid (HB10.out.trans (hb.mono HB10.out.size))
  have RAT := Lib.hid rat
  have HAT2 := Lib.hid (HAT.out.below hb)
  clear rat hb
  go_wp2_with fail
  refine (HE2.out _ ha ra hc rc HAT2.out RAT.out).mono ?_
  rintro e w12 ⟨rfl, hd⟩
  have HB12 := Lib.hid (HB11.out.trans (hd.below.mono HB11.out.size))
  clear hd
  go_wp2_with fail
  refine (HC.out _ (HF.out.below HB12.out) (HG.out.below HB12.out)).mono ?_
  rintro e w13 ⟨rfl, hd⟩
  have HB13 := Lib.hid (HB12.out.trans (hd.below.mono HB12.out.size))
  clear hd
  go_wp2_with fail
  refine (HD.out _ (HF.out.below HB13.out) (HG.out.below HB13.out)).mono ?_
  rintro e w14 ⟨rfl, hd⟩
  have HB14 := Lib.hid (HB13.out.trans (hd.below.mono HB13.out.size))
  clear hd
  go_wp2_with fail
  go_ret
  exact ⟨rfl, HB14.out⟩

end Go.Proofs.YtphamgnafhmelaaDoor.Rg
