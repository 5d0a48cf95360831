/-
  TableNews, walked.
-/
import Derived.Test.YtkcccfllkgjdiaaDoorTlToldW
import Derived.Test.YtkcccfllkgjdiaaDoorTlRNew
import Derived.Test.YtkcccfllkgjdiaaDoorTlRSame
namespace Go.Proofs.YtkcccfllkgjdiaaDoor.Tl
open Go.RowKit Rg
set_option linter.unusedVariables false

set_option maxRecDepth 100000 in
set_option maxHeartbeats 4000000 in
theorem news_any (a : Option Addr) (len cap : Nat) (z : List Int) (k : Int) (w : World) (h0 : IsRow .i64 w a len cap z) :
    Calls Tryd.prog 3 #[.slice a len cap, .int .i64 k] w fun e w' => e = .returned (.bool true) ∧ Below w.heap.size w w' := by
  obtain ⟨hl, hws⟩ := ws_of_row h0
  have HTL := Lib.hid told_any
  clear h0
  generalize z.take len = ws at hl hws
  subst hl
  by_cases h20 : 20 < ws.length
  · have h20i : (20 : Int) < (ws.length : Int) := by omega
    clear hws
    go_enter Tryd.func3, Tryd.ntmps3
    go_wp2_with (go_at_call 5; refine (HTL.out _).mono ?_; rintro e w2 ⟨rfl, hb2⟩; have HB2 := Lib.hid hb2; clear hb2)
    go_ret
    exact ⟨rfl, HB2.out⟩
  have h20i : ¬ (20 : Int) < (ws.length : Int) := by omega
  have HWS := Lib.hid hws
  have HN1 := Lib.hid fun (wx : World) (hx : WsAt wx a cap ws) => new_any a cap ws k wx hx
  have HN2 := Lib.hid fun (wx : World) (hx : WsAt wx a cap ws) => rnew_any a cap ws k wx hx
  unfold TaR at HN1 HN2
  clear hws
  generalize newC ws k = c at *
  generalize newT ws k = t at *
  have hcc : (c == c) = true := by simp
  go_enter Tryd.func3, Tryd.ntmps3
  go_wp2_with fail
  refine (HN1.out _ HWS.out).mono ?_
  rintro e w1 ⟨aa, ac, na, nc, rfl, hA1, hN1, -, -, hb1⟩
  obtain ⟨V1, hV1⟩ : ∃ V, V = w1.alloc (.cells #[.int .i64 t.ep, .slice aa t.arcs.length ac, .slice na t.nodes.length nc] 26) := ⟨_, rfl⟩
  have hbx := ta_box (TaAt.mk hA1 hN1 : TaAt w1 aa ac na nc t) (.cells #[.int .i64 t.ep, .slice aa t.arcs.length ac, .slice na t.nodes.length nc] 26)
  rw [← hV1] at hbx
  have HV1 := Lib.hid hV1
  have HT1 := Lib.hid hbx.1
  have HX1 := Lib.hid hbx.2.2.1
  have HBL1 := Lib.hid (hb1.trans (hbx.2.1.mono hb1.size))
  clear hbx hV1 hA1 hN1 hb1
  go_wp2_with fail
  rw [← HV1.out]
  refine (HN2.out V1 (HWS.out.below HBL1.out)).mono ?_
  rintro e w2 ⟨ba, bc, ma, mc, rfl, hA2, hN2, -, -, hb2⟩
  obtain ⟨V2, hV2⟩ : ∃ V, V = w2.alloc (.cells #[.int .i64 t.ep, .slice ba t.arcs.length bc, .slice ma t.nodes.length mc] 26) := ⟨_, rfl⟩
  have hbx := ta_box (TaAt.mk hA2 hN2 : TaAt w2 ba bc ma mc t) (.cells #[.int .i64 t.ep, .slice ba t.arcs.length bc, .slice ma t.nodes.length mc] 26)
  rw [← hV2] at hbx
  have HV2 := Lib.hid hV2
  have HT2 := Lib.hid hbx.1
  have HX2 := Lib.hid hbx.2.2.1
  have HST := Lib.hid (hb2.trans (hbx.2.1.mono hb2.size))
  have HBL2 := Lib.hid (HBL1.out.trans (HST.out.mono HBL1.out.size))
  have HT1b := Lib.hid (HT1.out.below HST.out)
  have HX1b := Lib.hid ((HST.out.block _ (Array.getElem?_eq_some_iff.1 HX1.out).1).trans HX1.out)
  clear hbx hV2 hA2 hN2 hb2
  go_wp2_with fail
  rw [← HV2.out]
  refine (HTL.out _).mono ?_
  rintro e w3 ⟨rfl, hb3⟩
  have HB3 := Lib.hid (HBL2.out.trans (hb3.mono HBL2.out.size))
  have x1 := (hb3.block _ (Array.getElem?_eq_some_iff.1 HX1b.out).1).trans HX1b.out
  have x2 := (hb3.block _ (Array.getElem?_eq_some_iff.1 HX2.out).1).trans HX2.out
  obtain ⟨⟨c0, c1, c2⟩, -⟩ := box3 x1
  obtain ⟨⟨d0, d1, d2⟩, -⟩ := box3 x2
  have HSM := Lib.hid (rsame_any t t aa ba ac bc na ma nc mc w3 (HT1b.out.below hb3) (HT2.out.below hb3))
  rw [decide_eq_true rfl] at HSM
  clear hb3 x1 x2
  go_wp2_with fail
  refine HSM.out.mono ?_
  rintro e w4 ⟨rfl, hb4⟩
  have HB4 := Lib.hid (HB3.out.trans (hb4.mono HB3.out.size))
  clear hb4
  go_wp2_with fail
  go_ret
  exact ⟨rfl, HB4.out⟩

end Go.Proofs.YtkcccfllkgjdiaaDoor.Tl
