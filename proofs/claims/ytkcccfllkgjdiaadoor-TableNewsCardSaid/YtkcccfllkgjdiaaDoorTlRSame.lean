/-
  The document's SameTable, walked.
-/
import Derived.Test.YtkcccfllkgjdiaaDoorTlMove
namespace Go.Proofs.YtkcccfllkgjdiaaDoor.Tl
open Go.RowKit Rg
set_option linter.unusedVariables false

def rsRel (W : World) (t u : Ta) (m : Nat) (v : Value) (wr : World) : Prop :=
  ∃ i : Nat, i ≤ t.nodes.length ∧ t.nodes.take i = u.nodes.take i ∧ v = .int .i64 i ∧ m = t.nodes.length - i ∧ Drew W wr
set_option maxRecDepth 100000 in
set_option maxHeartbeats 4000000 in
theorem rsame_any (t u : Ta) (aa ba : Option Addr) (ac bc : Nat) (na ma : Option Addr) (nc mc : Nat) (w : World) (ht : TaAt w aa ac na nc t) (hu : TaAt w ba bc ma mc u) :
    Calls Tryd.prog 8 #[.agg #[.int .i64 t.ep, .slice aa t.arcs.length ac, .slice na t.nodes.length nc], .agg #[.int .i64 u.ep, .slice ba u.arcs.length bc, .slice ma u.nodes.length mc]] w fun e w' => e = .returned (.bool (decide (t = u))) ∧ Below w.heap.size w w' := by
  obtain ⟨W, hW⟩ : ∃ W, W = (w.alloc (.cells #[.int .i64 t.ep, .slice aa t.arcs.length ac, .slice na t.nodes.length nc] 26)).alloc (.cells #[.int .i64 u.ep, .slice ba u.arcs.length bc, .slice ma u.nodes.length mc] 26) := ⟨_, rfl⟩
  have hbx := tabox (w := w) (.cells #[.int .i64 t.ep, .slice aa t.arcs.length ac, .slice na t.nodes.length nc] 26) (.cells #[.int .i64 u.ep, .slice ba u.arcs.length bc, .slice ma u.nodes.length mc] 26)
  rw [← hW] at hbx
  obtain ⟨hx, hy, hb0, hWs⟩ := hbx
  have HB0 := Lib.hid hb0
  have HT := Lib.hid (ht.below hb0)
  have HU := Lib.hid (hu.below hb0)
  have HX := Lib.hid hx
  have HY := Lib.hid hy
  have HWS := Lib.hid hWs
  have HA := Lib.hid (Rg.same_any aa ba ac bc t.arcs u.arcs W (ht.arcs.below hb0) (hu.arcs.below hb0))
  have HW := Lib.hid hW
  have hcap := ht.nodes.max
  have hlen := ht.nodes.len
  unfold maxLen at hcap
  obtain ⟨⟨c0, c1, c2⟩, -⟩ := box3 hx
  obtain ⟨⟨d0, d1, d2⟩, -⟩ := box3 hy
  clear ht hu hb0 hx hy hW hWs
  by_cases e1 : t.ep = u.ep
  case neg =>
    have HR : Hid (decide (t = u) = false) := Lib.hid (decide_eq_false fun h => e1 (by rw [h]))
    have g1 : (t.ep != u.ep) = true := by rw [bne_iff_ne]; exact e1
    clear e1
    generalize t.ep = x at *
    generalize u.ep = y at *
    go_enter Tryd.func8, Tryd.ntmps8
    go_wp2_with fail
    rw [← HW.out]
    go_wp2_with fail
    go_ret
    exact ⟨by rw [HR.out]; rfl, HB0.out⟩
  have g1 : (t.ep != u.ep) = false := by rw [bne_eq_false_iff_eq]; exact e1
  by_cases e2 : t.arcs = u.arcs
  case neg =>
    have HR : Hid (decide (t = u) = false) := Lib.hid (decide_eq_false fun h => e2 (by rw [h]))
    rw [decide_eq_false e2] at HA
    clear e1 e2
    generalize t.ep = x at *
    generalize u.ep = y at *
    go_enter Tryd.func8, Tryd.ntmps8
    go_wp2_with fail
    rw [← HW.out]
    go_wp2_with (go_at_call 22; refine HA.out.mono ?_; rintro e w1 ⟨rfl, ⟨n, rfl⟩⟩)
    go_ret
    exact ⟨by rw [HR.out]; rfl, Below.drewN HB0.out _⟩
  rw [decide_eq_true e2] at HA
  by_cases e3 : t.nodes.length = u.nodes.length
  case neg =>
    have HR : Hid (decide (t = u) = false) := Lib.hid (decide_eq_false fun h => e3 (by rw [h]))
    have g3 : ((t.nodes.length : Int) != (u.nodes.length : Int)) = true := by rw [bne_iff_ne]; omega
    clear e1 e2 e3
    generalize t.ep = x at *
    generalize u.ep = y at *
    go_enter Tryd.func8, Tryd.ntmps8
    go_wp2_with fail
    rw [← HW.out]
    go_wp2_with (go_at_call 22; refine HA.out.mono ?_; rintro e w1 ⟨rfl, ⟨n, rfl⟩⟩)
    go_ret
    exact ⟨by rw [HR.out]; rfl, Below.drewN HB0.out _⟩
  have g3 : ((t.nodes.length : Int) != (u.nodes.length : Int)) = false := by rw [bne_eq_false_iff_eq]; omega
  have HR : Hid (decide (t = u) = decide (t.nodes = u.nodes)) := Lib.hid (decide_eq_decide.2 ⟨fun h => by rw [h], fun h => Ta.same e1 e2 h⟩)
  have HE3 := Lib.hid e3
  clear e1 e2 e3
  generalize t.ep = x at *
  generalize u.ep = y at *
  go_enter Tryd.func8, Tryd.ntmps8
  go_wp2_with fail
  rw [← HW.out]
  go_wp2_with (go_at_call 22; refine HA.out.mono ?_; rintro e w1 ⟨rfl, ⟨n, rfl⟩⟩)
  clear c0 c1 c2 d0 d1 d2
  go_loopg [5] t.nodes.length (rsRel W t u)
  case atStart => exact ⟨0, Nat.zero_le _, rfl, rfl, rfl, ⟨n, rfl⟩⟩
  case round =>
    obtain ⟨i, hi, htk, rfl, rfl, hd⟩ := hrel
    have HTK := Lib.hid htk
    have HD := Lib.hid hd
    have HT1 := Lib.hid (HT.out.below hd.below)
    have HU1 := Lib.hid (HU.out.below hd.below)
    obtain ⟨⟨c0, c1, c2⟩, -⟩ := box3 ((hd.below.block _ (by rw [HWS.out]; omega)).trans HX.out)
    obtain ⟨⟨d0, d1, d2⟩, -⟩ := box3 ((hd.below.block _ (by rw [HWS.out]; omega)).trans HY.out)
    clear htk hd
    by_cases hlt : i < t.nodes.length
    · have hltm : i < u.nodes.length := by have := HE3.out; omega
      have hlti : (i : Int) < (t.nodes.length : Int) := by omega
      have hltj : (i : Int) < (u.nodes.length : Int) := by omega
      have h0i : (0 : Int) ≤ (i : Int) := by omega
      obtain ⟨b1, o1, rfl, k0⟩ := WsAt.get HT1.out.nodes i hlt
      obtain ⟨b2, o2, rfl, k1⟩ := WsAt.get HU1.out.nodes i hltm
      by_cases hq : t.nodes[i] = u.nodes[i]
      · have hn : (t.nodes[i] != u.nodes[i]) = false := by rw [bne_eq_false_iff_eq]; exact hq
        have HT2 := Lib.hid (take_more HTK.out hlt hltm hq)
        clear hq
        generalize t.nodes[i] = z at *
        generalize u.nodes[i] = z' at *
        go_wp2_with fail
        go_quiet (fail)
        clear c0 c1 c2 d0 d1 d2 k0 k1
        go_wp2_with fail
        go_roundg (t.nodes.length - (i + 1))
        case measure => omega
        case rel => exact ⟨i + 1, by omega, HT2.out, by go_num, by simp, HD.out.more _⟩
      · have hn : (t.nodes[i] != u.nodes[i]) = true := by rw [bne_iff_ne]; exact hq
        have HR2 : Hid (decide (t = u) = false) := Lib.hid (HR.out.trans (decide_eq_false (not_same hlt hltm hq)))
        clear hq
        generalize t.nodes[i] = z at *
        generalize u.nodes[i] = z' at *
        go_wp2_with fail
        go_quiet (fail)
        go_wp2_with fail
        go_ret
        exact ⟨by rw [HR2.out]; rfl, HB0.out.trans ((HD.out.more _).below.mono HB0.out.size)⟩
    · obtain rfl : i = t.nodes.length := by omega
      have HR2 : Hid (decide (t = u) = true) := Lib.hid (HR.out.trans (decide_eq_true (all_same HE3.out HTK.out)))
      go_wp2_with fail
      go_ret
      exact ⟨by rw [HR2.out]; rfl, HB0.out.trans (HD.out.below.mono HB0.out.size)⟩

end Go.Proofs.YtkcccfllkgjdiaaDoor.Tl
