/-
  Tables compared: slices.Equal of numbers, table.Same, the document's SameTable, walked.
-/
import Derived.Test.YtkcccfllkgjdiaaDoorTlNew
import Derived.Test.YtkcccfllkgjdiaaDoorRgSame
import Derived.BigQuiet
namespace Go.Proofs.YtkcccfllkgjdiaaDoor.Tl
open Go.RowKit Rg
set_option linter.unusedVariables false

theorem take_more {l m : List Int} {i : Nat} (h : l.take i = m.take i) (hi : i < l.length) (hj : i < m.length) (he : l[i] = m[i]) : l.take (i + 1) = m.take (i + 1) := by
  rw [List.take_succ_eq_append_getElem hi, List.take_succ_eq_append_getElem hj, h, he]
theorem not_same {l m : List Int} {i : Nat} (hi : i < l.length) (hj : i < m.length) (he : ¬ l[i] = m[i]) : ¬ l = m := by
  intro h
  subst h
  exact he rfl
theorem all_same {l m : List Int} (hlen : l.length = m.length) (h : l.take l.length = m.take l.length) : l = m := by
  rw [List.take_length, hlen, List.take_length] at h
  exact h
def sameRel (w : World) (l m : List Int) (n : Nat) (v : Value) (wr : World) : Prop :=
  ∃ i : Nat, i ≤ l.length ∧ l.take i = m.take i ∧ v = .int .i64 i ∧ n = l.length - i ∧ Drew w wr
set_option maxHeartbeats 1000000 in
theorem eqInts_any (a b : Option Addr) (ca cb : Nat) (l m : List Int) (w : World) (hl : WsAt w a ca l) (hm : WsAt w b cb m) :
    Calls Tryd.prog 27 #[.slice a l.length ca, .slice b m.length cb] w fun e w' => e = .returned (.bool (decide (l = m))) ∧ Drew w w' := by
  have hcap := hl.max
  have hlen := hl.len
  unfold maxLen at hcap
  by_cases he : l.length = m.length
  case neg =>
    have HR : Hid (decide (l = m) = false) := Lib.hid (by rw [decide_eq_false_iff_not]; intro h; subst h; exact he rfl)
    have e1 : ((l.length : Int) != (m.length : Int)) = true := by rw [bne_iff_ne]; omega
    clear hl hm he
    go_enter Tryd.func27, Tryd.ntmps27
    go_wp2_with fail
    go_ret
    exact ⟨by rw [HR.out]; rfl, Drew.refl _⟩
  have e1 : ((l.length : Int) != (m.length : Int)) = false := by rw [bne_eq_false_iff_eq]; omega
  have HL := Lib.hid hl
  have HM := Lib.hid hm
  have HE := Lib.hid he
  clear hl hm he
  go_enter Tryd.func27, Tryd.ntmps27
  go_wp2_with fail
  go_loopg [13] l.length (sameRel w l m)
  case atStart => exact ⟨0, Nat.zero_le _, rfl, rfl, rfl, Drew.refl _⟩
  case round =>
    obtain ⟨i, hi, ht, rfl, rfl, hd⟩ := hrel
    have HT := Lib.hid ht
    have HD := Lib.hid hd
    have HL1 := Lib.hid (HL.out.below hd.below)
    have HM1 := Lib.hid (HM.out.below hd.below)
    clear ht hd
    by_cases hlt : i < l.length
    · have hltm : i < m.length := by have := HE.out; omega
      have hlti : (i : Int) < (l.length : Int) := by omega
      have hltj : (i : Int) < (m.length : Int) := by omega
      have h0i : (0 : Int) ≤ (i : Int) := by omega
      obtain ⟨b1, o1, rfl, c0⟩ := WsAt.get HL1.out i hlt
      obtain ⟨b2, o2, rfl, d0⟩ := WsAt.get HM1.out i hltm
      by_cases hq : l[i] = m[i]
      · have hn : (l[i] != m[i]) = false := by rw [bne_eq_false_iff_eq]; exact hq
        have HT2 := Lib.hid (take_more HT.out hlt hltm hq)
        clear hq
        generalize l[i] = x at *
        generalize m[i] = y at *
        go_wp2_with fail
        go_quiet (fail)
        go_wp2_with fail
        go_roundg (l.length - (i + 1))
        case measure => omega
        case rel => exact ⟨i + 1, by omega, HT2.out, by go_num, by simp, HD.out.more _⟩
      · have hn : (l[i] != m[i]) = true := by rw [bne_iff_ne]; exact hq
        have HR : Hid (decide (l = m) = false) := Lib.hid (decide_eq_false (not_same hlt hltm hq))
        clear hq
        generalize l[i] = x at *
        generalize m[i] = y at *
        go_wp2_with fail
        go_quiet (fail)
        go_wp2_with fail
        go_ret
        exact ⟨by rw [HR.out]; rfl, HD.out.more _⟩
    · obtain rfl : i = l.length := by omega
      have HR : Hid (decide (l = m) = true) := Lib.hid (decide_eq_true (all_same HE.out HT.out))
      go_wp2_with fail
      go_ret
      exact ⟨by rw [HR.out]; rfl, HD.out⟩

instance : DecidableEq Ta := fun a b =>
  decidable_of_iff (a.ep = b.ep ∧ a.arcs = b.arcs ∧ a.nodes = b.nodes) ⟨fun h => Ta.same h.1 h.2.1 h.2.2, fun h => by subst h; exact ⟨rfl, rfl, rfl⟩⟩
/-- a table that lies in memory. -/
structure TaAt (w : World) (aa : Option Addr) (ac : Nat) (na : Option Addr) (nc : Nat) (t : Ta) : Prop where
  arcs : AsAt w aa ac t.arcs
  nodes : WsAt w na nc t.nodes
theorem TaAt.below {w w' : World} {aa na : Option Addr} {ac nc : Nat} {t : Ta} (h : TaAt w aa ac na nc t) (hb : Below w.heap.size w w') : TaAt w' aa ac na nc t := ⟨h.arcs.below hb, h.nodes.below hb⟩

set_option maxHeartbeats 2000000 in
theorem same_any (t u : Ta) (aa ba : Option Addr) (ac bc : Nat) (na ma : Option Addr) (nc mc : Nat) (w : World) (ht : TaAt w aa ac na nc t) (hu : TaAt w ba bc ma mc u) :
    Calls Tryd.prog 12 #[.agg #[.int .i64 t.ep, .slice aa t.arcs.length ac, .slice na t.nodes.length nc], .agg #[.int .i64 u.ep, .slice ba u.arcs.length bc, .slice ma u.nodes.length mc]] w fun e w' => e = .returned (.bool (decide (t = u))) ∧ Below w.heap.size w w' := by
  obtain ⟨W, hW⟩ : ∃ W, W = (w.alloc (.cells #[.int .i64 t.ep, .slice aa t.arcs.length ac, .slice na t.nodes.length nc] 26)).alloc (.cells #[.int .i64 u.ep, .slice ba u.arcs.length bc, .slice ma u.nodes.length mc] 26) := ⟨_, rfl⟩
  have hb0 : Below w.heap.size w W := by rw [hW]; exact ((Below.refl _ _).alloc (Nat.le_refl _) _).alloc (by simp) _
  have HB0 := Lib.hid hb0
  have HT := Lib.hid (ht.below hb0)
  have HU := Lib.hid (hu.below hb0)
  have h1 : W.heap[w.heap.size]? = some (.cells #[.int .i64 t.ep, .slice aa t.arcs.length ac, .slice na t.nodes.length nc] 26 (0, 0)) := by rw [hW, Below.heap_alloc _ _ _ (by simp), heap_alloc_new]
  have h2 : W.heap[w.heap.size + 1]? = some (.cells #[.int .i64 u.ep, .slice ba u.arcs.length bc, .slice ma u.nodes.length mc] 26 (0, 0)) := by
    rw [hW]
    have := heap_alloc_new (w.alloc (.cells #[.int .i64 t.ep, .slice aa t.arcs.length ac, .slice na t.nodes.length nc] 26)) (.cells #[.int .i64 u.ep, .slice ba u.arcs.length bc, .slice ma u.nodes.length mc] 26)
    rwa [show (w.alloc (.cells #[.int .i64 t.ep, .slice aa t.arcs.length ac, .slice na t.nodes.length nc] 26)).heap.size = w.heap.size + 1 by simp] at this
  have HA := Lib.hid (psame_any aa ba ac bc t.arcs u.arcs W (ht.arcs.below hb0) (hu.arcs.below hb0))
  have HN := Lib.hid fun (wx : World) (hx : WsAt wx na nc t.nodes) (hy : WsAt wx ma mc u.nodes) => eqInts_any na ma nc mc t.nodes u.nodes wx hx hy
  have HW := Lib.hid hW
  obtain ⟨⟨c0, c1, c2⟩, -⟩ := box3 h1
  obtain ⟨⟨d0, d1, d2⟩, -⟩ := box3 h2
  clear ht hu hb0 h1 h2 hW
  by_cases e1 : t.ep = u.ep
  case neg =>
    have HR : Hid (decide (t = u) = false) := Lib.hid (decide_eq_false fun h => e1 (by rw [h]))
    have g1 : (t.ep == u.ep) = false := by rw [beq_eq_false_iff_ne]; exact e1
    clear e1
    generalize t.ep = x at *
    generalize u.ep = y at *
    go_enter Tryd.func12, Tryd.ntmps12
    go_wp2_with fail
    rw [← HW.out]
    go_wp2_with fail
    go_ret
    exact ⟨by rw [HR.out]; rfl, HB0.out⟩
  have g1 : (t.ep == u.ep) = true := by rw [beq_iff_eq]; exact e1
  by_cases e2 : t.arcs = u.arcs
  case neg =>
    have HR : Hid (decide (t = u) = false) := Lib.hid (decide_eq_false fun h => e2 (by rw [h]))
    rw [decide_eq_false e2] at HA
    clear e1 e2
    generalize t.ep = x at *
    generalize u.ep = y at *
    go_enter Tryd.func12, Tryd.ntmps12
    go_wp2_with fail
    rw [← HW.out]
    go_wp2_with (go_at_call 26; refine HA.out.mono ?_; rintro e w1 ⟨rfl, ⟨n, rfl⟩⟩)
    go_ret
    exact ⟨by rw [HR.out]; rfl, Below.drewN HB0.out _⟩
  have HR : Hid (decide (t = u) = decide (t.nodes = u.nodes)) := Lib.hid (decide_eq_decide.2 ⟨fun h => by rw [h], fun h => Ta.same e1 e2 h⟩)
  rw [decide_eq_true e2] at HA
  rw [HR.out]
  clear e1 e2
  generalize decide (t.nodes = u.nodes) = q at *
  generalize t.ep = x at *
  generalize u.ep = y at *
  go_enter Tryd.func12, Tryd.ntmps12
  go_wp2_with fail
  rw [← HW.out]
  go_wp2_with (first | (go_at_call 26; refine HA.out.mono ?_; rintro e w1 ⟨rfl, ⟨n, rfl⟩⟩) | (go_at_call 27; refine (HN.out _ (HT.out.nodes.below (Drew.below ⟨n, rfl⟩)) (HU.out.nodes.below (Drew.below ⟨n, rfl⟩))).mono ?_; rintro e w2 ⟨rfl, ⟨k, rfl⟩⟩))
  go_ret
  exact ⟨rfl, Below.drewN HB0.out _⟩

end Go.Proofs.YtkcccfllkgjdiaaDoor.Tl
