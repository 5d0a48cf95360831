/-
  table's mayNodes, allOnNodes, May, walked.
-/
import Derived.Test.YtkcccfllkgjdiaaDoorTlDat
import Derived.Test.YtkcccfllkgjdiaaDoorRgMin
import Derived.Deep.LoopGhost
import Derived.Lib.SliceRun
import Derived.WalkSpells
namespace Go.Proofs.YtkcccfllkgjdiaaDoor.Tl
open Go.RowKit Rg
set_option linter.unusedVariables false

theorem mayN_is {ns : List Int} (h1 : 1 ≤ ns.length) (h2 : ns.length ≤ 16) : decide (MayN ns) = (decide (-1 ≤ minK ns ns.length) && decide (maxK ns ns.length < 4)) := by
  obtain ⟨⟨i, gi, _, ei⟩, hi⟩ := minK_is ns.length h1 (Nat.le_refl _)
  obtain ⟨⟨j, gj, _, ej⟩, hj⟩ := maxK_is ns.length h1 (Nat.le_refl _)
  rw [Bool.eq_iff_iff]
  simp only [decide_eq_true_eq, Bool.and_eq_true]
  constructor
  · rintro ⟨_, _, h3⟩
    have a1 := (h3 _ (List.getElem_mem gi)).1
    have a2 := (h3 _ (List.getElem_mem gj)).2
    omega
  · rintro ⟨a1, a2⟩
    refine ⟨h1, h2, fun x hx => ?_⟩
    obtain ⟨k, hk, rfl⟩ := List.getElem_of_mem hx
    have := hi k hk hk
    have := hj k hk hk
    omega

set_option maxHeartbeats 1000000 in
theorem mayN_any (a : Option Addr) (cap : Nat) (ns : List Int) (w : World) (hf : WsAt w a cap ns) :
    Calls Tryd.prog 33 #[.slice a ns.length cap] w fun e w' => e = .returned (.bool (decide (MayN ns))) ∧ w = w' := by
  by_cases h0 : ns.length = 0
  · have HR : Hid (decide (MayN ns) = false) := Lib.hid (by rw [decide_eq_false_iff_not]; exact fun h => by have := h.1; omega)
    have e0 : ((ns.length : Int) == 0) = true := by rw [h0]; rfl
    clear hf h0
    go_enter Tryd.func33, Tryd.ntmps33
    go_wp2_with fail
    go_ret
    exact ⟨by rw [HR.out]; rfl, rfl⟩
  have e0 : ((ns.length : Int) == 0) = false := by rw [beq_eq_false_iff_ne]; omega
  by_cases h16 : 16 < ns.length
  · have HR : Hid (decide (MayN ns) = false) := Lib.hid (by rw [decide_eq_false_iff_not]; exact fun h => by have := h.2.1; omega)
    have e1 : (16 : Int) < (ns.length : Int) := by omega
    clear hf
    go_enter Tryd.func33, Tryd.ntmps33
    go_wp2_with fail
    go_ret
    exact ⟨by rw [HR.out]; rfl, rfl⟩
  have e1 : ¬ (16 : Int) < (ns.length : Int) := by omega
  have hmin := min_any a cap ns w hf (by omega)
  have hmax := max_any a cap ns w hf (by omega)
  rw [mayN_is (by omega) (by omega)]
  generalize minK ns ns.length = y at *
  generalize maxK ns ns.length = z at *
  clear hf
  obtain ⟨q, hq⟩ : ∃ q, (decide (-1 ≤ y) && decide (z < 4)) = q := ⟨_, rfl⟩
  rw [hq]
  have HQ := Lib.hid hq
  clear hq
  by_cases h1 : -1 ≤ y
  · have H1 := Lib.hid h1
    by_cases h2 : z < 4
    · have H2 := Lib.hid h2
      go_enter Tryd.func33, Tryd.ntmps33
      go_wp2_with (first | (go_at_call 46; refine hmin.mono ?_; rintro e w1 ⟨rfl, rfl⟩) | (go_at_call 47; refine hmax.mono ?_; rintro e w1 ⟨rfl, rfl⟩))
      go_ret
      exact ⟨ret_bool (by rw [← HQ.out, decide_eq_true H1.out, decide_eq_true H2.out]; rfl), rfl⟩
    · have H2 := Lib.hid h2
      go_enter Tryd.func33, Tryd.ntmps33
      go_wp2_with (first | (go_at_call 46; refine hmin.mono ?_; rintro e w1 ⟨rfl, rfl⟩) | (go_at_call 47; refine hmax.mono ?_; rintro e w1 ⟨rfl, rfl⟩))
      go_ret
      exact ⟨ret_bool (by rw [← HQ.out, decide_eq_false (show ¬ z < 4 by have := H2.out; omega), Bool.and_false]), rfl⟩
  · have H1 := Lib.hid h1
    go_enter Tryd.func33, Tryd.ntmps33
    go_wp2_with (first | (go_at_call 46; refine hmin.mono ?_; rintro e w1 ⟨rfl, rfl⟩) | (go_at_call 47; refine hmax.mono ?_; rintro e w1 ⟨rfl, rfl⟩))
    go_ret
    exact ⟨ret_bool (by rw [← HQ.out, decide_eq_false (show ¬ -1 ≤ y by have := H1.out; omega), Bool.false_and]), rfl⟩

/-! ### each arc's shard is there, and on a node -/
theorem on_is {ns : List Int} {a : Ar} {n : Nat} (h : a.s = n) (h1 : n < ns.length) : OnN ns a ↔ ¬ ns[n] = -1 := by
  unfold OnN
  rw [h, Int.toNat_natCast, List.getD_eq_getElem?_getD, List.getElem?_eq_getElem h1, Option.getD_some]
  exact ⟨fun g => g.2, fun g => ⟨by omega, g⟩⟩
set_option maxHeartbeats 1000000 in
theorem on_any (x : Ar) (h0 : 0 ≤ x.s) (tb : Nat) (na : Option Addr) (nc : Nat) (ns : List Int) (w : World) (hb : tb < w.heap.size) (hp : w.cell? ⟨tb, 2, none⟩ = some (.slice na ns.length nc)) (hn : WsAt w na nc ns) :
    Calls Tryd.prog 49 #[.agg #[.int .u32 x.f, .int .i64 x.s], .pointer (some ⟨tb, 0, none⟩)] w fun r w' => r = .returned (.bool (!decide (OnN ns x))) ∧ Below w.heap.size w w' := by
  obtain ⟨f, s⟩ := x
  obtain ⟨n, rfl⟩ : ∃ n : Nat, s = n := ⟨s.toNat, by have h : 0 ≤ s := h0
                                                     omega⟩
  have hxn : (⟨f, (n : Int)⟩ : Ar).s = (n : Int) := rfl
  show Calls _ _ #[.agg #[.int .u32 f, .int .i64 n], _] _ _
  have hb0 : Below w.heap.size w (w.alloc (.cells #[.int .u32 f, .int .i64 n] 52)) := (Below.refl _ _).alloc (Nat.le_refl _) _
  have hp1 := (hb0.cell (p := ⟨tb, 2, none⟩) hb).trans hp
  have HB0 := Lib.hid hb0
  by_cases h1 : n < ns.length
  · have h1i : ¬ (ns.length : Int) ≤ (n : Int) := by omega
    have h2i : (n : Int) < (ns.length : Int) := by omega
    have h0n : (0 : Int) ≤ (n : Int) := by omega
    obtain ⟨b, o, rfl, c0⟩ := WsAt.get (hn.below hb0) n h1
    have hon : decide (OnN ns ⟨f, (n : Int)⟩) = !decide (ns[n] = -1) := by
      rw [← decide_not, decide_eq_decide]
      exact on_is hxn h1
    rw [hon]
    generalize ns[n] = y at *
    clear hb0 hp hn hon hxn h0
    go_enter Tryd.func49, Tryd.ntmps49
    go_wp2_with fail
    go_ret
    exact ⟨ret_bool rfl, HB0.out⟩
  · have h1i : (ns.length : Int) ≤ (n : Int) := by omega
    have hon : decide (OnN ns ⟨f, (n : Int)⟩) = false := by
      rw [decide_eq_false_iff_not]
      exact fun h => by have h2 : (n : Int) < ns.length := h.1
                        omega
    rw [hon]
    clear hb0 hp hn hon hxn h0
    go_enter Tryd.func49, Tryd.ntmps49
    go_wp2_with fail
    go_ret
    exact ⟨rfl, HB0.out⟩

def onRel (w : World) (l : List Ar) (ns : List Int) (m : Nat) (v : Value) (wr : World) : Prop :=
  ∃ i : Nat, i ≤ l.length ∧ (∀ (j : Nat) (h' : j < l.length), j < i → OnN ns l[j]) ∧ v = .int .i64 i ∧ m = l.length - i ∧ Below w.heap.size w wr

set_option maxRecDepth 100000 in
set_option maxHeartbeats 2000000 in
theorem idx_any (a : Option Addr) (cap : Nat) (l : List Ar) (tb : Nat) (na : Option Addr) (nc : Nat) (ns : List Int) (w : World) (hf : AsAt w a cap l) (h0 : ∀ x ∈ l, 0 ≤ x.s) (hb : tb < w.heap.size) (hp : w.cell? ⟨tb, 2, none⟩ = some (.slice na ns.length nc)) (hn : WsAt w na nc ns) :
    Calls Tryd.prog 62 #[.slice a l.length cap, .func (.func 49) #[] #[.pointer (some ⟨tb, 0, none⟩)]] w fun e w' => (∃ r : Int, e = .returned (.int .i64 r) ∧ (0 ≤ r ↔ ¬ ∀ x ∈ l, OnN ns x)) ∧ Below w.heap.size w w' := by
  have HF := Lib.hid hf
  have HP := Lib.hid hp
  have HN := Lib.hid hn
  have H0 := Lib.hid h0
  have hcap := hf.max
  have hlen := hf.len
  unfold maxLen at hcap
  clear hf hp hn h0
  go_enter Tryd.func62, Tryd.ntmps62
  go_wp2_with fail
  go_loopg [8] l.length (onRel w l ns)
  case atStart => exact ⟨0, Nat.zero_le _, fun j h h' => by omega, rfl, rfl, Below.refl _ _⟩
  case round =>
    obtain ⟨i, hi, hno, rfl, rfl, hbl⟩ := hrel
    have HB := Lib.hid hbl
    have HNO := Lib.hid hno
    clear hbl hno
    by_cases hlt : i < l.length
    · have hlti : (i : Int) < (l.length : Int) := by omega
      have h0i : (0 : Int) ≤ (i : Int) := by omega
      obtain ⟨b, o, rfl, c0, c1⟩ := AsAt.get (HF.out.below HB.out) i hlt
      have HCALL := Lib.hid (on_any l[i] (H0.out _ (List.getElem_mem hlt)) tb na nc ns wr (Nat.lt_of_lt_of_le hb HB.out.size) ((HB.out.cell (p := ⟨tb, 2, none⟩) hb).trans HP.out) (HN.out.below HB.out))
      by_cases hy : OnN ns l[i]
      · have HY := Lib.hid hy
        rw [decide_eq_true hy] at HCALL
        clear hy
        go_wp2_with fail
        refine HCALL.out.mono ?_
        rintro e w2 ⟨rfl, hb2⟩
        have HB2 := Lib.hid (HB.out.trans (hb2.mono HB.out.size))
        clear hb2
        go_wp2_with fail
        go_roundg (l.length - (i + 1))
        case measure => omega
        case rel =>
          refine ⟨i + 1, by omega, fun j h' h => ?_, by simp, rfl, HB2.out⟩
          by_cases hji : j = i
          · subst hji; exact HY.out
          · exact HNO.out j h' (by omega)
      · have HY := Lib.hid hy
        rw [decide_eq_false hy] at HCALL
        clear hy
        go_wp2_with fail
        refine HCALL.out.mono ?_
        rintro e w2 ⟨rfl, hb2⟩
        have HB2 := Lib.hid (HB.out.trans (hb2.mono HB.out.size))
        clear hb2
        go_wp2_with fail
        go_ret
        exact ⟨⟨_, rfl, fun _ h => HY.out (h _ (List.getElem_mem hlt)), fun _ => by omega⟩, HB2.out⟩
    · obtain rfl : i = l.length := by omega
      go_wp2_with fail
      go_ret
      refine ⟨⟨_, rfl, fun h => by omega, fun h => (h fun x hx => ?_).elim⟩, HB.out⟩
      obtain ⟨j, hj, rfl⟩ := List.getElem_of_mem hx
      exact HNO.out j hj hj

set_option maxHeartbeats 1000000 in
theorem contains_any (a : Option Addr) (cap : Nat) (l : List Ar) (tb : Nat) (na : Option Addr) (nc : Nat) (ns : List Int) (w : World) (hf : AsAt w a cap l) (h0 : ∀ x ∈ l, 0 ≤ x.s) (hb : tb < w.heap.size) (hp : w.cell? ⟨tb, 2, none⟩ = some (.slice na ns.length nc)) (hn : WsAt w na nc ns) :
    Calls Tryd.prog 48 #[.slice a l.length cap, .func (.func 49) #[] #[.pointer (some ⟨tb, 0, none⟩)]] w fun e w' => e = .returned (.bool (!decide (∀ x ∈ l, OnN ns x))) ∧ Below w.heap.size w w' := by
  have HC := Lib.hid (idx_any a cap l tb na nc ns w hf h0 hb hp hn)
  clear hf hp hn
  go_enter Tryd.func48, Tryd.ntmps48
  go_wp2_with fail
  refine HC.out.mono ?_
  rintro e w' ⟨⟨r, rfl, hr⟩, hb⟩
  have HB := Lib.hid hb
  have HR := Lib.hid hr
  clear hb hr
  go_wp2_with fail
  go_ret
  refine ⟨ret_bool ?_, HB.out⟩
  rw [← decide_not, decide_eq_decide]
  exact HR.out

set_option maxHeartbeats 1000000 in
theorem allOn_any (t : Ta) (aa : Option Addr) (ac : Nat) (na : Option Addr) (nc : Nat) (w : World) (hf : AsAt w aa ac t.arcs) (hn : WsAt w na nc t.nodes) (h0 : ∀ x ∈ t.arcs, 0 ≤ x.s) :
    Calls Tryd.prog 34 #[.agg #[.int .i64 t.ep, .slice aa t.arcs.length ac, .slice na t.nodes.length nc]] w fun e w' => e = .returned (.bool (decide (AllOn t))) ∧ Below w.heap.size w w' := by
  have hb0 : Below w.heap.size w (w.alloc (.cells #[.int .i64 t.ep, .slice aa t.arcs.length ac, .slice na t.nodes.length nc] 26)) := (Below.refl _ _).alloc (Nat.le_refl _) _
  have HC := Lib.hid (contains_any aa ac t.arcs w.heap.size na nc t.nodes _ (hf.below hb0) h0 (by simp) (by rw [cell_of_row _ _ _ _ _ _ (heap_alloc_new w _)]; rfl) (hn.below hb0))
  have HB0 := Lib.hid hb0
  clear hf hn hb0 h0
  go_enter Tryd.func34, Tryd.ntmps34
  go_wp2_with fail
  refine HC.out.mono ?_
  rintro e w' ⟨rfl, hb⟩
  have HB := Lib.hid (HB0.out.trans (hb.mono HB0.out.size))
  clear hb
  go_wp2_with fail
  go_ret
  exact ⟨ret_bool (by first | rfl | (rw [Bool.not_not]; rfl)), HB.out⟩

/-! ### May -/
theorem tbox_cells (w : World) (t : Ta) (aa : Option Addr) (ac : Nat) (na : Option Addr) (nc : Nat) :
    (w.alloc (.cells #[.int .i64 t.ep, .slice aa t.arcs.length ac, .slice na t.nodes.length nc] 26)).cell? ⟨w.heap.size, 0, none⟩ = some (.int .i64 t.ep) ∧ (w.alloc (.cells #[.int .i64 t.ep, .slice aa t.arcs.length ac, .slice na t.nodes.length nc] 26)).cell? ⟨w.heap.size, 1, none⟩ = some (.slice aa t.arcs.length ac) ∧ (w.alloc (.cells #[.int .i64 t.ep, .slice aa t.arcs.length ac, .slice na t.nodes.length nc] 26)).cell? ⟨w.heap.size, 2, none⟩ = some (.slice na t.nodes.length nc) := by
  refine ⟨?_, ?_, ?_⟩
  all_goals
    rw [cell_of_row _ _ _ _ _ _ (heap_alloc_new w _)]
    rfl
set_option maxHeartbeats 2000000 in
theorem may_any (t : Ta) (aa : Option Addr) (ac : Nat) (na : Option Addr) (nc : Nat) (w : World) (hf : AsAt w aa ac t.arcs) (hn : WsAt w na nc t.nodes) :
    Calls Tryd.prog 16 #[.agg #[.int .i64 t.ep, .slice aa t.arcs.length ac, .slice na t.nodes.length nc]] w fun e w' => e = .returned (.bool (decide (MayT t))) ∧ Below w.heap.size w w' := by
  have hb0 : Below w.heap.size w (w.alloc (.cells #[.int .i64 t.ep, .slice aa t.arcs.length ac, .slice na t.nodes.length nc] 26)) := (Below.refl _ _).alloc (Nat.le_refl _) _
  have HB0 := Lib.hid hb0
  have HN1 := Lib.hid fun wx (hx : WsAt wx na nc t.nodes) => mayN_any na nc t.nodes wx hx
  have HA1 := Lib.hid fun wx (hx : AsAt wx aa ac t.arcs) => Rg.may_any aa ac t.arcs wx hx
  have HON := Lib.hid fun wx (hx : AsAt wx aa ac t.arcs) (hy : WsAt wx na nc t.nodes) h0 => allOn_any t aa ac na nc wx hx hy h0
  have HF := Lib.hid hf
  have HN := Lib.hid hn
  have hmt : ∀ q : Bool, (q = true ↔ MayT t) → decide (MayT t) = q := fun q hq => by
    cases q
    · exact decide_eq_false fun h => by have := hq.2 h; cases this
    · exact decide_eq_true (hq.1 rfl)
  have HQ := Lib.hid hmt
  clear hf hn hb0 hmt
  by_cases h1 : 1 ≤ t.ep
  case neg =>
    have HR := Lib.hid (HQ.out false ⟨fun h => (by cases h), fun h => absurd h.1.1 h1⟩)
    go_enter Tryd.func16, Tryd.ntmps16
    go_wp2_with fail
    go_ret
    exact ⟨by rw [HR.out]; rfl, HB0.out⟩
  by_cases h2 : t.ep ≤ 1073741824
  case neg =>
    have HR := Lib.hid (HQ.out false ⟨fun h => (by cases h), fun h => absurd h.1.2 h2⟩)
    go_enter Tryd.func16, Tryd.ntmps16
    go_wp2_with fail
    go_ret
    exact ⟨by rw [HR.out]; rfl, HB0.out⟩
  by_cases h3 : MayN t.nodes
  case neg =>
    have HR := Lib.hid (HQ.out false ⟨fun h => (by cases h), fun h => absurd h.2.1 h3⟩)
    have HM := Lib.hid (HN1.out _ (HN.out.below HB0.out))
    rw [decide_eq_false h3] at HM
    clear h3
    go_enter Tryd.func16, Tryd.ntmps16
    go_wp2_with (go_at_call 33; refine HM.out.mono ?_; rintro e w1 ⟨rfl, rfl⟩)
    go_ret
    exact ⟨by rw [HR.out]; rfl, HB0.out⟩
  have HM := Lib.hid (HN1.out _ (HN.out.below HB0.out))
  rw [decide_eq_true h3] at HM
  by_cases h4 : May t.arcs
  case neg =>
    have HR := Lib.hid (HQ.out false ⟨fun h => (by cases h), fun h => absurd h.2.2.1 h4⟩)
    have HA := Lib.hid (HA1.out _ (HF.out.below HB0.out))
    rw [decide_eq_false h4] at HA
    clear h3 h4
    go_enter Tryd.func16, Tryd.ntmps16
    go_wp2_with (first | (go_at_call 33; refine HM.out.mono ?_; rintro e w1 ⟨rfl, rfl⟩) | (go_at_call 13; refine HA.out.mono ?_; rintro e w1 ⟨rfl, hd⟩; have HD := Lib.hid (HB0.out.trans (hd.below.mono HB0.out.size)); clear hd))
    go_ret
    exact ⟨by rw [HR.out]; rfl, HD.out⟩
  have HA := Lib.hid (HA1.out _ (HF.out.below HB0.out))
  rw [decide_eq_true h4] at HA
  have HS : Hid (∀ x ∈ t.arcs, 0 ≤ x.s) := Lib.hid fun x hx => (h4.shard hx).1
  have HR := Lib.hid (HQ.out (decide (AllOn t)) ⟨fun h => ⟨⟨h1, h2⟩, h3, h4, of_decide_eq_true h⟩, fun h => decide_eq_true h.2.2.2⟩)
  clear h3 h4
  rw [HR.out]
  generalize decide (AllOn t) = q at *
  have HC := Lib.hid (tbox_cells w t aa ac na nc)
  go_enter Tryd.func16, Tryd.ntmps16
  go_wp2_with (first | (go_at_call 33; refine HM.out.mono ?_; rintro e w1 ⟨rfl, rfl⟩) | (go_at_call 13; refine HA.out.mono ?_; rintro e w1 ⟨rfl, ⟨n, rfl⟩⟩; have HD := Lib.hid (Below.drewN HB0.out n)) | (go_at_call 34; refine (HON.out _ (HF.out.below HD.out) (HN.out.below HD.out) HS.out).mono ?_; rintro e w2 ⟨rfl, hd2⟩; have HD2 := Lib.hid (HD.out.trans (hd2.mono HD.out.size)); clear hd2))
  go_ret
  exact ⟨rfl, HD2.out⟩

end Go.Proofs.YtkcccfllkgjdiaaDoor.Tl
