/-
  table's mayNode, mayTurn, halves, walked.
-/
import Derived.Test.YtkcccfllkgjdiaaDoorTlOwn
import Derived.Test.YtkcccfllkgjdiaaDoorRgHalve
namespace Go.Proofs.YtkcccfllkgjdiaaDoor.Tl
open Go.RowKit Rg
set_option linter.unusedVariables false

theorem halveA_may {l : List Ar} (hw : Wf l) (s o : Int) (hne : halveA l s o ≠ []) : May (halveA l s o) ∧ Wf (halveA l s o) := by
  unfold halveA at hne ⊢
  split at hne
  · rename_i h
    rw [if_pos h]
    obtain ⟨hm, ho, hc⟩ := h
    have hl := halve_length l s o
    have h1 := hm.1
    have ho' : 0 ≤ o ∧ o < 16 := by unfold okS at ho; exact of_decide_eq_true ho
    refine ⟨may_of (by omega) (by unfold halveF; rw [srt_length]; exact hc) (fun a ha => ?_) (halve_up hw hm.up s o), halve_wf hw s o⟩
    rcases cut_shard ((srt_perm _).mem_iff.1 ha) with h | ⟨b, hb, h⟩
    · rw [h]; exact ho'
    · rw [← h]; exact hm.shard hb
  · exact absurd rfl hne

def okNode (n : Int) : Bool := decide (0 ≤ n ∧ n < 4)
set_option maxHeartbeats 400000 in
theorem node_any (n : Int) (w : World) :
    Calls Tryd.prog 32 #[.int .i64 n] w fun e w' => e = .returned (.bool (okNode n)) ∧ w = w' := by
  unfold okNode
  by_cases h1 : 0 ≤ n
  · by_cases h2 : n < 4
    · rw [decide_eq_true (show 0 ≤ n ∧ n < 4 from ⟨h1, h2⟩)]
      go_enter Tryd.func32, Tryd.ntmps32
      go_wp2_with fail
      go_ret
      exact ⟨rfl, rfl⟩
    · rw [decide_eq_false (show ¬ (0 ≤ n ∧ n < 4) from fun h => h2 h.2)]
      go_enter Tryd.func32, Tryd.ntmps32
      go_wp2_with fail
      go_ret
      exact ⟨rfl, rfl⟩
  · rw [decide_eq_false (show ¬ (0 ≤ n ∧ n < 4) from fun h => h1 h.1)]
    go_enter Tryd.func32, Tryd.ntmps32
    go_wp2_with fail
    go_ret
    exact ⟨rfl, rfl⟩

def TurnOk (t : Ta) (s : Int) : Prop := MayT t ∧ t.ep < 1073741824 ∧ hasB t.arcs s = true
instance (t : Ta) (s : Int) : Decidable (TurnOk t s) := inferInstanceAs (Decidable (_ ∧ _ ∧ _))
set_option maxHeartbeats 2000000 in
theorem turnOk_any (t : Ta) (s : Int) (aa : Option Addr) (ac : Nat) (na : Option Addr) (nc : Nat) (w : World) (ht : TaAt w aa ac na nc t) (hw : Wf t.arcs) :
    Calls Tryd.prog 31 #[.agg #[.int .i64 t.ep, .slice aa t.arcs.length ac, .slice na t.nodes.length nc], .int .i64 s] w fun e w' => e = .returned (.bool (decide (TurnOk t s))) ∧ Below w.heap.size w w' := by
  have hb0 : Below w.heap.size w (w.alloc (.cells #[.int .i64 t.ep, .slice aa t.arcs.length ac, .slice na t.nodes.length nc] 26)) := (Below.refl _ _).alloc (Nat.le_refl _) _
  have HB0 := Lib.hid hb0
  have HT := Lib.hid (ht.below hb0)
  have HMY := Lib.hid (may_any t aa ac na nc _ (ht.below hb0).arcs (ht.below hb0).nodes)
  have HHA := Lib.hid fun (wx : World) (hx : AsAt wx aa ac t.arcs) (hm : May t.arcs) => has_any aa ac t.arcs s wx hx hw hm
  clear ht hb0
  by_cases h1 : MayT t
  case neg =>
    have HR : Hid (decide (TurnOk t s) = false) := Lib.hid (decide_eq_false fun h => h1 h.1)
    rw [decide_eq_false h1] at HMY
    clear h1
    go_enter Tryd.func31, Tryd.ntmps31
    go_wp2_with fail
    refine HMY.out.mono ?_
    rintro e w1 ⟨rfl, hb1⟩
    have HB1 := Lib.hid (HB0.out.trans (hb1.mono HB0.out.size))
    clear hb1
    go_wp2_with fail
    go_ret
    exact ⟨by rw [HR.out]; rfl, HB1.out⟩
  rw [decide_eq_true h1] at HMY
  by_cases h2 : t.ep < 1073741824
  case neg =>
    have HR : Hid (decide (TurnOk t s) = false) := Lib.hid (decide_eq_false fun h => h2 h.2.1)
    clear h1
    go_enter Tryd.func31, Tryd.ntmps31
    go_wp2_with fail
    refine HMY.out.mono ?_
    rintro e w1 ⟨rfl, hb1⟩
    have HB1 := Lib.hid (HB0.out.trans (hb1.mono HB0.out.size))
    obtain ⟨⟨c0, c1, c2⟩, -⟩ := box3 (box_kept hb1)
    clear hb1
    go_wp2_with fail
    go_ret
    exact ⟨by rw [HR.out]; rfl, HB1.out⟩
  have HR : Hid (decide (TurnOk t s) = hasB t.arcs s) := Lib.hid (by
    rw [Bool.eq_iff_iff, decide_eq_true_eq]
    exact ⟨fun h => h.2.2, fun h => ⟨h1, h2, h⟩⟩)
  have HM := Lib.hid h1.2.2.1
  rw [HR.out]
  clear h1
  generalize hasB t.arcs s = q at *
  go_enter Tryd.func31, Tryd.ntmps31
  go_wp2_with fail
  refine HMY.out.mono ?_
  rintro e w1 ⟨rfl, hb1⟩
  have HB1 := Lib.hid (HB0.out.trans (hb1.mono HB0.out.size))
  have HT1 := Lib.hid (HT.out.below hb1)
  obtain ⟨⟨c0, c1, c2⟩, -⟩ := box3 (box_kept hb1)
  clear hb1
  go_wp2_with fail
  refine (HHA.out _ HT1.out.arcs HM.out).mono ?_
  rintro e w2 ⟨rfl, hd2⟩
  have HB2 := Lib.hid (HB1.out.trans (hd2.below.mono HB1.out.size))
  clear hd2
  go_wp2_with fail
  go_ret
  exact ⟨rfl, HB2.out⟩

/-! ### halves -/
def halvC (t : Ta) (s : Int) : Int :=
  if ¬ TurnOk t s then 1 else if t.nodes.length = 16 then 4 else if halveA t.arcs s t.nodes.length = [] then 4 else if hasB (halveA t.arcs s t.nodes.length) t.nodes.length = true then 0 else 1
def halvL (t : Ta) (s : Int) : List Ar := if halvC t s = 0 then halveA t.arcs s t.nodes.length else []
def HalvR (l : List Ar) (c : Int) (w : World) (e : Ending) (w' : World) : Prop :=
  ∃ a cap, e = .returned (.tuple #[.slice a l.length cap, .int .i64 c]) ∧ AsAt w' a cap l ∧ (a = none → cap = 0) ∧ Below w.heap.size w w'
theorem halvR_nil {t : Ta} {s c : Int} (hc : halvC t s = c) (h0 : c ≠ 0) {w w' : World} (hb : Below w.heap.size w w') : HalvR (halvL t s) (halvC t s) w (.returned (.tuple #[.slice none 0 0, .int .i64 c])) w' := by
  unfold halvL
  rw [hc, if_neg h0]
  exact ⟨none, 0, rfl, RowsAt.nil _ _ _ _ _ (by simp [maxLen]), fun _ => rfl, hb⟩

set_option maxHeartbeats 2000000 in
theorem halves_any (t : Ta) (s : Int) (aa : Option Addr) (ac : Nat) (na : Option Addr) (nc : Nat) (w : World) (ht : TaAt w aa ac na nc t) (hw : Wf t.arcs) :
    Calls Tryd.prog 29 #[.agg #[.int .i64 t.ep, .slice aa t.arcs.length ac, .slice na t.nodes.length nc], .int .i64 s] w (HalvR (halvL t s) (halvC t s) w) := by
  have hb0 : Below w.heap.size w (w.alloc (.cells #[.int .i64 t.ep, .slice aa t.arcs.length ac, .slice na t.nodes.length nc] 26)) := (Below.refl _ _).alloc (Nat.le_refl _) _
  have HB0 := Lib.hid hb0
  have HT := Lib.hid (ht.below hb0)
  have HTU := Lib.hid (turnOk_any t s aa ac na nc _ (ht.below hb0) hw)
  have HHL := Lib.hid fun (wx : World) (hx : AsAt wx aa ac t.arcs) => halve_any aa ac t.arcs s t.nodes.length wx hx hw
  have HHM := Lib.hid (halveA_may hw s t.nodes.length)
  have hC : ∀ c, c = halvC t s → halvC t s = c := fun c h => h.symm
  clear ht hb0
  by_cases h1 : TurnOk t s
  case neg =>
    have HR : Hid (halvC t s = 1) := Lib.hid (if_pos h1)
    rw [decide_eq_false h1] at HTU
    clear h1
    go_enter Tryd.func29, Tryd.ntmps29
    go_wp2_with fail
    refine HTU.out.mono ?_
    rintro e w1 ⟨rfl, hb1⟩
    have HB1 := Lib.hid (HB0.out.trans (hb1.mono HB0.out.size))
    clear hb1
    go_wp2_with fail
    go_ret2
    exact halvR_nil HR.out (by decide) HB1.out
  rw [decide_eq_true h1] at HTU
  by_cases h2 : t.nodes.length = 16
  case pos =>
    have HR : Hid (halvC t s = 4) := Lib.hid (by unfold halvC; rw [if_neg (by simpa using h1), if_pos h2])
    have e2 : ((t.nodes.length : Int) == 16) = true := by rw [h2]; rfl
    clear h1 h2
    go_enter Tryd.func29, Tryd.ntmps29
    go_wp2_with fail
    refine HTU.out.mono ?_
    rintro e w1 ⟨rfl, hb1⟩
    have HB1 := Lib.hid (HB0.out.trans (hb1.mono HB0.out.size))
    obtain ⟨⟨c0, c1, c2⟩, -⟩ := box3 (box_kept hb1)
    clear hb1
    go_wp2_with fail
    go_ret2
    exact halvR_nil HR.out (by decide) HB1.out
  have e2 : ((t.nodes.length : Int) == 16) = false := by rw [beq_eq_false_iff_ne]; omega
  have hq : halvC t s = if halveA t.arcs s t.nodes.length = [] then 4 else if hasB (halveA t.arcs s t.nodes.length) t.nodes.length = true then 0 else 1 := by
    unfold halvC
    rw [if_neg (by simpa using h1), if_neg h2]
  have hl : halvL t s = if halvC t s = 0 then halveA t.arcs s t.nodes.length else [] := rfl
  have HQ := Lib.hid hq
  have HLL := Lib.hid hl
  unfold ArsR at HHL
  clear h1 h2 hq hl
  generalize halveA t.arcs s t.nodes.length = L at *
  by_cases h3 : L = []
  case pos =>
    subst h3
    have HR : Hid (halvC t s = 4) := Lib.hid (by rw [HQ.out, if_pos rfl])
    go_enter Tryd.func29, Tryd.ntmps29
    go_wp2_with fail
    refine HTU.out.mono ?_
    rintro e w1 ⟨rfl, hb1⟩
    have HB1 := Lib.hid (HB0.out.trans (hb1.mono HB0.out.size))
    have HT1 := Lib.hid (HT.out.below hb1)
    obtain ⟨⟨c0, c1, c2⟩, -⟩ := box3 (box_kept hb1)
    clear hb1
    go_wp2_with fail
    refine (HHL.out _ HT1.out.arcs).mono ?_
    rintro e w2 ⟨ba, bc, rfl, _, _, hb2⟩
    have HB2 := Lib.hid (HB1.out.trans (hb2.mono HB1.out.size))
    clear hb2
    go_wp2_with fail
    go_ret2
    exact halvR_nil HR.out (by decide) HB2.out
  have hm := HHM.out h3
  have HLN : Hid (((L.length : Int) == 0) = false) := Lib.hid (by rw [beq_eq_false_iff_ne]; have := hm.1.1; omega)
  have e3 := HLN.out
  have HHA := Lib.hid fun (wx : World) a c (hx : AsAt wx a c L) => has_any a c L t.nodes.length wx hx hm.2 hm.1
  by_cases h4 : hasB L t.nodes.length = true
  · have HR : Hid (halvC t s = 0) := Lib.hid (by rw [HQ.out, if_neg h3, if_pos h4])
    have HF : Hid (halvL t s = L) := Lib.hid (by rw [HLL.out, if_pos HR.out])
    rw [h4] at HHA
    clear h3 h4 hm
    go_enter Tryd.func29, Tryd.ntmps29
    go_wp2_with fail
    refine HTU.out.mono ?_
    rintro e w1 ⟨rfl, hb1⟩
    have HB1 := Lib.hid (HB0.out.trans (hb1.mono HB0.out.size))
    have HT1 := Lib.hid (HT.out.below hb1)
    obtain ⟨⟨c0, c1, c2⟩, -⟩ := box3 (box_kept hb1)
    clear hb1
    go_wp2_with fail
    refine (HHL.out _ HT1.out.arcs).mono ?_
    rintro e w2 ⟨ba, bc, rfl, hat2, hn2, hb2⟩
    have HB2 := Lib.hid (HB1.out.trans (hb2.mono HB1.out.size))
    have HA2 := Lib.hid hat2
    have HN2 := Lib.hid hn2
    clear hb2 hat2 hn2
    go_wp2_with fail
    refine (HHA.out _ _ _ HA2.out).mono ?_
    rintro e w3 ⟨rfl, hd3⟩
    have HB3 := Lib.hid (HB2.out.trans (hd3.below.mono HB2.out.size))
    have HA3 := Lib.hid (HA2.out.below hd3.below)
    clear hd3
    go_wp2_with fail
    go_ret2
    rw [HR.out, HF.out]
    exact ⟨ba, bc, rfl, HA3.out, HN2.out, HB3.out⟩
  · have HR : Hid (halvC t s = 1) := Lib.hid (by rw [HQ.out, if_neg h3, if_neg h4])
    rw [Bool.eq_false_iff.2 h4] at HHA
    clear h3 h4 hm
    go_enter Tryd.func29, Tryd.ntmps29
    go_wp2_with fail
    refine HTU.out.mono ?_
    rintro e w1 ⟨rfl, hb1⟩
    have HB1 := Lib.hid (HB0.out.trans (hb1.mono HB0.out.size))
    have HT1 := Lib.hid (HT.out.below hb1)
    obtain ⟨⟨c0, c1, c2⟩, -⟩ := box3 (box_kept hb1)
    clear hb1
    go_wp2_with fail
    refine (HHL.out _ HT1.out.arcs).mono ?_
    rintro e w2 ⟨ba, bc, rfl, hat2, hn2, hb2⟩
    have HB2 := Lib.hid (HB1.out.trans (hb2.mono HB1.out.size))
    have HA2 := Lib.hid hat2
    clear hb2 hat2 hn2
    go_wp2_with fail
    refine (HHA.out _ _ _ HA2.out).mono ?_
    rintro e w3 ⟨rfl, hd3⟩
    have HB3 := Lib.hid (HB2.out.trans (hd3.below.mono HB2.out.size))
    clear hd3
    go_wp2_with fail
    go_ret2
    exact halvR_nil HR.out (by decide) HB3.out

end Go.Proofs.YtkcccfllkgjdiaaDoor.Tl
