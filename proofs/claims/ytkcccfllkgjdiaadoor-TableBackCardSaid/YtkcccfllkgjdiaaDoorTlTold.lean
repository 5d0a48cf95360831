/-
  What every law of the layer asks for first: a few of the document's answers, as plain data.
-/
import Derived.Test.YtkcccfllkgjdiaaDoorTlGetW
import Derived.Test.YtkcccfllkgjdiaaDoorTlPut
namespace Go.Proofs.YtkcccfllkgjdiaaDoor.Tl
open Go.RowKit Rg
set_option linter.unusedVariables false

def L16 : List Ar := [⟨389640488, 0⟩, ⟨440831362, 1⟩, ⟨463280165, 1⟩, ⟨549526624, 0⟩, ⟨1875591572, 0⟩, ⟨2407252079, 0⟩, ⟨2536995778, 1⟩, ⟨2699590806, 1⟩, ⟨2796100680, 0⟩, ⟨2910450102, 1⟩, ⟨2939309814, 0⟩, ⟨2956458800, 0⟩, ⟨3082838991, 1⟩, ⟨3569644817, 1⟩, ⟨3756269976, 1⟩, ⟨3956664609, 0⟩]
theorem up16 : Up L16 := by unfold Up; decide +kernel
theorem perm16 : L16.Perm (marksF [1, 1]) := by decide +kernel
theorem ring11 : ringW [1, 1] = L16 := (srt_one up16 perm16).symm
theorem wf16 : Wf L16 := by unfold Wf; decide +kernel
theorem mayW11 : MayW [1, 1] := ⟨by decide, by decide, by decide, 1, by decide, by decide⟩
theorem may16 : May L16 := ring11 ▸ ringW_may mayW11
def t0 : Ta := ⟨1, L16, [0, 1]⟩
theorem new11 : newT [1, 1] 2 = t0 ∧ newC [1, 1] 2 = 0 := by
  have h : okN [1, 1] 2 := ⟨by decide, mayW11⟩
  unfold newT newC
  rw [if_pos h, if_pos h, ring11]
  refine ⟨Ta.same rfl rfl ?_, rfl⟩
  show turnF L16 2 2 = [0, 1]
  decide +kernel
theorem may0 : MayT t0 := ⟨by decide, by decide, may16, by decide +kernel⟩
theorem turn0 (s : Int) (h : hasB L16 s = true) : TurnOk t0 s := ⟨may0, by decide, h⟩
theorem cut16 : (cutF L16 1 2).length = 24 ∧ (cutF L16 1 2).any (fun a => decide (a.s = 2)) = true := by decide +kernel
theorem halve0 : halveA L16 1 2 = srt (cutF L16 1 2) := if_pos ⟨may16, by decide, by rw [cut16.1]; decide⟩
theorem has_perm {l m : List Ar} (h : l.Perm m) (s : Int) : hasB l s = hasB m s := by
  rw [Bool.eq_iff_iff, has_iff, has_iff]
  exact ⟨fun ⟨a, ha, he⟩ => ⟨a, h.mem_iff.1 ha, he⟩, fun ⟨a, ha, he⟩ => ⟨a, h.mem_iff.2 ha, he⟩⟩
theorem halv0 : halvC t0 1 = 0 := by
  have e : ((t0.nodes.length : Nat) : Int) = 2 := rfl
  have ha : t0.arcs = L16 := rfl
  unfold halvC
  rw [if_neg (by simpa using turn0 1 (by decide +kernel)), if_neg (by decide), e, ha, halve0]
  have hl : (srt (cutF L16 1 2)).length = 24 := by rw [srt_length, cut16.1]
  rw [if_neg (fun h => by rw [h] at hl; cases hl), if_pos]
  rw [has_perm (srt_perm _)]
  exact cut16.2
theorem split0 : (splitT t0 1).ep = 2 ∧ (splitT t0 1).nodes = [0, 1, 1] ∧ splitN t0 1 = 2 := by
  unfold splitT splitN
  rw [if_pos halv0, if_pos halv0]
  exact ⟨rfl, rfl, rfl⟩
theorem move0 : moveT t0 0 1 = ⟨2, L16, [1, 1]⟩ ∧ moveC t0 0 1 = 0 ∧ moveC t0 0 0 = 1 := by
  have h : moveOk t0 0 1 := ⟨turn0 0 (by decide +kernel), by decide, by decide⟩
  have h2 : ¬ moveOk t0 0 0 := fun h => h.2.2 (by decide)
  unfold moveT moveC
  rw [if_pos h, if_pos h, if_neg h2]
  exact ⟨rfl, rfl, rfl⟩
theorem put0 : putL t0 = putT t0 ∧ putC t0 = 0 := ⟨if_pos may0, if_pos may0⟩
theorem got0 : gotT (putT t0) = t0 ∧ gotC (putT t0) = 0 := got_put may0 wf16
theorem gotN : gotC [] = 2 := (none_got got_nil).2
theorem wl2 (w : World) (x y : Int) : WsAt (w.alloc (.cells #[.int .i64 x, .int .i64 y] 3)) (some ⟨w.heap.size, 0, none⟩) 2 [x, y] := by
  refine ⟨by simp, by simp [maxLen], fun _ => ⟨_, 0, rfl, fun i hi r v hv => ?_⟩⟩
  have hr : r = 0 := by
    have := (List.getElem?_eq_some_iff.1 hv).1
    rw [wC_len] at this
    omega
  subst hr
  match i, hi, hv with
  | 0, _, hv => cases hv; simp
  | 1, _, hv => cases hv; simp
  | i + 2, hi, _ => exact absurd hi (by simp)

end Go.Proofs.YtkcccfllkgjdiaaDoor.Tl
