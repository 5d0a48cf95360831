/-
  route.Find and what it calls; mayName, standing.
-/
import Derived.Test.YtlghphmehlmehaaDoorRtMem
import Derived.Test.YtlghphmehlmehaaDoorScope
import Derived.Deep.LoopGhost
import Derived.Lib.SliceRun
import Derived.WalkSpells
namespace Go.Proofs.YtlghphmehlmehaaDoor.Rt
open Go.RowKit Top
set_option linter.unusedVariables false

theorem ne_bytes {a b : List UInt8} (h : ¬ a = b) : (a == b) = false := by simpa using h
set_option maxHeartbeats 400000 in
theorem is_any (e : Ex) (n : List UInt8) (b o : Nat) (w : World) (hp : w.cell? ⟨b, o, none⟩ = some (.string ⟨n.toArray⟩)) :
    Calls Tryd.prog 30 #[.agg #[.string ⟨e.name.toArray⟩, .int .i64 e.kind], .pointer (some ⟨b, o, none⟩)] w fun r w' => r = .returned (.bool (decide (e.name = n))) ∧ Below w.heap.size w w' := by
  have hb0 : Below w.heap.size w (w.alloc (.cells #[.string ⟨e.name.toArray⟩, .int .i64 e.kind] 25)) := (Below.refl _ _).alloc (Nat.le_refl _) _
  have hp1 := (hb0.cell (p := ⟨b, o, none⟩) (lt_of_cell hp)).trans hp
  go_enter Tryd.func30, Tryd.ntmps30
  go_wp2_with fail
  go_ret
  refine ⟨?_, hb0⟩
  by_cases h : e.name = n
  · simp [h]
  · simp [h]

def idxRel (w : World) (l : List Ex) (n : List UInt8) (m : Nat) (v : Value) (wr : World) : Prop :=
  ∃ i : Nat, i ≤ l.length ∧ (∀ (j : Nat) (h : j < i) (h' : j < l.length), l[j].name ≠ n) ∧ v = .int .i64 i ∧ m = l.length - i ∧ Below w.heap.size w wr

set_option maxRecDepth 100000 in
set_option maxHeartbeats 2000000 in
theorem idx_any (a : Option Addr) (cap : Nat) (l : List Ex) (n : List UInt8) (pb po : Nat) (w : World) (hf : XsAt w a cap l) (hp : w.cell? ⟨pb, po, none⟩ = some (.string ⟨n.toArray⟩)) :
    Calls Tryd.prog 29 #[.slice a l.length cap, .func (.func 30) #[] #[.pointer (some ⟨pb, po, none⟩)]] w fun e w' => e = .returned (.int .i64 (pl (fnd n l))) ∧ Below w.heap.size w w' := by
  have HF := Lib.hid hf
  have HP := Lib.hid hp
  have hcap := hf.max
  have hlen := hf.len
  unfold maxLen at hcap
  clear hf hp
  go_enter Tryd.func29, Tryd.ntmps29
  go_wp2_with fail
  go_loopg [8] l.length (idxRel w l n)
  case atStart => exact ⟨0, Nat.zero_le _, fun j h => by omega, rfl, rfl, Below.refl _ _⟩
  case round =>
    obtain ⟨i, hi, hno, rfl, rfl, hb⟩ := hrel
    have HB := Lib.hid hb
    have HNO := Lib.hid hno
    clear hb hno
    by_cases hlt : i < l.length
    · have hlti : (i : Int) < (l.length : Int) := by omega
      have h0i : (0 : Int) ≤ (i : Int) := by omega
      obtain ⟨b, o, rfl, c0, c1⟩ := XsAt.get (HF.out.below HB.out) i hlt
      have hcall := is_any l[i] n pb po wr ((HB.out.cell (lt_of_cell HP.out)).trans HP.out)
      have HCALL := Lib.hid hcall
      clear hcall
      by_cases hy : l[i].name = n
      · have HY := Lib.hid hy
        rw [decide_eq_true hy] at HCALL
        clear hy
        go_wp2_with fail
        refine HCALL.out.mono ?_
        rintro e w2 ⟨rfl, hb2⟩
        have HB2 := Lib.hid (HB.out.trans (hb2.mono HB.out.size))
        clear hb2
        go_wp2_with fail
        go_ret
        refine ⟨?_, HB2.out⟩
        rw [show fnd n l = some i from find_first hlt (by simpa using HY.out) (fun j hj => by simpa using HNO.out j hj (by omega))]
        rfl
      · have HY := Lib.hid hy
        rw [decide_eq_false hy] at HCALL
        clear hy
        go_wp2_with fail
        refine HCALL.out.mono ?_
        rintro e w2 ⟨rfl, hb2⟩
        have HB2 := Lib.hid (HB.out.trans (hb2.mono HB.out.size))
        clear hb2
        go_wp2_with fail
        go_roundg (l.length - (i + 1))
        case measure => omega
        case rel =>
          refine ⟨i + 1, by omega, fun j h h' => ?_, by simp, rfl, HB2.out⟩
          by_cases hji : j = i
          · subst hji; exact HY.out
          · exact HNO.out j (by omega) h'
    · obtain rfl : i = l.length := by omega
      go_wp2_with fail
      go_ret
      refine ⟨?_, HB.out⟩
      rw [show fnd n l = none from find_not (fun j hj => by simpa using HNO.out j hj hj)]
      rfl

set_option maxHeartbeats 1000000 in
theorem find_any (a : Option Addr) (cap : Nat) (l : List Ex) (n : List UInt8) (w : World) (hf : XsAt w a cap l) :
    Calls Tryd.prog 16 #[.slice a l.length cap, .string ⟨n.toArray⟩] w fun e w' => e = .returned (.int .i64 (pl (fnd n l))) ∧ Below w.heap.size w w' := by
  have hb0 : Below w.heap.size w (w.alloc (.cells #[.string ⟨n.toArray⟩] 9)) := (Below.refl _ _).alloc (Nat.le_refl _) _
  have HC := Lib.hid (idx_any a cap l n w.heap.size 0 _ (hf.below hb0) (by rw [cell_of_row _ _ _ _ _ _ (heap_alloc_new w _)]; rfl))
  have HB0 := Lib.hid hb0
  clear hf hb0
  go_enter Tryd.func16, Tryd.ntmps16
  go_wp2_with fail
  refine HC.out.mono ?_
  rintro e w' ⟨rfl, hb⟩
  have HB := Lib.hid (HB0.out.trans (hb.mono HB0.out.size))
  clear hb
  go_wp2_with fail
  go_ret
  exact ⟨rfl, HB.out⟩

set_option maxHeartbeats 400000 in
theorem name_any (s : List UInt8) (w : World) : Calls Tryd.prog 27 #[.string ⟨s.toArray⟩] w fun e w' => e = .returned (.bool (decide (MayNm s))) ∧ w = w' := by
  have hsz : (⟨s.toArray⟩ : ByteArray).size = s.length := rfl
  by_cases h : s = []
  · subst h
    go_enter Tryd.func27, Tryd.ntmps27
    go_wp2_with fail
    go_ret
    exact ⟨rfl, rfl⟩
  · have hn : s.isEmpty = false := by simpa using h
    go_enter Tryd.func27, Tryd.ntmps27
    go_wp2_with fail
    go_ret
    refine ⟨?_, rfl⟩
    show Ending.returned (.bool (decide ((s.length : Int) ≤ 40))) = _
    congr 2
    rw [decide_eq_decide]
    exact ⟨fun g => ⟨h, by omega⟩, fun g => by have := g.2; omega⟩

def stnd (b : Bool) : Int := if b = true then 0 else 406
set_option maxHeartbeats 400000 in
theorem standing_any (b : Bool) (w : World) : Calls Tryd.prog 25 #[.bool b] w fun e w' => e = .returned (.int .i64 (stnd b)) ∧ w = w' := by
  cases b
  all_goals
    go_enter Tryd.func25, Tryd.ntmps25
    go_wp2_with fail
    go_ret
    exact ⟨rfl, rfl⟩

end Go.Proofs.YtlghphmehlmehaaDoor.Rt
