/-
  slices.CompactFunc over arcs of which no two neighbours begin at one point: they are as they were.
-/
import Derived.Test.YtkcccfllkgjdiaaDoorRgCmp
import Derived.Lib.AppendIntMem
namespace Go.Proofs.YtkcccfllkgjdiaaDoor.Rg
open Go.RowKit
set_option linter.unusedVariables false

def compRel (w : World) (l : List Ar) (m : Nat) (v : Value) (wr : World) : Prop :=
  ∃ i : Nat, 1 ≤ i ∧ i ≤ l.length ∧ v = .int .i64 i ∧ m = l.length - i ∧ Below w.heap.size w wr
open Go.Sort in
set_option maxRecDepth 100000 in
set_option maxHeartbeats 2000000 in
theorem compact_any (a : Option Addr) (cap : Nat) (l : List Ar) (w : World) (hf : AsAt w a cap l) (hap : ∀ i (h : i + 1 < l.length), l[i + 1].f ≠ l[i].f) :
    Calls Tryd.prog 55 #[.slice a l.length cap, .func (.func 56) #[] #[]] w fun e w' => e = .returned (.slice a l.length cap) ∧ Below w.heap.size w w' := by
  have hcap := hf.max
  have hlen := hf.len
  unfold maxLen at hcap
  have mixed : Tryd.prog.follows .mixedOrders = true := by kernel_rfl
  by_cases h2 : l.length < 2
  · have h2i : (l.length : Int) < 2 := by omega
    clear hf hap
    go_enter Tryd.func55, Tryd.ntmps55
    go_wp2_with fail
    go_ret
    exact ⟨rfl, Below.refl _ _⟩
  have h2i : ¬ (l.length : Int) < 2 := by omega
  have HF := Lib.hid hf
  have HAP := Lib.hid hap
  clear hf hap
  go_enter Tryd.func55, Tryd.ntmps55
  go_wp2_with fail
  go_loopg [5] (l.length - 1) (compRel w l)
  case atStart => exact ⟨1, by omega, by omega, rfl, rfl, Below.refl _ _⟩
  case round =>
    obtain ⟨i, hi1, hi, rfl, rfl, hb⟩ := hrel
    have HB := Lib.hid hb
    have HF1 := Lib.hid (HF.out.below hb)
    clear hb
    by_cases hlt : i < l.length
    · obtain ⟨j, rfl⟩ : ∃ j, i = j + 1 := ⟨i - 1, by omega⟩
      have hlti : (j : Int) + 1 < (l.length : Int) := by omega
      have hltj : (j : Int) < (l.length : Int) := by omega
      have e4 : ((j + 1 : Nat) : Int) = (j : Int) + 1 := rfl
      have c5 : IntKind.i64.wrap ((j : Int) + 1 - 1) = (j : Int) := by rw [Int.add_sub_cancel]; exact IntWalk.i64_in _ (by omega)
      have c6 : IntKind.i64.wrap (j : Int) = (j : Int) := IntWalk.i64_in _ (by omega)
      have h0j : (0 : Int) ≤ (j : Int) := by omega
      have h0i : (0 : Int) ≤ (j : Int) + 1 := by omega
      obtain ⟨b, o, rfl, c0, c1⟩ := AsAt.get HF1.out (j + 1) hlt
      obtain ⟨b', o', he, d0, d1⟩ := AsAt.get HF1.out j (by omega)
      injection he with he
      injection he with e2 e3
      subst e2 e3
      have hbl : b < wr.heap.size := lt_of_cell c0
      have k0 := fun n os => cell_grown (a := ⟨b, o + (j + 1) * 2, none⟩) hbl c0 n os
      have k1 := fun n os => cell_grown (a := ⟨b, o + (j + 1) * 2 + 1, none⟩) hbl c1 n os
      have k2 := fun n os => cell_grown (a := ⟨b, o + j * 2, none⟩) hbl d0 n os
      have k3 := fun n os => cell_grown (a := ⟨b, o + j * 2 + 1, none⟩) hbl d1 n os
      have hal := Lib.hid fun wx => alike_any l[j + 1] l[j] wx
      rw [show (l[j + 1].f == l[j].f) = false by rw [beq_eq_false_iff_ne]; exact HAP.out j hlt] at hal
      clear c0 c1 d0 d1
      go_wp2_with fail
      go_quiet_grown ((go_at_call 56; exact Calls.grown_of (hal.out _)))
      have HB2 := Lib.hid (HB.out.trans ((Lib.below_grow wr.heap.size wr (Nat.le_refl _) nq osq).mono HB.out.size))
      generalize grow (wr.drewN nq) osq = w2 at HB2 ⊢
      clear k0 k1 k2 k3
      go_wp2_with fail
      go_roundg (l.length - (j + 2))
      case measure => omega
      case rel => exact ⟨j + 2, by omega, by omega, by go_num, by simp, HB2.out⟩
    · obtain rfl : i = l.length := by omega
      go_wp2_with fail
      go_ret
      exact ⟨rfl, HB.out⟩

end Go.Proofs.YtkcccfllkgjdiaaDoor.Rg
