/-
  The document's answer: which arcs may be, walked.
-/
import Derived.Test.YtphamgnafhmelaaDoorRgOwn
import Derived.Deep.LoopGhost
namespace Go.Proofs.YtphamgnafhmelaaDoor.Rg
open Go.RowKit
set_option linter.unusedVariables false

def rmayRel (w : World) (l : List Ar) (m : Nat) (v : Value) (wr : World) : Prop :=
  ∃ i : Nat, i ≤ l.length ∧ (∀ j, j < i → MayA l j) ∧ v = .int .i64 i ∧ m = l.length - i ∧ Drew w wr

set_option maxRecDepth 100000 in
set_option maxHeartbeats 2000000 in
theorem rmay_any (a : Option Addr) (cap : Nat) (l : List Ar) (w : World) (hf : AsAt w a cap l) :
    Calls Tryd.prog 13 #[.slice a l.length cap] w fun e w' => e = .returned (.bool (decide (May l))) ∧ Drew w w' := by
  have hcap := hf.max
  have hlen := hf.len
  unfold maxLen at hcap
  by_cases h0 : l.length = 0
  · have HR := Lib.hid (long_may (.inl h0))
    have e0 : (l.length : Int) < 1 := by omega
    clear h0 hf
    go_enter Tryd.func13, Tryd.ntmps13
    go_wp2_with fail
    go_ret
    exact ⟨by rw [HR.out]; rfl, Drew.refl _⟩
  have e0 : ¬ (l.length : Int) < 1 := by omega
  by_cases h1 : 1024 < l.length
  · have HR := Lib.hid (long_may (.inr h1))
    have e1 : (1024 : Int) < (l.length : Int) := by omega
    clear hf
    go_enter Tryd.func13, Tryd.ntmps13
    go_wp2_with fail
    go_ret
    exact ⟨by rw [HR.out]; rfl, Drew.refl _⟩
  have e1 : ¬ (1024 : Int) < (l.length : Int) := by omega
  have HF := Lib.hid hf
  clear hf
  go_enter Tryd.func13, Tryd.ntmps13
  go_wp2_with fail
  go_loopg [3] l.length (rmayRel w l)
  case atStart => exact ⟨0, Nat.zero_le _, fun j h => by omega, rfl, rfl, Drew.refl _⟩
  case round =>
    obtain ⟨i, hi, hok, rfl, rfl, hd⟩ := hrel
    have HOK := Lib.hid hok
    have HD := Lib.hid hd
    have HF1 := Lib.hid (HF.out.below hd.below)
    clear hok hd
    by_cases hlt : i < l.length
    · have hlti : (i : Int) < (l.length : Int) := by omega
      have h0i : (0 : Int) ≤ (i : Int) := by omega
      obtain ⟨b, o, rfl, c0, c1⟩ := AsAt.get HF1.out i hlt
      by_cases g1 : l[i].s < 0
      · have HR := Lib.hid (not_may hlt fun hm => by have := (hm hlt).1; omega)
        repeat (first | go_values | go_skip | go_guarded | go_step | go_upon)
        go_quiet (fail)
        repeat (first | go_values | go_skip | go_guarded | go_step | go_upon)
        go_ret
        exact ⟨by rw [HR.out]; rfl, HD.out.more _⟩
      by_cases g2 : 16 ≤ l[i].s
      · have HR := Lib.hid (not_may hlt fun hm => by have := (hm hlt).2.1; omega)
        repeat (first | go_values | go_skip | go_guarded | go_step | go_upon)
        go_quiet (fail)
        repeat (first | go_values | go_skip | go_guarded | go_step | go_upon)
        go_ret
        exact ⟨by rw [HR.out]; rfl, HD.out.more _⟩
      cases i with
      | zero =>
        have hin : MayA l 0 := fun h => ⟨by omega, by omega, .inl rfl⟩
        have HIN := Lib.hid hin
        clear hin
        repeat (first | go_values | go_skip | go_guarded | go_step | go_upon)
        go_quiet (fail)
        repeat (first | go_values | go_skip | go_guarded | go_step | go_upon)
        go_roundg (l.length - 1)
        case measure => omega
        case rel => exact ⟨1, by omega, fun j h => (show j = 0 from by omega) ▸ HIN.out, rfl, by simp, HD.out.more _⟩
      | succ i =>
        obtain ⟨b', o', he, d0, _⟩ := AsAt.get HF1.out i (by omega)
        injection he with he
        injection he with e2 e3
        subst e2 e3
        have e4 : ((i + 1 : Nat) : Int) = (i : Int) + 1 := rfl
        have c5 : IntKind.i64.wrap ((i : Int) + 1 - 1) = (i : Int) := by rw [Int.add_sub_cancel]; exact IntWalk.i64_in _ (by omega)
        have e5 : (0 : Int) < (i : Int) + 1 := by omega
        have h0j : (0 : Int) ≤ (i : Int) := by omega
        have hltj : (i : Int) < (l.length : Int) := by omega
        by_cases hr : l[i].f < l[i + 1].f
        · have hin : MayA l (i + 1) := fun h => ⟨by omega, by omega, .inr hr⟩
          have HIN := Lib.hid hin
          have hr2 : ¬ l[i + 1].f ≤ l[i].f := by omega
          clear hin
          repeat (first | go_values | go_skip | go_guarded | go_step | go_upon)
          go_quiet (fail)
          repeat (first | go_values | go_skip | go_guarded | go_step | go_upon)
          go_roundg (l.length - (i + 2))
          case measure => omega
          case rel =>
            refine ⟨i + 2, by omega, fun j h => ?_, by go_num, by simp, HD.out.more _⟩
            by_cases hj : j = i + 1
            · subst hj; exact HIN.out
            · exact HOK.out j (by omega)
        · have hr2 : l[i + 1].f ≤ l[i].f := by omega
          have HR := Lib.hid (not_may hlt fun hm => by have := (hm hlt).2.2; simp at this; exact hr this)
          repeat (first | go_values | go_skip | go_guarded | go_step | go_upon)
          go_quiet (fail)
          repeat (first | go_values | go_skip | go_guarded | go_step | go_upon)
          go_ret
          exact ⟨by rw [HR.out]; rfl, HD.out.more _⟩
    · obtain rfl : i = l.length := by omega
      have HR := Lib.hid (all_may (by omega) (by omega) HOK.out)
      go_wp2_with fail
      go_ret
      exact ⟨by rw [HR.out]; rfl, HD.out⟩

end Go.Proofs.YtphamgnafhmelaaDoor.Rg
