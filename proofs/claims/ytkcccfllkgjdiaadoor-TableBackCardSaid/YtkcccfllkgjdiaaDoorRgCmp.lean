/-
  How arcs are compared by ring.lay: its two closures, cmp.Compare, cmp.Or, walked.
-/
import Derived.Test.YtkcccfllkgjdiaaDoorRgMay
import Derived.Test.YtkcccfllkgjdiaaDoorShelf
import Derived.Shelf.SlSortCmp.QuietGrown
import Derived.Deep.LoopGhost
import Derived.BigRegion
namespace Go.Proofs.YtkcccfllkgjdiaaDoor.Rg
open Go.RowKit
set_option linter.unusedVariables false

set_option maxHeartbeats 400000 in
theorem nan_u32 (x : Int) (w : World) :
    Calls Tryd.prog 65 #[.int .u32 x] w fun e w' => e = .returned (.bool false) ∧ w = w' := by
  have h : (x != x) = false := by simp
  go_enter Tryd.func65, Tryd.ntmps65
  go_wp2_with fail
  go_ret
  exact ⟨rfl, rfl⟩

set_option maxHeartbeats 400000 in
theorem cmp_u32 (x y : Int) (w : World) :
    Calls Tryd.prog 53 #[.int .u32 x, .int .u32 y] w fun e w' => e = .returned (.int .i64 (Lib.compareInt x y)) ∧ w = w' := by
  unfold Lib.compareInt
  by_cases h1 : x < y
  · rw [if_pos h1]
    go_enter Tryd.func53, Tryd.ntmps53
    go_wp2_with (go_at_call 65; refine (nan_u32 _ _).mono ?_; rintro e w1 ⟨rfl, rfl⟩)
    go_ret
    exact ⟨rfl, rfl⟩
  · rw [if_neg h1]
    by_cases h2 : y < x
    · rw [if_pos h2]
      go_enter Tryd.func53, Tryd.ntmps53
      go_wp2_with (go_at_call 65; refine (nan_u32 _ _).mono ?_; rintro e w1 ⟨rfl, rfl⟩)
      go_ret
      exact ⟨rfl, rfl⟩
    · rw [if_neg h2]
      go_enter Tryd.func53, Tryd.ntmps53
      go_wp2_with (go_at_call 65; refine (nan_u32 _ _).mono ?_; rintro e w1 ⟨rfl, rfl⟩)
      go_ret
      exact ⟨rfl, rfl⟩
theorem cmp_int (x y : Int) (w : World) :
    Calls Tryd.prog 54 #[.int .i64 x, .int .i64 y] w fun e w' => e = .returned (.int .i64 (Lib.compareInt x y)) ∧ w = w' :=
  (Tryd.cmp_Compare_int x y w).mono fun e w' h => ⟨h.1, h.2.symm⟩

def orI (x y : Int) : Int := if x = 0 then y else x
def orRel (x y : Int) (w : World) (m : Nat) (u v : Value) (wr : World) : Prop :=
  wr = w ∧ ((v = .int .i64 0 ∧ m = 2) ∨ (v = .int .i64 1 ∧ m = 1 ∧ x = 0) ∨ (v = .int .i64 2 ∧ m = 0 ∧ x = 0 ∧ y = 0))
set_option maxHeartbeats 1000000 in
theorem or_any (b : Nat) (x y : Int) (w : World) (h0 : w.cell? ⟨b, 0, none⟩ = some (.int .i64 x)) (h1 : w.cell? ⟨b, 1, none⟩ = some (.int .i64 y)) :
    Calls Tryd.prog 52 #[.slice (some ⟨b, 0, none⟩) 2 2] w fun e w' => e = .returned (.int .i64 (orI x y)) ∧ w = w' := by
  have HR : Hid ((x ≠ 0 → orI x y = x) ∧ (x = 0 → orI x y = y)) := Lib.hid ⟨fun h => if_neg h, fun h => if_pos h⟩
  go_enter Tryd.func52, Tryd.ntmps52
  go_wp2_with fail
  go_loopg [5, 8] 2 (orRel x y w)
  case atStart => exact ⟨rfl, .inl ⟨rfl, rfl⟩⟩
  case round =>
    obtain ⟨rfl, ⟨rfl, rfl⟩ | ⟨rfl, rfl, hx⟩ | ⟨rfl, rfl, hx, hy⟩⟩ := hrel
    · by_cases hx : x = 0
      · have hq : (x != 0) = false := by simp [hx]
        have HX := Lib.hid hx
        clear hx
        go_wp2_with fail
        go_roundg 1
        case measure => omega
        case rel => exact ⟨rfl, .inr (.inl ⟨rfl, rfl, HX.out⟩)⟩
      · have hq : (x != 0) = true := by simp [hx]
        have HX := Lib.hid (HR.out.1 hx)
        clear hx
        go_wp2_with fail
        go_ret
        exact ⟨by rw [HX.out]; rfl, rfl⟩
    · have HX := Lib.hid hx
      have HY := Lib.hid (HR.out.2 hx)
      clear hx
      by_cases hy : y = 0
      · have hq : (y != 0) = false := by simp [hy]
        have HZ := Lib.hid hy
        clear hy
        go_wp2_with fail
        go_roundg 0
        case measure => omega
        case rel => exact ⟨rfl, .inr (.inr ⟨rfl, rfl, HX.out, HZ.out⟩)⟩
      · have hq : (y != 0) = true := by simp [hy]
        clear hy
        go_wp2_with fail
        go_ret
        exact ⟨by rw [HY.out]; rfl, rfl⟩
    · have HY : Hid (orI x y = 0) := Lib.hid (by rw [HR.out.2 hx, hy])
      clear hx hy
      go_wp2_with fail
      go_ret
      exact ⟨by rw [HY.out]; rfl, rfl⟩

/-- how two arcs stand. -/
def cfA (a b : Ar) : Int := orI (Lib.compareInt a.f b.f) (Lib.compareInt a.s b.s)
open Go.Sort in
set_option maxHeartbeats 400000 in
theorem alike_any (a b : Ar) (w : World) :
    Calls Tryd.prog 56 #[.agg #[.int .u32 a.f, .int .i64 a.s], .agg #[.int .u32 b.f, .int .i64 b.s]] w fun e w' => e = .returned (.bool (a.f == b.f)) ∧ ∃ q os', w' = grow (w.drewN q) os' := by
  go_enter Tryd.func56, Tryd.ntmps56
  go_wp2_with fail
  go_ret
  exact ⟨rfl, 0, _, by rw [alloc_eq_grow, alloc_eq_grow, grow_grow]; rfl⟩

end Go.Proofs.YtkcccfllkgjdiaaDoor.Rg
