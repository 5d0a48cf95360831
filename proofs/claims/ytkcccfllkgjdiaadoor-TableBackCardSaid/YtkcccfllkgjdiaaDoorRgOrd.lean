/-
  How arcs are compared by ring.lay: its two closures, cmp.Compare, cmp.Or, walked.
-/
import Derived.Test.YtkcccfllkgjdiaaDoorRgCmp
import Derived.Test.YtkcccfllkgjdiaaDoorShelf
import Derived.Shelf.SlSortCmp.QuietGrown
import Derived.StillTailTactics
import Derived.Deep.LoopGhost
import Derived.BigRegion
namespace Go.Proofs.YtkcccfllkgjdiaaDoor.Rg
open Go.RowKit
set_option linter.unusedVariables false

open Go.Sort Go.Lib in
theorem grow_drew (w : World) (os : Array Obj) (q : Nat) : (grow w os).drewN q = grow (w.drewN q) os := rfl
open Go.Sort Go.Lib in
set_option maxRecDepth 100000 in
set_option maxHeartbeats 1000000 in
theorem order_any (a b : Ar) (W : World) : Calls Tryd.prog 51 #[.agg #[.int .u32 a.f, .int .i64 a.s], .agg #[.int .u32 b.f, .int .i64 b.s]] W fun e w' => e = .returned (.int .i64 (cfA a b)) ∧ ∃ q os', w' = grow (W.drewN q) os' := by
  have h1 := fun wx => (cmp_u32 a.f b.f wx).mono fun e w' h => (⟨h.1, h.2.symm⟩ : _ ∧ w' = wx)
  have h2 := fun wx => (cmp_int a.s b.s wx).mono fun e w' h => (⟨h.1, h.2.symm⟩ : _ ∧ w' = wx)
  unfold cfA
  generalize compareInt a.f b.f = x at *
  generalize compareInt a.s b.s = y at *
  have h3 := Lib.hid fun (bl : Nat) (wx : World) h0 h1 => or_any bl x y wx h0 h1
  generalize orI x y = r at *
  have H1 := Lib.hid h1
  have H2 := Lib.hid h2
  clear h1 h2
  go_enter Tryd.func51, Tryd.ntmps51
  go_wp2_with fail
  obtain ⟨W2, hW2⟩ : ∃ W2, W2 = (W.alloc (.cells #[.int .u32 a.f, .int .i64 a.s] 52)).alloc (.cells #[.int .u32 b.f, .int .i64 b.s] 52) := ⟨_, rfl⟩
  have c0 : W2.cell? ⟨W.heap.size, 0, none⟩ = some (.int .u32 a.f) := by rw [hW2]; simp
  have c1 : W2.cell? ⟨W.heap.size, 1, none⟩ = some (.int .i64 a.s) := by rw [hW2]; simp
  have d0 : W2.cell? ⟨W.heap.size + 1, 0, none⟩ = some (.int .u32 b.f) := by rw [hW2]; simp
  have d1 : W2.cell? ⟨W.heap.size + 1, 1, none⟩ = some (.int .i64 b.s) := by rw [hW2]; simp
  rw [← hW2]
  have HW2 := Lib.hid hW2
  clear hW2
  refine wp_region_still_tail 10 (by kernel_rfl) (by kernel_rfl) ?_
  simp only [List.take_succ_cons, List.take_zero, List.drop_succ_cons, List.drop_zero]
  still_step
  still_step
  still_step
  still_step
  still_call (H1.out _)
  still_step
  still_step
  still_step
  still_step
  still_call (H2.out _)
  refine wpStill_nil ?_
  change wpList _ _ _ _ _ W2.drew
  clear c0 c1 d0 d1
  obtain ⟨W3, hW3⟩ : ∃ W3, W3 = W2.drew := ⟨_, rfl⟩
  rw [← hW3]
  have HW3 := Lib.hid hW3
  clear hW3
  go_wp2_with (go_at_call 52; refine (h3.out _ _ (by simp) (by simp)).mono ?_; rintro e w1 ⟨rfl, rfl⟩)
  go_ret
  exact ⟨rfl, 1, _, by rw [HW3.out, HW2.out, alloc_eq_grow, alloc_eq_grow, alloc_eq_grow]; show grow (grow (grow (W.drewN 1) _) _) _ = _; rw [grow_grow, grow_grow]⟩

end Go.Proofs.YtkcccfllkgjdiaaDoor.Rg
