/-
  A scope with labels, its jumps followed one by one: at most n of them.
-/
import Derived.Test.YtiobcgolcoocnaaGreatDoorScope
namespace Go.Proofs.YtiobcgolcoocnaaGreatDoor
set_option linter.unusedVariables false

/-- As Q; by a goto, what stands behind the label, with one jump less. -/
def unroll (P : Program) (c : Code) (Q : Exit → Act → World → Prop) : Nat → Exit → Act → World → Prop
  | 0 => fun e a w => match e with | .goto _ => False | e => Q e a w
  | n + 1 => fun e a w => match e with | .goto l => ∃ rest, findLabel c l = some (Code.skip.seq rest) ∧ rest.wp P (unroll P c Q n) a w | e => Q e a w
theorem unroll_ret {P : Program} {c : Code} {Q : Exit → Act → World → Prop} {n : Nat} {a : Act} {w : World} (h : Q .ret a w) : unroll P c Q n .ret a w := by cases n <;> exact h
theorem unroll_goto {P : Program} {c : Code} {Q : Exit → Act → World → Prop} {n : Nat} {l : Nat} {a : Act} {w : World} (rest : Code) (hf : findLabel c l = some (Code.skip.seq rest)) (h : rest.wp P (unroll P c Q n) a w) : unroll P c Q (n + 1) (.goto l) a w := ⟨rest, hf, h⟩

theorem wp_scope_unroll {P : Program} {a : Act} {w : World} {Q : Exit → Act → World → Prop} {c : Code} (n : Nat) (h : c.wp P (unroll P c Q n) a w) : (Code.scope c).wp P Q a w := by
  refine wp_scope_many (fun l k a w => ∃ rest, findLabel c l = some (Code.skip.seq rest) ∧ rest.wp P (unroll P c Q k) a w) ?_ ?_
  · intro H hJ _
    refine Code.wp_mono (fun e a' w' hq => ?_) h
    cases n with
    | zero => cases e with
      | goto l => exact hq.elim
      | _ => exact hq
    | succ k => cases e with
      | goto l => exact hJ l k a' w' hq
      | _ => exact hq
  · rintro l k a' w' ⟨rest, hf, hr⟩
    refine ⟨rest, hf, fun H hH => ?_⟩
    refine Code.wp_mono (fun e a2 w2 hq => ?_) hr
    cases k with
    | zero => cases e with
      | goto l => exact hq.elim
      | _ => exact hq
    | succ m => cases e with
      | goto l' => exact hH l' m a2 w2 (Nat.lt_succ_self m) hq
      | _ => exact hq

end Go.Proofs.YtiobcgolcoocnaaGreatDoor
