/-
  Law 12's steps with kinds below 7, one after the other: what stays.
-/
import Derived.Test.YtfmdlmhfckjniaaShStep
namespace Go.Proofs.Ytfmdlmhfckjniaa.Sh
open Go.RowKit Rg Go.Sort
set_option linter.unusedVariables false
set_option linter.unusedSimpArgs false

def op7 (o : OpD) : OpD := { o with kind := (u64m o.kind 7 : Nat) }
theorem op7_kd (o : OpD) : kdF (op7 o) < 7 := by
  have := (u64_mod o.kind 7 (by decide)).2
  unfold kdF op7
  show (((u64m o.kind 7 : Nat) : Int) % 10).toNat < 7
  omega
def play7 (l : List OpD) : Sd := playF (l.map op7)
theorem play7_may (l : List OpD) : MaySd (play7 l) := play_may _
theorem play7_snoc (l : List OpD) (i : Nat) (h : i < l.length) : play7 (l.take (i + 1)) = stepF (play7 (l.take i)) (op7 l[i]) := by
  unfold play7
  rw [List.map_take, List.map_take, play_snoc (l.map op7) i (by simpa using h), List.getElem_map]
theorem step_nx (s : Sd) (o : OpD) : s.nx ≤ (stepF s o).nx ∧ (stepF s o).nx ≤ s.nx + 1 := by
  have hp : ∀ l, (putS s l).nx = s.nx := fun l => by unfold putS; split <;> rfl
  have hg : s.nx ≤ (getS s).nx ∧ (getS s).nx ≤ s.nx + 1 := by
    unfold getS
    split
    · exact ⟨by show s.nx ≤ s.nx + 1; omega, Int.le_refl _⟩
    · exact ⟨Int.le_refl _, by omega⟩
  have ha : ∀ t, (ackS s t).nx = s.nx := fun t => by unfold ackS; split <;> rfl
  have hn : ∀ t, (nackS s t).nx = s.nx := fun t => by unfold nackS; split <;> rfl
  have hs : ∀ b, (setS s b).nx = s.nx := fun b => by unfold setS; split <;> rfl
  unfold stepF
  repeat' split
  all_goals first | exact hg | (rw [hp]; omega) | (rw [ha]; omega) | (rw [hn]; omega) | (rw [hs]; omega)
end Go.Proofs.Ytfmdlmhfckjniaa.Sh
