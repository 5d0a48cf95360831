/-
  A goto loop by a relation that is numbered: each way back lowers the number. 'first' is handed what holds at the label.
-/
import Derived.Test.YtiobcgolcoocnaaGreatDoorRows
import Derived.WalkKit
import Derived.ScopeJumps
namespace Go.Proofs.YtiobcgolcoocnaaGreatDoor
set_option linter.unusedVariables false

theorem least_of {p : Nat → Prop} (h : ∃ n, p n) : ∃ n, p n ∧ ∀ m, p m → n ≤ m := by
  obtain ⟨n, hn⟩ := h
  induction n using Nat.strongRecOn with
  | _ n ih =>
    by_cases hs : ∃ m, m < n ∧ p m
    · obtain ⟨m, hm, hp⟩ := hs
      exact ih m hm hp
    · exact ⟨n, hn, fun m hm => Nat.le_of_not_lt fun hlt => hs ⟨m, hlt, hm⟩⟩

theorem wp_scope_ghost {P : Program} {a : Act} {w : World} {Q : Exit → Act → World → Prop} {c rest : Code} (l : Nat) (J : Nat → Act → World → Prop) (hf : findLabel c l = some (Code.skip.seq rest))
    (first : ∀ H : Act → World → Prop, (∀ n a w, J n a w → rest.wp P (Exit.jump l H Q) a w) → c.wp P (Exit.jump l H Q) a w)
    (pass : ∀ n a w, J n a w → ∀ H : Act → World → Prop, (∀ m a' w', m < n → J m a' w' → H a' w') → rest.wp P (Exit.jump l H Q) a w) : (Code.scope c).wp P Q a w := by
  classical
  let J' : Act → World → Prop := fun a w => ∃ n, J n a w
  let μ : Act → World → Nat := fun a w => if h : ∃ n, J n a w then Classical.choose (least_of h) else 0
  have hpass : ∀ a w, J' a w → rest.wp P (Exit.jump l (fun a' w' => J' a' w' ∧ μ a' w' < μ a w) Q) a w := by
    intro a w h
    have hs := (Classical.choose_spec (least_of h)).1
    have hμ : μ a w = Classical.choose (least_of h) := dif_pos h
    refine pass _ a w hs _ fun m a' w' hm hJ => ⟨⟨m, hJ⟩, ?_⟩
    rw [hμ]
    have hle : μ a' w' ≤ m := by
      show (if h : ∃ n, J n a' w' then Classical.choose (least_of h) else 0) ≤ m
      rw [dif_pos ⟨m, hJ⟩]
      exact (Classical.choose_spec (least_of (p := fun n => J n a' w') ⟨m, hJ⟩)).2 m hJ
    omega
  refine wp_scope_jumps l J' μ hf (first J' fun n a w h => ?_) (fun a w h => wp_seq (wp_skip (hpass a w h)))
  refine Code.wp_mono (fun e a' w' hq => ?_) (hpass a w ⟨n, h⟩)
  cases e with
  | goto l' => exact ⟨hq.1, hq.2.1⟩
  | _ => exact hq

/-- As Q; by a goto to label l: J l. -/
def AheadQ (J : Nat → Act → World → Prop) (Q : Exit → Act → World → Prop) : Exit → Act → World → Prop
  | .goto l, a, w => J l a w
  | e, a, w => Q e a w
theorem ahead_ret {J : Nat → Act → World → Prop} {Q : Exit → Act → World → Prop} {a : Act} {w : World} (h : Q .ret a w) : AheadQ J Q .ret a w := h
/-- A scope whose jumps all go ahead: behind each label no goto is met any more. -/
theorem wp_scope_ahead {P : Program} {a : Act} {w : World} {Q : Exit → Act → World → Prop} {c : Code} (J : Nat → Act → World → Prop) (first : c.wp P (AheadQ J Q) a w)
    (pass : ∀ l a w, J l a w → ∃ rest, findLabel c l = some rest ∧ rest.wp P (Exit.noGoto Q) a w) : (Code.scope c).wp P Q a w := by
  intro b k cs
  obtain ⟨e, a₁, w₁, hq, harr⟩ := first b (.inScope c :: k) cs
  cases e with
  | normal => exact ⟨.normal, a₁, w₁, hq, .head step_scope (Steps.trans harr (.one step_inScope))⟩
  | exit id => exact ⟨.exit id, a₁, w₁, hq, fun k' hk => .head step_scope (harr k' (by simp [exitTo, hk]))⟩
  | goto l' =>
    obtain ⟨rest, hf, hp⟩ := pass l' a₁ w₁ hq
    have hg : gotoIn l' (.inScope c :: k) = some (.code rest :: .inScope c :: k) := by simp [gotoIn, hf]
    obtain ⟨e, a₂, w₂, hq, harr2⟩ := hp b (.inScope c :: k) cs
    have hh := Steps.head step_scope (harr _ hg)
    cases e with
    | normal => exact ⟨.normal, a₂, w₂, hq, Steps.trans hh (Steps.trans harr2 (.one step_inScope))⟩
    | exit id => exact ⟨.exit id, a₂, w₂, hq, fun k' hk => Steps.trans hh (harr2 k' (by simp [exitTo, hk]))⟩
    | goto l => exact hq.elim
    | ret => exact ⟨_, a₂, w₂, hq, .of_steps hh harr2⟩
    | panic ch => exact ⟨_, a₂, w₂, hq, .of_steps hh harr2⟩
    | outgrown => exact ⟨_, a₂, w₂, hq, .of_steps hh harr2⟩
  | ret => exact ⟨_, a₁, w₁, hq, .of_steps (.one step_scope) harr⟩
  | panic ch => exact ⟨_, a₁, w₁, hq, .of_steps (.one step_scope) harr⟩
  | outgrown => exact ⟨_, a₁, w₁, hq, .of_steps (.one step_scope) harr⟩

theorem ahead_mono {H H' : Nat → Act → World → Prop} {Q : Exit → Act → World → Prop} (h : ∀ l a w, H l a w → H' l a w) : ∀ e a w, AheadQ H Q e a w → AheadQ H' Q e a w := by
  intro e a w hq
  cases e with
  | goto l => exact h l a w hq
  | _ => exact hq
/-- A scope with several labels: what holds at each, numbered; each way on to a label lowers the number. 'first' is handed what holds behind a label that it comes to. -/
theorem wp_scope_many {P : Program} {a : Act} {w : World} {Q : Exit → Act → World → Prop} {c : Code} (J : Nat → Nat → Act → World → Prop)
    (first : ∀ H : Nat → Act → World → Prop, (∀ l n a w, J l n a w → H l a w) → (∀ l n a w rest, findLabel c l = some (Code.skip.seq rest) → J l n a w → rest.wp P (AheadQ H Q) a w) → c.wp P (AheadQ H Q) a w)
    (pass : ∀ l n a w, J l n a w → ∃ rest, findLabel c l = some (Code.skip.seq rest) ∧ ∀ H : Nat → Act → World → Prop, (∀ l' m a' w', m < n → J l' m a' w' → H l' a' w') → rest.wp P (AheadQ H Q) a w) : (Code.scope c).wp P Q a w := by
  intro b k cs
  have key : ∀ n l a w, J l n a w → ∀ s : Machine, (∀ k', gotoIn l (.inScope c :: k) = some k' → Steps P s (lone (b.at a k') cs w)) → ∃ e a' w', Q e a' w' ∧ Arrives P s b k cs e a' w' := by
    intro n
    induction n using Nat.strongRecOn with
    | _ n ih =>
      intro l a w hJ s hs
      obtain ⟨rest, hf, hp⟩ := pass l n a w hJ
      have hg : gotoIn l (.inScope c :: k) = some (.code (Code.skip.seq rest) :: .inScope c :: k) := by simp [gotoIn, hf]
      have hh := hs _ hg
      obtain ⟨e, a₂, w₂, hq, harr⟩ := wp_seq (wp_skip (hp (fun l' a' w' => ∃ m, m < n ∧ J l' m a' w') (fun l' m a' w' hm hj => ⟨m, hm, hj⟩))) b (.inScope c :: k) cs
      cases e with
      | normal => exact ⟨.normal, a₂, w₂, hq, Steps.trans hh (Steps.trans harr (.one step_inScope))⟩
      | exit id => exact ⟨.exit id, a₂, w₂, hq, fun k' hk => Steps.trans hh (harr k' (by simp [exitTo, hk]))⟩
      | goto l' =>
        obtain ⟨m, hm, hj⟩ := hq
        exact ih m hm l' a₂ w₂ hj s fun k' hk' => Steps.trans hh (harr k' hk')
      | ret => exact ⟨_, a₂, w₂, hq, .of_steps hh harr⟩
      | panic ch => exact ⟨_, a₂, w₂, hq, .of_steps hh harr⟩
      | outgrown => exact ⟨_, a₂, w₂, hq, .of_steps hh harr⟩
  obtain ⟨e, a₁, w₁, hq, harr⟩ := first (fun l a w => ∃ n, J l n a w) (fun l n a w h => ⟨n, h⟩) (fun l n a w rest hf h => by
    obtain ⟨rest', hf', hp⟩ := pass l n a w h
    rw [hf] at hf'
    obtain rfl : rest = rest' := by
      have := Option.some.inj hf'
      injection this
    exact Code.wp_mono (ahead_mono fun l a w ⟨m, hj⟩ => ⟨m, hj⟩) (hp (fun l a w => ∃ m, J l m a w) fun l' m a' w' _ hj => ⟨m, hj⟩)) b (.inScope c :: k) cs
  cases e with
  | normal => exact ⟨.normal, a₁, w₁, hq, .head step_scope (Steps.trans harr (.one step_inScope))⟩
  | exit id => exact ⟨.exit id, a₁, w₁, hq, fun k' hk => .head step_scope (harr k' (by simp [exitTo, hk]))⟩
  | goto l' =>
    obtain ⟨n, hj⟩ := hq
    exact key n l' a₁ w₁ hj _ fun k' hk' => .head step_scope (harr k' hk')
  | ret => exact ⟨_, a₁, w₁, hq, .of_steps (.one step_scope) harr⟩
  | panic ch => exact ⟨_, a₁, w₁, hq, .of_steps (.one step_scope) harr⟩
  | outgrown => exact ⟨_, a₁, w₁, hq, .of_steps (.one step_scope) harr⟩

/-- As wp_scope_many, where the code behind a label also falls through to a later label, at a lower number. -/
theorem wp_scope_falls {P : Program} {a : Act} {w : World} {Q : Exit → Act → World → Prop} {c : Code} (J : Nat → Nat → Act → World → Prop)
    (first : ∀ H : Nat → Act → World → Prop, (∀ l n a w, J l n a w → H l a w) → (∀ l n a w rest, findLabel c l = some (Code.skip.seq rest) → J l n a w → rest.wp P (AheadQ H Q) a w) → c.wp P (AheadQ H Q) a w)
    (pass : ∀ l n a w, J l n a w → ∃ rest, findLabel c l = some (Code.skip.seq rest) ∧ ∀ H : Nat → Act → World → Prop, (∀ l' m a' w', m < n → J l' m a' w' → H l' a' w') →
      (∀ l' m a' w' rest', m < n → findLabel c l' = some (Code.skip.seq rest') → J l' m a' w' → rest'.wp P (AheadQ H Q) a' w') → rest.wp P (AheadQ H Q) a w) : (Code.scope c).wp P Q a w := by
  have key : ∀ n l a w, J l n a w → ∃ rest, findLabel c l = some (Code.skip.seq rest) ∧ rest.wp P (AheadQ (fun l' a' w' => ∃ m, m < n ∧ J l' m a' w') Q) a w := by
    intro n
    induction n using Nat.strongRecOn with
    | _ n ih =>
      intro l a w hJ
      obtain ⟨rest, hf, hp⟩ := pass l n a w hJ
      refine ⟨rest, hf, hp _ (fun l' m a' w' hm hj => ⟨m, hm, hj⟩) fun l' m a' w' rest' hm hf' hj => ?_⟩
      obtain ⟨rest2, hf2, h2⟩ := ih m hm l' a' w' hj
      rw [hf'] at hf2
      obtain rfl : rest' = rest2 := by
        have := Option.some.inj hf2
        injection this
      exact Code.wp_mono (ahead_mono fun l a w ⟨k, hk, hj⟩ => ⟨k, by omega, hj⟩) h2
  refine wp_scope_many J first fun l n a w hJ => ?_
  obtain ⟨rest, hf, h⟩ := key n l a w hJ
  exact ⟨rest, hf, fun H hH => Code.wp_mono (ahead_mono fun l a w ⟨m, hm, hj⟩ => hH l m a w hm hj) h⟩

end Go.Proofs.YtiobcgolcoocnaaGreatDoor
