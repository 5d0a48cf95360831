/-
  Laws of the walk for a float's sign, for sums, products and quotients of floats where one may be no number, and the relation that such sums keep.
-/
import Derived.WalkKit
import Derived.WalkSpells
import Derived.WalkLawsBesides
import Derived.Deep.Draws
import Derived.ScopeJumps
import Derived.Test.YtkcccfllkgjdiaaDoorFl
namespace Go.Proofs.YtkcccfllkgjdiaaDoor
open Go.RowKit

/-- the least number of passes. -/
theorem least_of (p : Nat → Prop) (h : ∃ m, p m) : ∃ m, p m ∧ ∀ k, p k → m ≤ k := by
  obtain ⟨m, hm⟩ := h
  induction m using Nat.strongRecOn with
  | _ m ih =>
    by_cases hk : ∃ k, p k ∧ k < m
    · obtain ⟨k, hk, hlt⟩ := hk
      exact ih k hlt hk
    · exact ⟨m, hm, fun k hp => Nat.le_of_not_lt fun hlt => hk ⟨k, hp, hlt⟩⟩

/-- so many passes from a label, one behind the other. -/
def passes (P : Program) (l : Nat) (rest : Code) (Q : Exit → Act → World → Prop) : Nat → Act → World → Prop
  | 0, _, _ => False
  | n + 1, a, w => rest.wp P (Exit.jump l (passes P l rest Q n) Q) a w

theorem passes_succ {P : Program} {l : Nat} {rest : Code} {Q : Exit → Act → World → Prop} {n : Nat} {a : Act} {w : World} :
    passes P l rest Q (n + 1) a w = rest.wp P (Exit.jump l (passes P l rest Q n) Q) a w := rfl

theorem jump_mono {l : Nat} {J J' : Act → World → Prop} {Q : Exit → Act → World → Prop} (h : ∀ a w, J a w → J' a w) (e : Exit) (a : Act) (w : World) (hj : Exit.jump l J Q e a w) : Exit.jump l J' Q e a w := by
  cases e with
  | goto l' => exact ⟨hj.1, h _ _ hj.2⟩
  | normal => exact hj
  | exit id => exact hj
  | ret => exact hj
  | panic ch => exact hj
  | outgrown => exact hj

theorem jump_ret {l : Nat} {J : Act → World → Prop} {Q : Exit → Act → World → Prop} {a : Act} {w : World} (h : Q .ret a w) : Exit.jump l J Q .ret a w := h

/-- A SCOPE WITH A LABEL, PASSED A KNOWN NUMBER OF TIMES. -/
theorem wp_scope_passes {P : Program} {a : Act} {w : World} {Q : Exit → Act → World → Prop} {c rest : Code} (n : Nat) (l : Nat) (hf : findLabel c l = some rest)
    (first : c.wp P (Exit.jump l (passes P l rest Q n) Q) a w) : (Code.scope c).wp P Q a w := by
  refine wp_scope_jumps l (fun a w => ∃ m, passes P l rest Q m a w) (fun a w => Classical.epsilon fun m => passes P l rest Q m a w ∧ ∀ k, passes P l rest Q k a w → m ≤ k) hf ?_ ?_
  · exact wp_mono first (jump_mono fun a w h => ⟨n, h⟩)
  · intro a w hJ
    have hm := Classical.epsilon_spec (least_of _ hJ)
    generalize (Classical.epsilon fun m => passes P l rest Q m a w ∧ ∀ k, passes P l rest Q k a w → m ≤ k) = m at hm
    obtain ⟨hm, _⟩ := hm
    cases m with
    | zero => exact hm.elim
    | succ m =>
      rw [passes_succ] at hm
      refine wp_mono hm (jump_mono fun a' w' h => ?_)
      refine ⟨⟨m, h⟩, ?_⟩
      have hs := Classical.epsilon_spec (least_of (fun m => passes P l rest Q m a' w') ⟨m, h⟩)
      exact Nat.lt_succ_of_le (hs.2 m h)

@[go_sem] theorem lt_two (n : Nat) : n < n + 1 + 1 := by omega
@[go_sem] theorem lt_three (n : Nat) : n < n + 1 + 1 + 1 := by omega

/-- a float, its sign turned. -/
def ng (b : Nat) : Nat := Op.negFloat .f64 b

@[go_sem] theorem unary_neg_float (b : Nat) : Op.unary .neg (.float .f64 b) = pure (.float .f64 (ng b)) := rfl

section
variable {P : Program} {w : World} {a : Addr} {m : Mode}
@[go_sem] theorem run_store_float (k : FloatKind) (n : Nat) : (store a (.float k n) m).run P w = stored P w a (.float k n) m := run_store P w a _ m rfl
@[go_sem] theorem run_store_complex (k : FloatKind) (x y : Nat) : (store a (.complex k x y) m).run P w = stored P w a (.complex k x y) m := run_store P w a _ m rfl
end

theorem cell_set_same (w : World) (a : Addr) (v : Value) (h : (w.cell? a).isSome = true) : (w.setCell a v).cell? a = some v := by
  obtain ⟨u, hu⟩ := Option.isSome_iff_exists.1 h
  exact World.cell?_setCell_same _ _ _ hu

/-- the world under one name, with what is known of it. -/
theorem name_world {P : Program} {c : Code} {Q : Exit → Act → World → Prop} {a : Act} {w : World} (S : World → Prop) (hS : S w) (h : ∀ w', S w' → c.wp P Q a w') : c.wp P Q a w := h w hS

/-- how often the tape is asked. -/
def asks (o : Option Nat) : Nat := if o.isSome then 0 else 1
/-- what comes of it. -/
def gets (w : World) (x y : Nat) (o : Option Nat) : Nat :=
  match o with
  | some r => r
  | none => (Question.nanBits .f64 x y).cut (w.tape w.drawn (.nanBits .f64 x y))

def addA (x y : Nat) : Nat := asks (Ieee.double.add x y)
def addB (w : World) (x y : Nat) : Nat := gets w x y (Ieee.double.add x y)
def mulA (x y : Nat) : Nat := asks (Ieee.double.mul x y)
def mulB (w : World) (x y : Nat) : Nat := gets w x y (Ieee.double.mul x y)
def divA (x y : Nat) : Nat := asks (Ieee.double.div x y)
def divB (w : World) (x y : Nat) : Nat := gets w x y (Ieee.double.div x y)

@[go_sem] theorem drewN_zero' (w : World) : w.drewN 0 = w := rfl

section
variable {P : Program} (w : World)
theorem run_fadd (x y : Nat) : (Op.floatArith .add .f64 x y).run P w = .ok (.float .f64 (addB w x y)) (w.drewN (addA x y)) := by
  unfold addB addA gets asks
  cases h : Ieee.double.add x y with
  | some r => simp [Op.floatArith, FloatKind.format, h]; rfl
  | none => simp [Op.floatArith, FloatKind.format, h, Question.forced]; rfl
theorem run_fmul (x y : Nat) : (Op.floatArith .mul .f64 x y).run P w = .ok (.float .f64 (mulB w x y)) (w.drewN (mulA x y)) := by
  unfold mulB mulA gets asks
  cases h : Ieee.double.mul x y with
  | some r => simp [Op.floatArith, FloatKind.format, h]; rfl
  | none => simp [Op.floatArith, FloatKind.format, h, Question.forced]; rfl
theorem run_fdiv (x y : Nat) : (Op.floatArith .quo .f64 x y).run P w = .ok (.float .f64 (divB w x y)) (w.drewN (divA x y)) := by
  unfold divB divA gets asks
  cases h : Ieee.double.div x y with
  | some r => simp [Op.floatArith, FloatKind.format, h]; rfl
  | none => simp [Op.floatArith, FloatKind.format, h, Question.forced]; rfl

@[go_sem] theorem run_binOp_fadd (t : TypeId) (x y : Nat) : (binOp .add t (.float .f64 x) (.float .f64 y)).run P w = .ok (.float .f64 (addB w x y)) (w.drewN (addA x y)) := by
  simp [binOp, run_fadd]
@[go_sem] theorem run_binOp_fmul (t : TypeId) (x y : Nat) : (binOp .mul t (.float .f64 x) (.float .f64 y)).run P w = .ok (.float .f64 (mulB w x y)) (w.drewN (mulA x y)) := by
  simp [binOp, run_fmul]
@[go_sem] theorem run_binOp_fdiv (t : TypeId) (x y : Nat) : (binOp .quo t (.float .f64 x) (.float .f64 y)).run P w = .ok (.float .f64 (divB w x y)) (w.drewN (divA x y)) := by
  simp [binOp, run_fdiv]
theorem run_carith_add (x y : Nat) : (Op.Complex.arith .add .f64 x y).run P w = .ok (addB w x y) (w.drewN (addA x y)) := by
  simp [Op.Complex.arith, run_fadd]
@[go_sem] theorem run_binOp_cadd (t : TypeId) (a b c d : Nat) : (binOp .add t (.complex .f64 a b) (.complex .f64 c d)).run P w = .ok (.complex .f64 (addB w a c) (addB (w.drewN (addA a c)) b d)) (w.drewN (addA a c + addA b d)) := by
  simp [binOp, Op.complexOp, run_carith_add]
end

theorem i64_and3 (n : Int) : bits .and .i64 n 3 = n % 4 := by
  have h3 : (BitVec.ofInt 64 3).toNat = 2 ^ 2 - 1 := by decide
  have key : (BitVec.ofInt 64 n &&& BitVec.ofInt 64 3).toNat = (n % ((2 ^ 64 : Nat) : Int)).toNat % 2 ^ 2 := by
    rw [BitVec.toNat_and, BitVec.toNat_ofInt, h3, Nat.and_two_pow_sub_one_eq_mod]
  show IntKind.i64.wrap ((BitVec.ofInt 64 n &&& BitVec.ofInt 64 3).toNat : Nat) = n % 4
  rw [key, IntKind.wrap_i64]
  omega

/-- no number. -/
def NaN (b : Nat) : Prop := (Ieee.double.read b).isNaN = true

/-- 'r' may come of the sum of 'x' and 'y'. -/
def SumOf (x y r : Nat) : Prop := Ieee.double.add x y = some r ∨ Ieee.double.add x y = none ∧ NaN r
def MulOf (x y r : Nat) : Prop := Ieee.double.mul x y = some r ∨ Ieee.double.mul x y = none ∧ NaN r
def DivOf (x y r : Nat) : Prop := Ieee.double.div x y = some r ∨ Ieee.double.div x y = none ∧ NaN r

theorem nan_mk (t : Nat) (s : Nat) : NaN (s * 2 ^ 63 + 0x7ff0000000000000 + 1 + t % (2 ^ 52 - 1)) := by
  unfold NaN Ieee.Format.read
  have e1 : Ieee.double.signWeight = 2 ^ 63 := rfl
  have e2 : Ieee.double.binade = 2 ^ 52 := rfl
  have e3 : Ieee.double.infRung = 2047 * 2 ^ 52 := rfl
  rw [e1, e2, e3]
  have ht : t % (2 ^ 52 - 1) < 2 ^ 52 - 1 := Nat.mod_lt _ (by decide)
  generalize t % (2 ^ 52 - 1) = u at ht
  have hm : (s * 2 ^ 63 + 0x7ff0000000000000 + 1 + u) % 2 ^ 63 = 0x7ff0000000000000 + 1 + u := by omega
  simp only [hm]
  rw [if_neg (by omega), if_neg (by omega), if_neg (by omega)]
  rfl

theorem nan_cut (x y t : Nat) : NaN ((Question.nanBits .f64 x y).cut t) := nan_mk _ _

theorem sumOf_addB (w : World) (x y : Nat) : SumOf x y (addB w x y) := by
  unfold SumOf addB gets
  cases h : Ieee.double.add x y with
  | some r => exact .inl rfl
  | none => exact .inr ⟨rfl, nan_cut _ _ _⟩
theorem mulOf_mulB (w : World) (x y : Nat) : MulOf x y (mulB w x y) := by
  unfold MulOf mulB gets
  cases h : Ieee.double.mul x y with
  | some r => exact .inl rfl
  | none => exact .inr ⟨rfl, nan_cut _ _ _⟩
theorem divOf_divB (w : World) (x y : Nat) : DivOf x y (divB w x y) := by
  unfold DivOf divB gets
  cases h : Ieee.double.div x y with
  | some r => exact .inl rfl
  | none => exact .inr ⟨rfl, nan_cut _ _ _⟩

/-- the same bits, or both no number. -/
def Like (x y : Nat) : Prop := x = y ∨ NaN x ∧ NaN y
theorem Like.refl (x : Nat) : Like x x := .inl rfl

theorem datum_nan {d : Ieee.Datum} (h : d.isNaN = true) : ∃ s t, d = .nan s t := by
  cases d with
  | nan s t => exact ⟨s, t, rfl⟩
  | _ => simp [Ieee.Datum.isNaN] at h

theorem add_nan_left {x y : Nat} (h : NaN x) : Ieee.double.add x y = none := by
  obtain ⟨s, t, e⟩ := datum_nan h
  unfold Ieee.Format.add
  rw [e]; rfl
theorem add_nan_right {x y : Nat} (h : NaN y) : Ieee.double.add x y = none := by
  obtain ⟨s, t, e⟩ := datum_nan h
  unfold Ieee.Format.add
  rw [e]
  cases Ieee.double.read x <;> rfl
theorem div_nan_left {x y : Nat} (h : NaN x) : Ieee.double.div x y = none := by
  obtain ⟨s, t, e⟩ := datum_nan h
  unfold Ieee.Format.div
  rw [e]; rfl

theorem SumOf.nan {x y r : Nat} (h : SumOf x y r) (hn : Ieee.double.add x y = none) : NaN r := by
  rcases h with h | h
  · rw [hn] at h; cases h
  · exact h.2

theorem SumOf.like {x y r x' y' r' : Nat} (h : SumOf x y r) (h' : SumOf x' y' r') (hx : Like x x') (hy : Like y y') : Like r r' := by
  rcases hx with rfl | ⟨n1, n2⟩
  · rcases hy with rfl | ⟨n1, n2⟩
    · cases e : Ieee.double.add x y with
      | some v =>
        rcases h with h | h
        · rcases h' with h' | h'
          · rw [h] at h'; cases h'; exact .inl rfl
          · rw [e] at h'; cases h'.1
        · rw [e] at h; cases h.1
      | none => exact .inr ⟨h.nan e, h'.nan e⟩
    · exact .inr ⟨h.nan (add_nan_right n1), h'.nan (add_nan_right n2)⟩
  · exact .inr ⟨h.nan (add_nan_left n1), h'.nan (add_nan_left n2)⟩

theorem DivOf.nan {x y r : Nat} (h : DivOf x y r) (hn : Ieee.double.div x y = none) : NaN r := by
  rcases h with h | h
  · rw [hn] at h; cases h
  · exact h.2

theorem DivOf.like {x y r x' r' : Nat} (h : DivOf x y r) (h' : DivOf x' y r') (hx : Like x x') : Like r r' := by
  rcases hx with rfl | ⟨n1, n2⟩
  · cases e : Ieee.double.div x y with
    | some v =>
      rcases h with h | h
      · rcases h' with h' | h'
        · rw [h] at h'; cases h'; exact .inl rfl
        · rw [e] at h'; cases h'.1
      · rw [e] at h; cases h.1
    | none => exact .inr ⟨h.nan e, h'.nan e⟩
  · exact .inr ⟨h.nan (div_nan_left n1), h'.nan (div_nan_left n2)⟩

theorem SumOf.isI {x y r : Nat} {a b : Int} (h : SumOf x y r) (hx : Fl.isI x a) (hy : Fl.isI y b) (hab : (a + b).natAbs ≤ 2 ^ 53) : Fl.isI r (a + b) := by
  obtain ⟨v, hv, hI⟩ := Fl.add_isI hx hy hab
  rcases h with h | h
  · rw [hv] at h; cases h; exact hI
  · rw [hv] at h; cases h.1
theorem MulOf.isI {x y r : Nat} {a b : Int} (h : MulOf x y r) (hx : Fl.isI x a) (hy : Fl.isI y b) (hab : (a * b).natAbs ≤ 2 ^ 53) : Fl.isI r (a * b) := by
  obtain ⟨v, hv, hI⟩ := Fl.mul_isI hx hy hab
  rcases h with h | h
  · rw [hv] at h; cases h; exact hI
  · rw [hv] at h; cases h.1

theorem read_ng {b : Nat} (h : b < 2 ^ 64) : ng b < 2 ^ 64 ∧ Ieee.double.read (ng b) = (Ieee.double.read b).opposite := by
  have hx : ng b = if b < 2 ^ 63 then b + 2 ^ 63 else b - 2 ^ 63 := by
    unfold ng Op.negFloat
    show b ^^^ 2 ^ 63 = _
    have e : b = 2 ^ 63 * (b / 2 ^ 63) + b % 2 ^ 63 := (Nat.div_add_mod b (2 ^ 63)).symm
    have hlow : b % 2 ^ 63 < 2 ^ 63 := Nat.mod_lt _ (by decide)
    by_cases hb : b < 2 ^ 63
    · rw [if_pos hb]
      have h1 := Nat.two_pow_add_eq_or_of_lt (i := 63) hb 1
      have h2 := Nat.two_pow_add_eq_or_of_lt (i := 63) hb 1
      rw [Nat.mul_one] at h1
      apply Nat.eq_of_testBit_eq
      intro i
      rw [Nat.testBit_xor, Nat.add_comm, h1, Nat.testBit_or, Nat.testBit_two_pow]
      by_cases hi : 63 = i
      · subst hi
        rw [Nat.testBit_lt_two_pow hb]; simp
      · simp [hi]
    · rw [if_neg hb]
      have h1 := Nat.two_pow_add_eq_or_of_lt (i := 63) (b := b - 2 ^ 63) (by omega) 1
      rw [Nat.mul_one, show 2 ^ 63 + (b - 2 ^ 63) = b from by omega] at h1
      apply Nat.eq_of_testBit_eq
      intro i
      rw [Nat.testBit_xor]
      conv => lhs; rw [h1]
      rw [Nat.testBit_or, Nat.testBit_two_pow]
      by_cases hi : 63 = i
      · subst hi
        rw [Nat.testBit_lt_two_pow (show b - 2 ^ 63 < 2 ^ 63 by omega)]; simp
      · simp [hi]
  rw [hx]
  refine ⟨by split <;> omega, ?_⟩
  unfold Ieee.Format.read
  have e1 : Ieee.double.signWeight = 2 ^ 63 := rfl
  rw [e1]
  split
  · rename_i hb
    have m1 : (b + 2 ^ 63) % 2 ^ 63 = b % 2 ^ 63 := by omega
    have d1 : (b + 2 ^ 63) / 2 ^ 63 = 1 := by omega
    have d2 : b / 2 ^ 63 = 0 := by omega
    simp only [m1, d1, d2]
    split
    · rfl
    · split
      · rfl
      · split <;> rfl
  · rename_i hb
    have m1 : (b - 2 ^ 63) % 2 ^ 63 = b % 2 ^ 63 := by omega
    have d1 : (b - 2 ^ 63) / 2 ^ 63 = 0 := by omega
    have d2 : b / 2 ^ 63 = 1 := by omega
    simp only [m1, d1, d2]
    split
    · rfl
    · split
      · rfl
      · split <;> rfl

theorem ng_isI {b : Nat} {n : Int} (h : Fl.isI b n) : Fl.isI (ng b) (-n) := by
  obtain ⟨hb, s, m, i, hr, hE, hs⟩ := h
  obtain ⟨g1, g2⟩ := read_ng hb
  refine ⟨g1, !s, m, i, by rw [g2, hr]; rfl, by rw [Int.natAbs_neg]; exact hE, ?_⟩
  intro h0
  rw [hs (by omega)]
  by_cases h1 : n < 0
  · simp [h1]; omega
  · simp [h1]; omega

end Go.Proofs.YtkcccfllkgjdiaaDoor
