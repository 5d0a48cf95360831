/-
  Leans as whole numbers: what is exact.
-/
import Derived.Test.YtdmlogfklgckcaaDoorMark
namespace Go.Proofs.YtdmlogfklgckcaaDoor
open Go.RowKit
set_option linter.unusedVariables false

namespace Fl
open Ieee
theorem ofInt_isI (n : Int) (hn : n.natAbs ≤ 2 ^ 53) : isI (floatOfInt .f64 n) n := by
  unfold floatOfInt FloatKind.nearest FloatKind.encode
  refine nearest_isI ?_ hn (fun _ => rfl)
  unfold E; rfl

theorem eq_isI {x y : Nat} {a : Int} (hx : isI x a) (hy : isI y a) : double.order x y = some .eq := by
  rw [order_isI hx hy]; simp

end Fl

def CSumOf (x y r : Nat × Nat) : Prop := SumOf x.1 y.1 r.1 ∧ SumOf x.2 y.2 r.2

def CI (z : Nat × Nat) (p : Int × Int) : Prop := Fl.isI z.1 p.1 ∧ Fl.isI z.2 p.2

def Bd (B : Nat) (p : Int × Int) : Prop := p.1.natAbs ≤ B ∧ p.2.natAbs ≤ B

def spinI (k : Int) (p : Int × Int) : Int × Int :=
  if k % 4 = 1 then (-p.2, p.1) else if k % 4 = 2 then (-p.1, -p.2) else if k % 4 = 3 then (p.2, -p.1) else p

def addI (p q : Int × Int) : Int × Int := (p.1 + q.1, p.2 + q.2)

theorem spin_CI {z : Nat × Nat} {p : Int × Int} (k : Int) (h : CI z p) : CI (spin k z) (spinI k p) := by
  unfold spin spinI
  split
  · exact ⟨ng_isI h.2, h.1⟩
  · split
    · exact ⟨ng_isI h.1, ng_isI h.2⟩
    · split
      · exact ⟨h.2, ng_isI h.1⟩
      · exact h

theorem spin_Bd {B : Nat} {p : Int × Int} (k : Int) (h : Bd B p) : Bd B (spinI k p) := by
  obtain ⟨h1, h2⟩ := h
  unfold spinI
  split
  · exact ⟨by simpa using h2, h1⟩
  · split
    · exact ⟨by simpa using h1, by simpa using h2⟩
    · split
      · exact ⟨h2, by simpa using h1⟩
      · exact ⟨h1, h2⟩

theorem add_Bd {B C : Nat} {p q : Int × Int} (h : Bd B p) (g : Bd C q) : Bd (B + C) (addI p q) := by
  obtain ⟨h1, h2⟩ := h
  obtain ⟨g1, g2⟩ := g
  unfold addI
  exact ⟨by simp only; omega, by simp only; omega⟩

theorem CSumOf.CI {x y r : Nat × Nat} {p q : Int × Int} {B : Nat} (h : CSumOf x y r) (hx : CI x p) (hy : CI y q) (hB : Bd B (addI p q)) (hb : B ≤ 2 ^ 53) : CI r (addI p q) :=
  ⟨h.1.isI hx.1 hy.1 (Nat.le_trans hB.1 hb), h.2.isI hx.2 hy.2 (Nat.le_trans hB.2 hb)⟩

def nrmI (p : Int × Int) : Int := p.1 * p.1 + p.2 * p.2

theorem sq_bd {B : Nat} {n : Int} (h : n.natAbs ≤ B) : 0 ≤ n * n ∧ n * n ≤ (B * B : Nat) := by
  refine ⟨?_, ?_⟩
  · rw [← Int.natAbs_mul_self (a := n)]; exact Int.natCast_nonneg _
  · rw [← Int.natAbs_mul_self (a := n)]
    exact_mod_cast Nat.mul_le_mul h h

theorem nrm_bd {B : Nat} {p : Int × Int} (h : Bd B p) : 0 ≤ nrmI p ∧ nrmI p ≤ (2 * (B * B) : Nat) := by
  have h1 := sq_bd h.1
  have h2 := sq_bd h.2
  unfold nrmI
  omega

theorem addB_val {x y v : Nat} (h : Ieee.double.add x y = some v) : (∀ w, addB w x y = v) ∧ addA x y = 0 := by
  refine ⟨fun w => ?_, ?_⟩
  · unfold addB gets; rw [h]
  · unfold addA asks; rw [h]; rfl

theorem mulB_val {x y v : Nat} (h : Ieee.double.mul x y = some v) : (∀ w, mulB w x y = v) ∧ mulA x y = 0 := by
  refine ⟨fun w => ?_, ?_⟩
  · unfold mulB gets; rw [h]
  · unfold mulA asks; rw [h]; rfl

theorem fl_0 : Fl.isI 0 0 := Fl.ofInt_isI 0 (by decide)

theorem MulOf.val {x y r v : Nat} (h : MulOf x y r) (e : Ieee.double.mul x y = some v) : r = v := by
  rcases h with h | h
  · rw [e] at h; cases h; rfl
  · rw [e] at h; cases h.1

theorem SumOf.val {x y r v : Nat} (h : SumOf x y r) (e : Ieee.double.add x y = some v) : r = v := by
  rcases h with h | h
  · rw [e] at h; cases h; rfl
  · rw [e] at h; cases h.1

theorem norm_int (z : Nat × Nat) (p : Int × Int) (hz : CI z p) (hb : Bd 1000000 p) (w : World) :
    Calls Tryd.prog 18 #[.complex .f64 z.1 z.2] w fun e w' => ∃ r, e = .returned (.float .f64 r) ∧ Fl.isI r (nrmI p) ∧ w = w' := by
  have b1 := sq_bd hb.1
  have b2 := sq_bd hb.2
  obtain ⟨v1, e1, i1⟩ := Fl.mul_isI hz.1 hz.1 (by omega)
  obtain ⟨v2, e2, i2⟩ := Fl.mul_isI hz.2 hz.2 (by omega)
  obtain ⟨v3, e3, i3⟩ := Fl.add_isI i1 i2 (by omega)
  obtain ⟨m1, n1⟩ := mulB_val e1
  obtain ⟨m2, n2⟩ := mulB_val e2
  obtain ⟨m3, n3⟩ := addB_val e3
  clear b1 b2 e1 e2 e3 i1 i2 hz hb
  go_enter Tryd.func18, Tryd.ntmps18
  go_wp2
  go_ret
  exact ⟨v3, rfl, i3, rfl⟩

end Go.Proofs.YtdmlogfklgckcaaDoor
