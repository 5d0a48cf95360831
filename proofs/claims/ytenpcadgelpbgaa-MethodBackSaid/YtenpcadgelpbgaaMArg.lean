/-
  How a call that came in is read.
-/
import Derived.Test.YtenpcadgelpbgaaMLeaf
import Derived.Deep.Slices
import Derived.Deep.Draws
namespace Go.Proofs.Ytenpcadgelpbgaa
open Go.ChangeShapes Go.WideShapes Go.ChangeAt Go.RowKit Go.Deep
set_option linter.unusedVariables false

theorem cells_method : Try.prog.cellsOf 25 = 12 := by kernel_rfl
theorem cells_u64 : Try.prog.cellsOf 22 = 1 := by kernel_rfl
theorem cells_bool : Try.prog.cellsOf 4 = 1 := by kernel_rfl

section
variable {H : Type} {enc : TypeId × Value → H} {w : World} {base : Nat} {spare : Nat → Bool} {held : Bool}
theorem twelve {α : Type} {l : List α} (h : l.length = 12) : ∃ c0 c1 c2 c3 c4 c5 c6 c7 c8 c9 c10 c11, l = [c0, c1, c2, c3, c4, c5, c6, c7, c8, c9, c10, c11] := by
  match l, h with
  | [c0, c1, c2, c3, c4, c5, c6, c7, c8, c9, c10, c11], _ => exact ⟨c0, c1, c2, c3, c4, c5, c6, c7, c8, c9, c10, c11, rfl⟩
set_option maxRecDepth 100000 in
theorem me_of {n : Nat} {cs : List Value} {y : DataW H × List MemPlace} (hcs : cs.length = 12) (h : DataW.trod enc Try.prog w base spare held n 25 cs = some y) (hf : w.noneFrozen y.2) :
    ∃ (m : Me) (a : Option Addr) (cap : Nat), cs = (meC m a cap).toList ∧ Tb w a cap m.args ∧ m.Wf := by
  obtain ⟨c0, c1, c2, c3, c4, c5, c6, c7, c8, c9, c10, c11, rfl⟩ := twelve hcs
  obtain ⟨ys, m, hm, rfl, hl, hlen, hat⟩ := DataW.trod_struct Try.underlying25 h
  have t0 := hat 0 _ rfl
  have t1 := hat 1 _ rfl
  have t2 := hat 2 _ rfl
  have t3 := hat 3 _ rfl
  have t4 := hat 4 _ rfl
  have t5 := hat 5 _ rfl
  have t6 := hat 6 _ rfl
  have t7 := hat 7 _ rfl
  have t8 := hat 8 _ rfl
  have t9 := hat 9 _ rfl
  have t10 := hat 10 _ rfl
  have t11 := hat 11 _ rfl
  simp only [List.getElem_toArray, List.getElem_cons_zero, List.getElem_cons_succ, cells_int, cells_str, cells_u64, cells_bool, cells_items, List.drop_zero, List.drop_succ_cons, List.take_succ_cons, List.take_zero] at t0 t1 t2 t3 t4 t5 t6 t7 t8 t9 t10 t11
  simp only [List.size_toArray, List.length_cons, List.length_nil] at hlen
  match ys, hlen with
  | [y0, y1, y2, y3, y4, y5, y6, y7, y8, y9, y10, y11], _ =>
    obtain ⟨i0, e0, _, w0⟩ := DataW.trod_int Try.underlying3 t0
    obtain ⟨s1, e1, _, w1⟩ := DataW.trod_string Try.underlying9 t1
    obtain ⟨s2, e2, _, w2⟩ := DataW.trod_string Try.underlying9 t2
    obtain ⟨s3, e3, _, w3⟩ := DataW.trod_string Try.underlying9 t3
    obtain ⟨s4, e4, _, w4⟩ := DataW.trod_string Try.underlying9 t4
    obtain ⟨s5, e5, _, w5⟩ := DataW.trod_string Try.underlying9 t5
    obtain ⟨i6, e6, _, w6⟩ := DataW.trod_int Try.underlying3 t6
    obtain ⟨i7, e7, _, w7⟩ := DataW.trod_int Try.underlying3 t7
    obtain ⟨i8, e8, _, w8⟩ := DataW.trod_int Try.underlying22 t8
    obtain ⟨b9, e9, _⟩ := DataW.trod_bool Try.underlying4 t9
    obtain ⟨b10, e10, _⟩ := DataW.trod_bool Try.underlying4 t10
    obtain ⟨a, cap, l, e11, ht⟩ := tb_of _ _ _ t11 (fun b off hb => hf b off (by simp [hb]))
    obtain ⟨z1, z2⟩ := in_u64 w8
    obtain ⟨tag, rfl⟩ : ∃ tag : Nat, i8 = (tag : Int) := ⟨i8.toNat, by omega⟩
    simp only [List.cons.injEq, and_true] at e0 e1 e2 e3 e4 e5 e6 e7 e8 e9 e10
    have z3 : tag < 18446744073709551616 := by omega
    refine ⟨⟨i0, s1, s2, s3, s4, s5, i6, i7, tag, b9, b10, l⟩, a, cap, ?_, ht, in_i64 w0, w1, w2, w3, w4, w5, in_i64 w6, in_i64 w7, z3, ht.fits⟩
    rw [e0, e1, e2, e3, e4, e5, e6, e7, e8, e9, e10, e11]
    rfl

set_option maxRecDepth 100000 in
/-- an argument that is a call. -/
theorem me_arg {v : Value} {d : DataW H} {p : List MemPlace} (h : DataW.Trod enc Try.prog w base spare held 25 v d p) {r : Reach} {b0 : Nat} (hv : Value.okWide Try.prog w r b0 25 v) (hf : w.noneFrozen p) :
    ∃ (m : Me) (a : Option Addr) (cap : Nat), v = .agg (meC m a cap) ∧ Tb w a cap m.args ∧ m.Wf := by
  obtain ⟨cs, rfl, hsz⟩ := okWide_struct Try.underlying25 hv
  obtain ⟨n, h⟩ := h
  obtain ⟨l⟩ := cs
  rw [cells_method] at hsz
  obtain ⟨m, a, cap, he, h1, h2⟩ := me_of (by simpa using hsz) (by simpa [Value.cells] using h) hf
  exact ⟨m, a, cap, by rw [he], h1, h2⟩
end

end Go.Proofs.Ytenpcadgelpbgaa
