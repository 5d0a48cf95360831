/-
  The document's Match, walked: a table of beginnings, row by row.
-/
import Derived.Test.YtidedmmfmifgjaaTRMay
import Derived.Deep.OwnRows
import Derived.BigRegion
import Derived.BigQuiet
namespace Go.Proofs.Ytidedmmfmifgjaa
open Go.RowKit
set_option linter.unusedVariables false

/-- what stands for the beginnings of a key, by so many words of a pattern. -/
def on (P K : List (List UInt8)) (i : Nat) (t : Nat) : Bool := stand (P.take i) (K.take t)
theorem on_start (P K : List (List UInt8)) (t : Nat) (ht : t ≤ K.length) : on P K 0 t = decide (t = 0) := by
  unfold on
  rw [List.take_zero, Bool.eq_iff_iff, stand_nil, decide_eq_true_eq]
  constructor
  · intro h
    have := congrArg List.length h
    rw [List.length_take, List.length_nil] at this
    omega
  · rintro rfl; rfl
theorem on_hash {P K : List (List UInt8)} {i : Nat} (hi : i < P.length) (hx : P[i] = [35]) (j : Nat) (hj : j ≤ K.length) : on P K (i + 1) j = (on P K i j || (decide (0 < j) && on P K (i + 1) (j - 1))) := by
  unfold on
  rw [List.take_succ_eq_append_getElem hi, hx, Bool.eq_iff_iff, stand_snoc_hash _ _ _ hj, Bool.or_eq_true, Bool.and_eq_true, decide_eq_true_eq]
theorem on_word {P K : List (List UInt8)} {i : Nat} (hi : i < P.length) (hx : P[i] ≠ [35]) (j : Nat) (hj : j < K.length) : on P K (i + 1) (j + 1) = (on P K i j && (P[i] == [42] || P[i] == K[j])) := by
  unfold on
  rw [List.take_succ_eq_append_getElem hi, Bool.eq_iff_iff, stand_snoc hx _ _ _ hj, Bool.and_eq_true, Bool.or_eq_true, beq_iff_eq, beq_iff_eq]
theorem on_none {P K : List (List UInt8)} {i : Nat} (hi : i < P.length) (hx : P[i] ≠ [35]) : on P K (i + 1) 0 = false := by
  unfold on
  rw [List.take_succ_eq_append_getElem hi, List.take_zero]
  exact stand_snoc_none hx _
theorem on_all (P K : List (List UInt8)) : on P K P.length K.length = stand P K := by
  unfold on
  rw [List.take_length, List.take_length]

theorem bool_info : (Try.prog.info? 4).map (fun i => (i.zero, i.size, i.bytes)) = some (some (.bool false), 1, 1) := by kernel_rfl
theorem make_row (w : World) (n : Nat) (hn : n ≤ 1000000000) :
    (Instr.makeSlice 37 (.int .i64 n) (.int .i64 n)).run Try.prog w = .ok (.slice (some ⟨w.heap.size, 0, none⟩) n n) (w.alloc (.cells (madeCells #[.bool false] n) 4)) ∧
      (w.alloc (.cells (madeCells #[.bool false] n) 4)).rowIs w.heap.size 4 n (fun _ => .bool false) := by
  obtain ⟨i0, hi, hz0, hz1, hz2⟩ := info_parts bool_info
  have hr := run_make (P := Try.prog) (w := w) 37 4 i0 _ Try.underlying37 hi hz0 .i64 .i64 n n (by omega) (by omega) (by rw [hz2]; omega) (by omega)
  rw [hz1] at hr
  have e : ((n : Int).toNat * 1) = n := by simp
  refine ⟨by rw [hr, e]; rfl, _, heap_alloc_new w _, by simp [madeCells], fun i hi => ?_⟩
  have e := toList_madeCells_one (.bool false) n
  rw [← Array.getElem?_toList, e, List.getElem?_replicate, if_pos hi]

/-- the row that is made: done as far as j. -/
structure Half (P K : List (List UInt8)) (W w : World) (i g7 g9 j : Nat) : Prop where
  below : Below W.heap.size W w
  old : w.rowIs g7 4 (K.length + 1) (fun t => .bool (on P K i t))
  new : w.rowIs g9 4 (K.length + 1) (fun t => .bool (decide (t < j) && on P K (i + 1) t))
  ne : g7 ≠ g9
  l7 : W.heap.size ≤ g7
  l9 : W.heap.size ≤ g9
theorem Half.put {P K : List (List UInt8)} {W w : World} {i g7 g9 j : Nat} (h : Half P K W w i g7 g9 j) (b : Bool) (hb : b = on P K (i + 1) j) : Half P K W (w.setCell ⟨g9, j, none⟩ (.bool b)) i g7 g9 (j + 1) := by
  refine ⟨h.below.setCell h.l9 _, h.old.setOther (a := ⟨g9, j, none⟩) h.ne _, (h.new.set j _).congr fun t ht => ?_, h.ne, h.l7, h.l9⟩
  by_cases e : t = j
  · subst e
    rw [if_pos rfl, hb, decide_eq_true (by omega : t < t + 1), Bool.true_and]
  · rw [if_neg e]
    congr 2
    rw [decide_eq_decide]
    omega
theorem Half.pass {P K : List (List UInt8)} {W w : World} {i g7 g9 j : Nat} (h : Half P K W w i g7 g9 j) (hb : on P K (i + 1) j = false) : Half P K W w i g7 g9 (j + 1) := by
  refine ⟨h.below, h.old, h.new.congr fun t ht => ?_, h.ne, h.l7, h.l9⟩
  by_cases e : t = j
  · subst e
    rw [hb, Bool.and_false, Bool.and_false]
  · congr 2
    rw [decide_eq_decide]
    omega
theorem Half.to {P K : List (List UInt8)} {W w w' : World} {i g7 g9 j : Nat} (h : Half P K W w i g7 g9 j) (hb : Below w.heap.size w w') : Half P K W w' i g7 g9 j :=
  ⟨h.below.trans (hb.mono h.below.size), h.old.of_block (hb.block _ h.old.lt), h.new.of_block (hb.block _ h.new.lt), h.ne, h.l7, h.l9⟩

def rmatRel (P K : List (List UInt8)) (W : World) (n : Nat) (v7 v8 : Value) (wr : World) : Prop :=
  ∃ (i g7 : Nat), i ≤ P.length ∧ n = P.length - i ∧ v7 = .slice (some ⟨g7, 0, none⟩) (K.length + 1) (K.length + 1) ∧ v8 = .int .i64 i ∧ Below W.heap.size W wr ∧ W.heap.size ≤ g7 ∧ wr.rowIs g7 4 (K.length + 1) (fun t => .bool (on P K i t))
def rmatIn (P K : List (List UInt8)) (W : World) (i g7 g9 : Nat) (n : Nat) (v10 : Value) (wr : World) : Prop :=
  ∃ j : Nat, j ≤ K.length + 1 ∧ n = K.length + 1 - j ∧ v10 = .int .i64 j ∧ Half P K W wr i g7 g9 j
end Go.Proofs.Ytidedmmfmifgjaa
