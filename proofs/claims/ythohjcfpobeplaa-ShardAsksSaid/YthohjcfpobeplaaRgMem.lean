/-
  Rows of arcs in memory; an arc put on: the old row stays as it was.
-/
import Derived.Test.YthohjcfpobeplaaRgMemG
import Derived.Test.YthohjcfpobeplaaRgDat
namespace Go.Proofs.Ythohjcfpobeplaa.Rg
open Go.RowKit
set_option linter.unusedVariables false

/-! ### arcs -/
def arC (e : Ar) : List Value := [.int .u32 e.f, .int .i64 e.s]
theorem arC_len (e : Ar) : (arC e).length = 2 := rfl
theorem arC_one (l : List Ar) : ∀ u ∈ l.flatMap arC, u.oneCell' = true := by
  intro u hu
  obtain ⟨e, _, he⟩ := List.mem_flatMap.1 hu
  simp only [arC, List.mem_cons, List.not_mem_nil, or_false] at he
  rcases he with rfl | rfl <;> rfl
abbrev AsAt := RowsAt 2 arC
def OwnA (w : World) (base : Nat) (v : Value) (l : List Ar) : Prop := w.ownsRow base 115 2 v l.length (l.flatMap arC)
theorem OwnA.nil (w : World) (base : Nat) : OwnA w base (.slice none 0 0) [] := World.ownsRow_nil w base _ _
theorem OwnA.at {w : World} {base : Nat} {v : Value} {l : List Ar} (h : OwnA w base v l) : ∃ a cap, v = .slice a l.length cap ∧ AsAt w a cap l := rows_of_own arC_len h
theorem OwnA.below1 {w w' : World} {base : Nat} {v : Value} {l : List Ar} (h : OwnA w base v l) (hb : Below w.heap.size w w') : OwnA w' base v l := owns_below1 h hb
theorem AsAt.get {w : World} {a : Option Addr} {cap : Nat} {l : List Ar} (h : AsAt w a cap l) (i : Nat) (hi : i < l.length) :
    ∃ b o, a = some ⟨b, o, none⟩ ∧ w.cell? ⟨b, o + i * 2, none⟩ = some (.int .u32 l[i].f) ∧ w.cell? ⟨b, o + i * 2 + 1, none⟩ = some (.int .i64 l[i].s) := by
  obtain ⟨b, o, ha, hc⟩ := h.at' (by omega)
  exact ⟨b, o, ha, hc i hi 0 _ rfl, hc i hi 1 _ rfl⟩
/-- the cells, all of them. -/
theorem AsAt.all {w : World} {a : Option Addr} {cap : Nat} {l : List Ar} (h : AsAt w a cap l) (h1 : 0 < l.length) :
    ∃ b o, a = some ⟨b, o, none⟩ ∧ ∀ (i : Nat) (hi : i < l.length), w.cell? ⟨b, o + i * 2, none⟩ = some (.int .u32 l[i].f) ∧ w.cell? ⟨b, o + i * 2 + 1, none⟩ = some (.int .i64 l[i].s) := by
  obtain ⟨b, o, ha, hc⟩ := h.at' h1
  exact ⟨b, o, ha, fun i hi => ⟨hc i hi 0 _ rfl, hc i hi 1 _ rfl⟩⟩

/-- the first arc, and the others. -/
theorem AsAt.head {w : World} {a : Option Addr} {cap : Nat} {x : Ar} {l : List Ar} (h : AsAt w a cap (x :: l)) :
    ∃ b o a', a = some ⟨b, o, none⟩ ∧ w.cell? ⟨b, o, none⟩ = some (.int .u32 x.f) ∧ w.cell? ⟨b, o + 1, none⟩ = some (.int .i64 x.s) ∧
      AsAt w a' (cap - 1) l ∧ 1 ≤ cap ∧
      (∀ wx, (Instr.slice 27 (.slice (some ⟨b, o, none⟩) (l.length + 1) cap) (some (.int .i64 1)) none none).run Try.prog wx = .ok (.slice a' l.length (cap - 1)) wx) := by
  obtain ⟨b, o, ha, hc⟩ := h.at' (by simp)
  have hlen := h.len
  have hmax := h.max
  simp only [List.length_cons] at hlen
  have h0 : ∀ r v, (arC x)[r]? = some v → w.cell? ⟨b, o + r, none⟩ = some v := fun r v hv => by
    have := hc 0 (by simp) r v hv
    rwa [show o + 0 * 2 + r = o + r by omega] at this
  refine ⟨b, o, some (if cap = 1 then ⟨b, o, none⟩ else ⟨b, o + 2, none⟩), ha, h0 0 _ rfl, h0 1 _ rfl, ⟨by omega, by omega, fun hl => ⟨b, o + 2, by rw [if_neg (by omega)], fun j hj r v hv => ?_⟩⟩, by omega, fun wx => ?_⟩
  · have := hc (j + 1) (by simpa using hj) r v (by simpa using hv)
    rwa [show o + (j + 1) * 2 + r = o + 2 + j * 2 + r by omega] at this
  · have hz : ∀ w, (Go.sizeOf 115).run Try.prog w = .ok 2 w := fun w => by kernel_rfl
    simp [Instr.slice, Instr.sliceBounds, Instr.sliceBound, asIntOf, run_underlying Try.underlying27, hz]
    rw [if_pos (by omega), add_at]
    by_cases h1 : cap = 1
    · rw [if_pos h1, if_pos h1]
    · rw [if_neg h1, if_neg h1]

theorem ar_info : (Try.prog.info? 115).map (fun i => (i.zero, i.size, i.bytes)) = some (some (.agg #[.int .u32 0, .int .i64 0]), 2, 16) := by kernel_rfl

/-- an arc more: it lies in the block made last. -/
theorem put_ar {ops : Array Oper} {rest : List Oper} {o : Oper} {a : Act} {Q : Exit → Act → World → Prop} {w : World} {base : Nat} {v : Value} {l : List Ar} (x : Ar) (hgd : o.guard = none) (s y : Operand)
    (ho : o.op = .call { callee := .builtin .append, args := #[s, y], argTypes := #[27, 27] }) (hb : OwnA w base v l) (hbase : base ≤ w.heap.size) (hl : l.length ≤ 1000000)
    (hs : a.eval s = v) (H : Nat) (hH : w.heap.size = H) (hx : a.eval y = .slice (some ⟨H, 0, none⟩) 1 1)
    (h : ∀ g cap w', OwnA w' base (.slice (some ⟨g, 0, none⟩) (l.length + 1) cap) (l ++ [x]) → OwnA w' base v l → w.grownBy w' v.ownBlock →
      wpList Try.prog ops Q rest (a.put o.dst (.slice (some ⟨g, 0, none⟩) (l.length + 1) cap)) w') :
    wpList Try.prog ops Q (o :: rest) a (w.alloc (.cells #[.int .u32 x.f, .int .i64 x.s] 115)) := by
  subst hH
  obtain ⟨i0, hi, hz0, hz1, hz2⟩ := info_parts ar_info
  refine put_both (w.alloc _) hgd s y 27 ho base 115 i0 _ 2 16 Try.underlying27 hi hz0 hz1 hz2 rfl (by decide) v l.length (l.flatMap arC) hs (World.ownsRow.alloc hb _) ⟨w.heap.size, 0, none⟩ 1 1 (arC x) hx (by simp [arC]) (World.news_of_block (heap_alloc_new w _)) (by simpa using arC_one [x]) (by decide) (by unfold maxLen; omega) (by omega) (by simp; omega) ?_
  intro g cap w' hown hold hg
  refine h g cap w' ?_ hold (alloc_before hg)
  unfold OwnA
  rw [List.length_append, List.flatMap_append]
  simpa using hown
theorem OwnA.grown {w w' w0 : World} {base : Nat} {v : Value} {l : List Ar} (h : Below base w0 w) (hb : OwnA w base v l) (hg : w.grownBy w' v.ownBlock) (hbase : base ≤ w.heap.size) : Below base w0 w' :=
  h.grown hg hbase (fun k e => (World.ownsRow.lt hb k e).1)

end Go.Proofs.Ythohjcfpobeplaa.Rg
