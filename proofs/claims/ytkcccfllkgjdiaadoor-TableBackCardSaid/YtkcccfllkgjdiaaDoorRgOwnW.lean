/-
  Rows of numbers in memory: those that came in, those of the call's own; a number, a whole row put on.
-/
import Derived.Test.YtkcccfllkgjdiaaDoorRgMem
import Derived.Laws.AppendOwnNone
namespace Go.Proofs.YtkcccfllkgjdiaaDoor.Rg
open Go.RowKit
set_option linter.unusedVariables false

def wC (x : Int) : List Value := [.int .i64 x]
theorem wC_len (x : Int) : (wC x).length = 1 := rfl
/-- a slice of these weights. -/
abbrev WsAt := RowsAt 1 wC
theorem WsAt.get {w : World} {a : Option Addr} {cap : Nat} {l : List Int} (h : WsAt w a cap l) (i : Nat) (hi : i < l.length) :
    ∃ b o, a = some ⟨b, o, none⟩ ∧ w.cell? ⟨b, o + i, none⟩ = some (.int .i64 l[i]) := by
  obtain ⟨b, o, ha, hc⟩ := h.at' (by omega)
  have := hc i hi 0 _ rfl
  rw [Nat.mul_one, Nat.add_zero] at this
  exact ⟨b, o, ha, this⟩

/-- weights that came in. -/
theorem ws_of_row {w : World} {a : Option Addr} {len cap : Nat} {z : List Int} (h : IsRow .i64 w a len cap z) : (z.take len).length = len ∧ WsAt w a cap (z.take len) := by
  rcases h with ⟨rfl, rfl, rfl, rfl⟩ | ⟨x, rfl, hlc, hcm, hz, hc, _⟩
  · exact ⟨rfl, RowsAt.nil _ _ _ _ _ (by simp [maxLen])⟩
  · have hl : (z.take len).length = len := by rw [List.length_take]; omega
    refine ⟨hl, ⟨by omega, hcm, fun h0 => ?_⟩⟩
    obtain ⟨b, off, rfl⟩ := addr_of (hc 0 (by omega))
    refine ⟨b, off, rfl, fun i hi r v hv => ?_⟩
    have hr : r = 0 := by
      have := (List.getElem?_eq_some_iff.1 hv).1
      rw [wC_len] at this
      omega
    subst hr
    have := hc i (by omega)
    rw [add_at] at this
    rw [Nat.mul_one, Nat.add_zero, this]
    have e : (z.take len)[i] = z.getD i 0 := by
      rw [List.getElem_take, List.getD_eq_getElem?_getD, List.getElem?_eq_getElem (by omega)]
      rfl
    rw [← e]
    exact hv

/-! ### rows of numbers of the call's own -/
theorem wC_one (l : List Int) : ∀ u ∈ l.flatMap wC, u.oneCell' = true := by
  intro u hu
  obtain ⟨e, _, he⟩ := List.mem_flatMap.1 hu
  simp only [wC, List.mem_cons, List.not_mem_nil, or_false] at he
  subst he; rfl
def OwnW (w : World) (base : Nat) (v : Value) (l : List Int) : Prop := w.ownsRow base 3 1 v l.length (l.flatMap wC)
theorem OwnW.nil (w : World) (base : Nat) : OwnW w base (.slice none 0 0) [] := World.ownsRow_nil w base _ _
theorem OwnW.at {w : World} {base : Nat} {v : Value} {l : List Int} (h : OwnW w base v l) : ∃ a cap, v = .slice a l.length cap ∧ WsAt w a cap l := rows_of_own wC_len h
theorem OwnW.below1 {w w' : World} {base : Nat} {v : Value} {l : List Int} (h : OwnW w base v l) (hb : Below w.heap.size w w') : OwnW w' base v l := owns_below1 h hb
theorem OwnW.grown {w w' w0 : World} {base : Nat} {v : Value} {l : List Int} (h : Below base w0 w) (hb : OwnW w base v l) (hg : w.grownBy w' v.ownBlock) (hbase : base ≤ w.heap.size) : Below base w0 w' :=
  h.grown hg hbase (fun k e => (World.ownsRow.lt hb k e).1)
theorem int_info : (Tryd.prog.info? 3).map (fun i => (i.zero, i.size, i.bytes)) = some (some (.int .i64 0), 1, 8) := by kernel_rfl
theorem put_w {ops : Array Oper} {rest : List Oper} {o : Oper} {a : Act} {Q : Exit → Act → World → Prop} {w : World} {base : Nat} {v : Value} {l : List Int} (x : Int) (hgd : o.guard = none) (s y : Operand)
    (ho : o.op = .call { callee := .builtin .append, args := #[s, y], argTypes := #[22, 22] }) (hb : OwnW w base v l) (hbase : base ≤ w.heap.size) (hl : l.length ≤ 1000000)
    (hs : a.eval s = v) (H : Nat) (hH : w.heap.size = H) (hx : a.eval y = .slice (some ⟨H, 0, none⟩) 1 1)
    (h : ∀ g cap w', OwnW w' base (.slice (some ⟨g, 0, none⟩) (l.length + 1) cap) (l ++ [x]) → OwnW w' base v l → w.grownBy w' v.ownBlock →
      wpList Tryd.prog ops Q rest (a.put o.dst (.slice (some ⟨g, 0, none⟩) (l.length + 1) cap)) w') :
    wpList Tryd.prog ops Q (o :: rest) a (w.alloc (.cells #[.int .i64 x] 3)) := by
  subst hH
  obtain ⟨i0, hi, hz0, hz1, hz2⟩ := info_parts int_info
  refine put_both (w.alloc _) hgd s y 22 ho base 3 i0 _ 1 8 Tryd.underlying22 hi hz0 hz1 hz2 rfl (by decide) v l.length (l.flatMap wC) hs (World.ownsRow.alloc hb _) ⟨w.heap.size, 0, none⟩ 1 1 (wC x) hx (by simp [wC]) (World.news_of_block (heap_alloc_new w _)) (by simpa using wC_one [x]) (by decide) (by unfold maxLen; omega) (by omega) (by simp; omega) ?_
  intro g cap w' hown hold hg
  refine h g cap w' ?_ hold (alloc_before hg)
  unfold OwnW
  rw [List.length_append, List.flatMap_append]
  simpa using hown
theorem wrows_src {w : World} {x : Addr} {cap : Nat} {l : List Int} (h : WsAt w (some x) cap l) :
    ∀ j u, (l.flatMap wC)[j]? = some u → w.cell? (x.add j) = some u := by
  by_cases hl : 0 < l.length
  · obtain ⟨b, o, he, _⟩ := h.at' hl
    injection he with he
    subst he
    exact rows_news wC_len (by decide) hl h
  · obtain rfl : l = [] := List.eq_nil_of_length_eq_zero (by omega)
    intro j u hu
    simp at hu
/-- all of a row, onto one of the call's own. -/
theorem put_ws {ops : Array Oper} {rest : List Oper} {o : Oper} {a : Act} {Q : Exit → Act → World → Prop} {w : World} {base : Nat} {v : Value} {l m : List Int} {x : Addr} {cap : Nat} (hgd : o.guard = none) (s y : Operand)
    (ho : o.op = .call { callee := .builtin .append, args := #[s, y], argTypes := #[22, 22] }) (hb : OwnW w base v l) (hbase : base ≤ w.heap.size)
    (hs : a.eval s = v) (n : Nat) (hx : a.eval y = .slice (some x) n cap) (hn : n = m.length) (hat : WsAt w (some x) cap m) (hsz : l.length + m.length ≤ 1000000)
    (h : ∀ v' w', OwnW w' base v' (l ++ m) → w.grownBy w' v.ownBlock → wpList Tryd.prog ops Q rest (a.put o.dst v') w') : wpList Tryd.prog ops Q (o :: rest) a w := by
  subst hn
  refine wpList_plain hgd fun K hK => ?_
  obtain ⟨i0, hi, hz0, hz1, hz2⟩ := info_parts int_info
  obtain ⟨v', w', hr, h2, h3, _, _⟩ := run_append_own_at (P := Tryd.prog) w base 22 o.type 3 i0 _ 1 8 Tryd.underlying22 hi hz0 hz1 hz2 rfl (by decide) v l.length (l.flatMap wC) hb x m.length cap (m.flatMap wC) (flats_length wC_len m) (wrows_src hat) (wC_one m) (by unfold maxLen; omega) (by omega) hbase
  unfold Oper.wp execOp
  simp only [ho, resolve, invoke, builtin, Sem.run_bind, Sem.run_pure, Result.andThen_ok, List.map_toArray, List.map_cons, List.map_nil, hs, hx, hr]
  refine hK _ _ (h v' w' ?_ h3)
  unfold OwnW
  rw [List.length_append, List.flatMap_append]
  exact h2

end Go.Proofs.YtkcccfllkgjdiaaDoor.Rg
