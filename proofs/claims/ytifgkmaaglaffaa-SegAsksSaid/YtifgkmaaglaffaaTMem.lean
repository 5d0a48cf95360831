/-
  Rows of words in memory.
-/
import Derived.Test.YtifgkmaaglaffaaTDat
import Derived.Lib.Hide
import Derived.Lib.AppendStr
import Derived.Deep.AppendLies
import Derived.Deep.OwnRows
import Derived.Deep.Draws
import Derived.Laws.OwnMore
import Derived.Laws.MakeOwn
import Derived.OwnWalk
import Derived.IntWalk
namespace Go.Proofs.Ytifgkmaaglaffaa.Top
open Go.RowKit
set_option linter.unusedVariables false

theorem lt_of_cell {w : World} {b o : Nat} {v : Value} (h : w.cell? ⟨b, o, none⟩ = some v) : b < w.heap.size := World.block_lt_of_cell? w (⟨b, o, none⟩ : Addr) h

theorem alloc_before {w w1 : World} {row : Option Nat} {o : Obj} (h : (w.alloc o).grownBy w1 row) : w.grownBy w1 row :=
  ⟨h.os, h.tape, h.output, Nat.le_trans (by simp) h.size, fun k hk hne => (h.block k (by simp; omega) hne).trans (Below.heap_alloc w o k hk)⟩

theorem World.ownsRow.below1 {w w' : World} {base : Nat} {t : TypeId} {n k : Nat} {v : Value} {xs : List Value} (h : w.ownsRow base t n v k xs) (hb : Below w.heap.size w w') : w'.ownsRow base t n v k xs := by
  refine ⟨h.1, ?_⟩
  rcases h.2 with h1 | ⟨g, cap, cur, hv, hbg, hg, r⟩
  · exact .inl h1
  · exact .inr ⟨g, cap, cur, hv, hbg, (hb.block g (Array.getElem?_eq_some_iff.1 hg).1).trans hg, r⟩

/-- a word as the program holds it. -/
def str (l : List UInt8) : Value := .string ⟨l.toArray⟩
theorem str_inj {l m : List UInt8} (h : str l = str m) : l = m := by
  unfold str at h
  injection h with h
  injection h with h
  simpa using h
theorem list_ext (l : List UInt8) (i j : Nat) : (⟨l.toArray⟩ : ByteArray).extract i j = ⟨((l.drop i).take (j - i)).toArray⟩ := by
  have e : ((⟨l.toArray⟩ : ByteArray).extract i j).data.toList = (l.drop i).take (j - i) := by
    rw [ByteArray.data_extract, Array.toList_extract]
  generalize (⟨l.toArray⟩ : ByteArray).extract i j = x at e
  obtain ⟨⟨y⟩⟩ := x
  rw [show y = _ from e]
theorem cat_list (l l' : List UInt8) : (⟨l.toArray⟩ : ByteArray) ++ ⟨l'.toArray⟩ = ⟨(l ++ l').toArray⟩ := by
  rw [ByteArray.mk_append_mk]
theorem list_same (l m : List UInt8) : ((⟨l.toArray⟩ : ByteArray).toList == (⟨m.toArray⟩ : ByteArray).toList) = (l == m) := by
  rw [ByteArray.toList_eq, ByteArray.toList_eq]
theorem list_tl (l : List UInt8) : (⟨l.toArray⟩ : ByteArray).toList = l := by
  rw [ByteArray.toList_eq]

/-- a slice of these words. -/
structure StrsAt (w : World) (a : Option Addr) (cap : Nat) (l : List (List UInt8)) : Prop where
  len : l.length ≤ cap
  at' : 0 < l.length → ∃ b o, a = some ⟨b, o, none⟩ ∧ ∀ (j : Nat) (h : j < l.length), w.cell? ⟨b, o + j, none⟩ = some (str l[j])
theorem StrsAt.nil (w : World) (a : Option Addr) (cap : Nat) : StrsAt w a cap [] := ⟨Nat.zero_le _, fun h => by simp at h⟩
theorem StrsAt.below {w w' : World} {a : Option Addr} {cap : Nat} {l : List (List UInt8)} (h : StrsAt w a cap l) (hb : Below w.heap.size w w') : StrsAt w' a cap l := by
  refine ⟨h.len, fun h0 => ?_⟩
  obtain ⟨b, o, ha, hc⟩ := h.at' h0
  exact ⟨b, o, ha, fun j hj => (hb.cell (p := ⟨b, o + j, none⟩) (lt_of_cell (hc j hj))).trans (hc j hj)⟩
/-- the first word, and the others. -/
theorem StrsAt.head {w : World} {a : Option Addr} {cap : Nat} {x : List UInt8} {l : List (List UInt8)} (h : StrsAt w a cap (x :: l)) (hcap : cap ≤ maxLen) :
    ∃ b o a', a = some ⟨b, o, none⟩ ∧ w.cell? ⟨b, o, none⟩ = some (.string ⟨x.toArray⟩) ∧ StrsAt w a' (cap - 1) l ∧ 1 ≤ cap ∧
      (∀ wx, (Instr.slice 31 (.slice (some ⟨b, o, none⟩) (l.length + 1) cap) (some (.int .i64 1)) none none).run Try.prog wx = .ok (.slice a' l.length (cap - 1)) wx) := by
  obtain ⟨b, o, ha, hc⟩ := h.at' (by simp)
  have hlen := h.len
  simp only [List.length_cons] at hlen
  refine ⟨b, o, some (if cap = 1 then ⟨b, o, none⟩ else ⟨b, o + 1, none⟩), ha, hc 0 (by simp), ⟨by omega, fun h0 => ⟨b, o + 1, by rw [if_neg (by omega)], fun j hj => ?_⟩⟩, by omega, fun wx => ?_⟩
  · have := hc (j + 1) (by simpa using hj)
    rw [show o + 1 + j = o + (j + 1) by omega]
    simpa using this
  · have hz : ∀ w, (Go.sizeOf 9).run Try.prog w = .ok 1 w := fun w => by kernel_rfl
    simp [Instr.slice, Instr.sliceBounds, Instr.sliceBound, asIntOf, run_underlying Try.underlying31, hz]
    rw [if_pos (by omega), add_at]
    by_cases h1 : cap = 1
    · rw [if_pos h1, if_pos h1]
    · rw [if_neg h1, if_neg h1]

/-- a row of the call's own. -/
def Own (w : World) (base : Nat) (v : Value) (l : List (List UInt8)) : Prop := w.ownsRow base 9 1 v l.length (l.map str)
theorem Own.nil (w : World) (base : Nat) : Own w base (.slice none 0 0) [] := World.ownsRow_nil w base _ _
theorem Own.form {w : World} {base : Nat} {v : Value} {l : List (List UInt8)} (h : Own w base v l) : ∃ a c, v = .slice a l.length c := by
  rcases h.2 with ⟨rfl, hn⟩ | ⟨g, cap, cur, rfl, _⟩
  · exact ⟨none, 0, by rw [hn]⟩
  · exact ⟨_, _, rfl⟩
theorem Own.strs {w : World} {base : Nat} {v : Value} {l : List (List UInt8)} (h : Own w base v l) : ∃ a cap, v = .slice a l.length cap ∧ cap ≤ maxLen ∧ StrsAt w a cap l := by
  rcases h.2 with ⟨rfl, hn⟩ | ⟨g, cap, cur, rfl, hbg, hg, hnc, hcm, hcs, htake⟩
  · obtain rfl : l = [] := List.eq_nil_of_length_eq_zero hn
    exact ⟨none, 0, rfl, by simp [maxLen], StrsAt.nil _ _ _⟩
  · refine ⟨_, cap, rfl, hcm, hnc, fun _ => ⟨g, 0, rfl, fun i hi => ?_⟩⟩
    rw [Nat.zero_add, cell_of_row w _ _ _ _ _ hg]
    have : cur.toList[i]? = (l.map str)[i]? := by rw [← htake, List.getElem?_take, if_pos (by omega)]
    rw [← Array.getElem?_toList, this]
    simp [List.getElem?_eq_getElem hi]
theorem str_info : (Try.prog.info? 9).map (fun i => (i.zero, i.size, i.bytes)) = some (some (.string ⟨#[]⟩), 1, 16) := by kernel_rfl

/-- a word more: it lies in the block made last. -/
theorem put_str {ops : Array Oper} {rest : List Oper} {o : Oper} {a : Act} {Q : Exit → Act → World → Prop} {w : World} {base : Nat} {v : Value} {l : List (List UInt8)} (x : List UInt8) (hgd : o.guard = none) (s y : Operand)
    (ho : o.op = .call { callee := .builtin .append, args := #[s, y], argTypes := #[31, 31] }) (hb : Own w base v l) (hbase : base ≤ w.heap.size) (hl : l.length ≤ 1000000000)
    (hs : a.eval s = v) (H : Nat) (hH : w.heap.size = H) (hx : a.eval y = .slice (some ⟨H, 0, none⟩) 1 1)
    (h : ∀ g cap w', Own w' base (.slice (some ⟨g, 0, none⟩) (l.length + 1) cap) (l ++ [x]) → w.grownBy w' v.ownBlock → (v.ownBlock = some g ∨ w.heap.size ≤ g) →
      wpList Try.prog ops Q rest (a.put o.dst (.slice (some ⟨g, 0, none⟩) (l.length + 1) cap)) w') :
    wpList Try.prog ops Q (o :: rest) a (w.alloc (.cells #[.string ⟨x.toArray⟩] 9)) := by
  subst hH
  obtain ⟨i0, hi, hz0, hz1, hz2⟩ := info_parts str_info
  have hb' := World.ownsRow.alloc hb (.cells #[.string ⟨x.toArray⟩] 9)
  have hone : ∀ u ∈ [str x], u.oneCell' = true := by
    intro u hu
    simp only [List.mem_cons, List.not_mem_nil, or_false] at hu
    subst hu
    rfl
  refine wpList_append_lies _ hgd s y 31 ho base 9 i0 _ 1 16 Try.underlying31 hi hz0 hz1 hz2 rfl (by decide) v l.length (l.map str) hs hb' ⟨w.heap.size, 0, none⟩ 1 1 [str x] hx (by simp) (World.news_of_block (heap_alloc_new w _)) hone (by decide) (by unfold maxLen; omega) (by omega) (by simp; omega) _ rfl ?_
  intro g cap w' hown hg hat hlt
  refine h g cap w' ?_ (alloc_before hg) ?_
  · unfold Own
    rw [List.length_append, List.map_append]
    simpa using hown
  · rcases hat with h1 | h1
    · exact .inl h1
    · exact .inr (by simp at h1; omega)
theorem Own.grown {w w' w0 : World} {base : Nat} {v : Value} {l : List (List UInt8)} (h : Below base w0 w) (hb : Own w base v l) (hg : w.grownBy w' v.ownBlock) (hbase : base ≤ w.heap.size) : Below base w0 w' :=
  h.grown hg hbase (fun k e => (World.ownsRow.lt hb k e).1)
/-- make: room for so many. -/
theorem make_own (w : World) (n : Nat) (hn : n ≤ 1000000000) :
    (Instr.makeSlice 31 (.int .i64 0) (.int .i64 n)).run Try.prog w = .ok (.slice (some ⟨w.heap.size, 0, none⟩) 0 n) (w.alloc (.cells (madeCells #[.string ⟨#[]⟩] n) 9)) ∧
      Own (w.alloc (.cells (madeCells #[.string ⟨#[]⟩] n) 9)) w.heap.size (.slice (some ⟨w.heap.size, 0, none⟩) 0 n) [] := by
  obtain ⟨i0, hi, hz0, hz1, hz2⟩ := info_parts str_info
  have hr := run_make (P := Try.prog) (w := w) 31 9 i0 _ Try.underlying31 hi hz0 .i64 .i64 0 n (by omega) (by omega) (by rw [hz2]; omega) (by omega)
  rw [hz1] at hr
  have e : ((n : Int).toNat * 1) = n := by simp
  refine ⟨by rw [hr, e]; rfl, rfl, .inr ⟨w.heap.size, n, _, rfl, Nat.le_refl _, heap_alloc_new w _, Nat.zero_le _, by unfold maxLen; omega, ?_, by simp⟩⟩
  simp [madeCells]
theorem Own.lt {w : World} {base : Nat} {v : Value} {l : List (List UInt8)} (h : Own w base v l) (g : Nat) (e : v.ownBlock = some g) : g < w.heap.size := (World.ownsRow.lt h g e).2
/-- another row than this one was put on. -/
theorem Own.other {w w' : World} {base : Nat} {v : Value} {l : List (List UInt8)} {row : Option Nat} (h : Own w base v l) (hg : w.grownBy w' row) (hne : ∀ g, v.ownBlock = some g → row ≠ some g) : Own w' base v l := by
  refine ⟨h.1, ?_⟩
  rcases h.2 with h1 | ⟨g, cap, cur, hv, hbg, hgg, r⟩
  · exact .inl h1
  · refine .inr ⟨g, cap, cur, hv, hbg, (hg.block g (Array.getElem?_eq_some_iff.1 hgg).1 ?_).trans hgg, r⟩
    have := hne g (by rw [hv]; rfl)
    exact fun e => this e.symm

/-- two rows of the call's own, in unlike blocks. -/
structure Pair (W w : World) (v : Value) (l : List (List UInt8)) (v' : Value) (l' : List (List UInt8)) : Prop where
  one : Own w W.heap.size v l
  two : Own w W.heap.size v' l'
  ne : ∀ g, v.ownBlock = some g → v'.ownBlock ≠ some g
  below : Below W.heap.size W w
theorem Pair.put1 {W w w' : World} {v : Value} {l : List (List UInt8)} {v' : Value} {l' : List (List UInt8)} (h : Pair W w v l v' l') {g n cap : Nat} {m : List (List UInt8)} (ho : Own w' W.heap.size (.slice (some ⟨g, 0, none⟩) n cap) m) (hg : w.grownBy w' v.ownBlock) (hat : v.ownBlock = some g ∨ w.heap.size ≤ g) :
    Pair W w' (.slice (some ⟨g, 0, none⟩) n cap) m v' l' := by
  refine ⟨ho, h.two.other hg fun k e e' => h.ne k e' e, fun k e e' => ?_, Own.grown h.below h.one hg h.below.size⟩
  have ek : g = k := by simpa [Value.ownBlock] using e
  subst ek
  rcases hat with h1 | h1
  · exact h.ne _ h1 e'
  · have := h.two.lt _ e'; omega
theorem Pair.swap {W w : World} {v : Value} {l : List (List UInt8)} {v' : Value} {l' : List (List UInt8)} (h : Pair W w v l v' l') : Pair W w v' l' v l :=
  ⟨h.two, h.one, fun g e e' => h.ne g e' e, h.below⟩
theorem Pair.put2 {W w w' : World} {v : Value} {l : List (List UInt8)} {v' : Value} {l' : List (List UInt8)} (h : Pair W w v l v' l') {g n cap : Nat} {m : List (List UInt8)} (ho : Own w' W.heap.size (.slice (some ⟨g, 0, none⟩) n cap) m) (hg : w.grownBy w' v'.ownBlock) (hat : v'.ownBlock = some g ∨ w.heap.size ≤ g) :
    Pair W w' v l (.slice (some ⟨g, 0, none⟩) n cap) m := (h.swap.put1 ho hg hat).swap
theorem Pair.nil (W : World) : Pair W W (.slice none 0 0) [] (.slice none 0 0) [] := ⟨Own.nil _ _, Own.nil _ _, fun g h => (by cases h), Below.refl _ _⟩

/-- two words more: they lie in the block made last. -/
theorem put_str2 {ops : Array Oper} {rest : List Oper} {o : Oper} {a : Act} {Q : Exit → Act → World → Prop} {w : World} {base : Nat} {v : Value} {l : List (List UInt8)} (x y : List UInt8) (hgd : o.guard = none) (s z : Operand)
    (ho : o.op = .call { callee := .builtin .append, args := #[s, z], argTypes := #[31, 31] }) (hb : Own w base v l) (hbase : base ≤ w.heap.size) (hl : l.length ≤ 1000000000)
    (hs : a.eval s = v) (H : Nat) (hH : w.heap.size = H) (hx : a.eval z = .slice (some ⟨H, 0, none⟩) 2 2)
    (h : ∀ g cap w', Own w' base (.slice (some ⟨g, 0, none⟩) (l.length + 2) cap) (l ++ [x, y]) → w.grownBy w' v.ownBlock → (v.ownBlock = some g ∨ w.heap.size ≤ g) →
      wpList Try.prog ops Q rest (a.put o.dst (.slice (some ⟨g, 0, none⟩) (l.length + 2) cap)) w') :
    wpList Try.prog ops Q (o :: rest) a (w.alloc (.cells #[.string ⟨x.toArray⟩, .string ⟨y.toArray⟩] 9)) := by
  subst hH
  obtain ⟨i0, hi, hz0, hz1, hz2⟩ := info_parts str_info
  have hb' := World.ownsRow.alloc hb (.cells #[.string ⟨x.toArray⟩, .string ⟨y.toArray⟩] 9)
  have hone : ∀ u ∈ [str x, str y], u.oneCell' = true := by
    intro u hu
    simp only [List.mem_cons, List.not_mem_nil, or_false] at hu
    rcases hu with rfl | rfl <;> rfl
  refine wpList_append_lies _ hgd s z 31 ho base 9 i0 _ 1 16 Try.underlying31 hi hz0 hz1 hz2 rfl (by decide) v l.length (l.map str) hs hb' ⟨w.heap.size, 0, none⟩ 2 2 [str x, str y] hx (by simp) (World.news_of_block (heap_alloc_new w _)) hone (by decide) (by unfold maxLen; omega) (by omega) (by simp; omega) _ rfl ?_
  intro g cap w' hown hg hat hlt
  refine h g cap w' ?_ (alloc_before hg) ?_
  · unfold Own
    rw [List.length_append, List.map_append]
    simpa using hown
  · rcases hat with h1 | h1
    · exact .inl h1
    · exact .inr (by simp at h1; omega)

theorem Pair.to {W w w' : World} {v : Value} {l : List (List UInt8)} {v' : Value} {l' : List (List UInt8)} (h : Pair W w v l v' l') (hb : Below w.heap.size w w') : Pair W w' v l v' l' :=
  ⟨World.ownsRow.below1 h.one hb, World.ownsRow.below1 h.two hb, h.ne, h.below.trans (hb.mono h.below.size)⟩

end Go.Proofs.Ytifgkmaaglaffaa.Top
