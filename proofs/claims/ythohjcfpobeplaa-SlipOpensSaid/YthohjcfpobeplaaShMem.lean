/-
  Messages, held ones and marks in memory: rows that are read, rows of the call's own; a shard.
-/
import Derived.Test.YthohjcfpobeplaaShDat
import Derived.Test.YthohjcfpobeplaaRgMemG
import Derived.Test.YthohjcfpobeplaaScope
import Derived.Deep.QuietTactic
import Derived.BigQuiet
import Derived.BigRegion
import Derived.Laws.AppendOwnNone
set_option linter.unusedSimpArgs false
namespace Go.Proofs.Ythohjcfpobeplaa.Sh
open Go.RowKit Rg
set_option linter.unusedVariables false

/-- a row's elements: their cells, the types' facts. -/
structure El {α : Type} (k : Nat) (f : α → List Value) (E T : TypeId) : Prop where
  pos : 0 < k
  len : ∀ x, (f x).length = k
  one : ∀ (l : List α), ∀ u ∈ l.flatMap f, u.oneCell' = true
  und : Try.prog.underlying T = some (.slice E)
  siz : ∀ w, (Go.sizeOf E).run Try.prog w = .ok k w
  info : ∃ i z bytes, Try.prog.info? E = some i ∧ i.zero = some z ∧ i.size = k ∧ i.bytes = bytes ∧ bytes ≤ 1000 ∧ z.cells.size = k

section
variable {α : Type} {k : Nat} {f : α → List Value} {E T : TypeId}
theorem El.src (h : El k f E T) {w : World} {x : Addr} {cap : Nat} {l : List α} (hr : RowsAt k f w (some x) cap l) : ∀ j u, (l.flatMap f)[j]? = some u → w.cell? (x.add j) = some u := by
  by_cases hl : 0 < l.length
  · obtain ⟨b, o, he, _⟩ := hr.at' hl
    injection he with he
    subst he
    exact rows_news h.len h.pos hl hr
  · obtain rfl : l = [] := List.eq_nil_of_length_eq_zero (by omega)
    intro j u hu
    simp at hu
theorem rows_nil {w : World} {cap : Nat} {l : List α} (h : RowsAt k f w none cap l) : l = [] := by
  by_cases hl : 0 < l.length
  · obtain ⟨b, o, he, _⟩ := h.at' hl
    cases he
  · exact List.eq_nil_of_length_eq_zero (by omega)
/-- the first n. -/
theorem El.front (h : El k f E T) {w : World} {a : Option Addr} {cap : Nat} {l : List α} (hr : RowsAt k f w a cap l) (hn : a = none → cap = 0) (n : Nat) (hk : n ≤ l.length) :
    RowsAt k f w a cap (l.take n) ∧ ∀ wx, (Instr.slice T (.slice a l.length cap) none (some (.int .i64 n)) none).run Try.prog wx = .ok (.slice a n cap) wx := by
  have hlen := hr.len
  have hmax := hr.max
  refine ⟨⟨by simp; omega, hr.max, fun h0 => ?_⟩, fun wx => ?_⟩
  · simp only [List.length_take] at h0
    obtain ⟨b, o, ha, hc⟩ := hr.at' (by omega)
    refine ⟨b, o, ha, fun i hi r v hv => ?_⟩
    simp only [List.length_take] at hi
    rw [List.getElem_take] at hv
    exact hc i (by omega) r v hv
  · cases a with
    | none =>
      obtain rfl := hn rfl
      obtain rfl : n = 0 := by omega
      simp [Instr.slice, Instr.sliceBounds, Instr.sliceBound, asIntOf, run_underlying h.und, h.siz]
    | some x =>
      simp [Instr.slice, Instr.sliceBounds, Instr.sliceBound, asIntOf, run_underlying h.und, h.siz]
      rw [if_pos (by omega), add_nil]
      simp
/-- those behind the first n. -/
theorem El.back (h : El k f E T) {w : World} {a : Option Addr} {cap : Nat} {l : List α} (hr : RowsAt k f w a cap l) (hn : a = none → cap = 0) (n : Nat) (hk : n ≤ l.length) :
    ∃ a', RowsAt k f w a' (cap - n) (l.drop n) ∧ (a' = none → cap - n = 0) ∧ ∀ wx, (Instr.slice T (.slice a l.length cap) (some (.int .i64 n)) none none).run Try.prog wx = .ok (.slice a' (l.drop n).length (cap - n)) wx := by
  have hlen := hr.len
  have hmax := hr.max
  cases a with
  | none =>
    obtain rfl := hn rfl
    obtain rfl : n = 0 := by omega
    refine ⟨none, by simpa using hr, fun _ => rfl, fun wx => ?_⟩
    have hl : l.length = 0 := by omega
    simp [Instr.slice, Instr.sliceBounds, Instr.sliceBound, asIntOf, run_underlying h.und, h.siz, hl]
  | some x =>
    refine ⟨some (if cap - n = 0 then x else x.add (n * k)), ⟨by simp; omega, by omega, fun h0 => ?_⟩, (fun h => by cases h), fun wx => ?_⟩
    · simp only [List.length_drop] at h0
      obtain ⟨b, o, ha, hc⟩ := hr.at' (by omega)
      injection ha with ha
      subst ha
      refine ⟨b, o + n * k, by rw [if_neg (by omega), add_at], fun i hi r v hv => ?_⟩
      simp only [List.length_drop] at hi
      rw [List.getElem_drop] at hv
      have := hc (n + i) (by omega) r v hv
      rwa [show o + (n + i) * k + r = o + n * k + i * k + r by rw [Nat.add_mul]; omega] at this
    · simp [Instr.slice, Instr.sliceBounds, Instr.sliceBound, asIntOf, run_underlying h.und, h.siz]
      rw [if_pos hk]
      by_cases hc : cap = n
      · rw [if_pos hc, if_pos (by omega)]
      · rw [if_neg hc, if_neg (by omega)]
/-- the first one, and the others. -/
theorem El.head (h : El k f E T) {w : World} {a : Option Addr} {cap : Nat} {x : α} {l : List α} (hr : RowsAt k f w a cap (x :: l)) :
    ∃ b o a', a = some ⟨b, o, none⟩ ∧ (∀ (r : Nat) (v : Value), (f x)[r]? = some v → w.cell? ⟨b, o + r, none⟩ = some v) ∧
      RowsAt k f w a' (cap - 1) l ∧ 1 ≤ cap ∧ (a' = none → cap - 1 = 0) ∧
      (∀ wx, (Instr.slice T (.slice (some ⟨b, o, none⟩) (l.length + 1) cap) (some (.int .i64 1)) none none).run Try.prog wx = .ok (.slice a' l.length (cap - 1)) wx) := by
  obtain ⟨b, o, ha, hc⟩ := hr.at' (by simp)
  have hlen := hr.len
  simp only [List.length_cons] at hlen
  subst ha
  obtain ⟨a', h1, h2, h3⟩ := h.back hr (fun e => by cases e) 1 (by simp)
  refine ⟨b, o, a', rfl, fun r v hv => ?_, by simpa using h1, by omega, h2, fun wx => by simpa using h3 wx⟩
  have := hc 0 (by simp) r v (by simpa using hv)
  rwa [show o + 0 * k + r = o + r by omega] at this

/-! ### rows of the call's own -/
def OwnE (k : Nat) (f : α → List Value) (E : TypeId) (w : World) (base : Nat) (v : Value) (l : List α) : Prop := w.ownsRow base E k v l.length (l.flatMap f)
theorem OwnE.nil (k : Nat) (f : α → List Value) (E : TypeId) (w : World) (base : Nat) : OwnE k f E w base (.slice none 0 0) [] := World.ownsRow_nil w base _ _
theorem OwnE.at (h0 : El k f E T) {w : World} {base : Nat} {v : Value} {l : List α} (h : OwnE k f E w base v l) : ∃ a cap, v = .slice a l.length cap ∧ RowsAt k f w a cap l ∧ (a = none → cap = 0) := by
  rcases h.2 with ⟨rfl, hn⟩ | ⟨g, cap, cur, rfl, hbg, hg, hnc, hcm, hcs, htake⟩
  · obtain rfl : l = [] := List.eq_nil_of_length_eq_zero hn
    exact ⟨none, 0, rfl, RowsAt.nil _ _ _ _ _ (by simp [maxLen]), fun _ => rfl⟩
  · obtain ⟨a, c, e, hr⟩ := rows_of_own h0.len h
    cases e
    exact ⟨_, _, rfl, hr, fun e => by cases e⟩
theorem OwnE.below1 {w w' : World} {base : Nat} {v : Value} {l : List α} (h : OwnE k f E w base v l) (hb : Below w.heap.size w w') : OwnE k f E w' base v l := owns_below1 h hb
theorem OwnE.mono {w : World} {base base' : Nat} {v : Value} {l : List α} (h : OwnE k f E w base v l) (hb : base' ≤ base) : OwnE k f E w base' v l := own_mono h hb
theorem OwnE.kept {w w' : World} {base : Nat} {v : Value} {l : List α} (h : OwnE k f E w base v l) (hk : ∀ b, base ≤ b → b < w.heap.size → w'.heap[b]? = w.heap[b]?) : OwnE k f E w' base v l := by
  refine ⟨h.1, ?_⟩
  rcases h.2 with h1 | ⟨g, cap, cur, hv, hbg, hg, r⟩
  · exact .inl h1
  · exact .inr ⟨g, cap, cur, hv, hbg, (hk g hbg (Array.getElem?_eq_some_iff.1 hg).1).trans hg, r⟩
theorem OwnE.grown {w w' w0 : World} {base : Nat} {v : Value} {l : List α} (h : Below base w0 w) (hb : OwnE k f E w base v l) (hg : w.grownBy w' v.ownBlock) (hbase : base ≤ w.heap.size) : Below base w0 w' :=
  h.grown hg hbase (fun b e => (World.ownsRow.lt hb b e).1)
theorem OwnE.drewN {w : World} {base : Nat} {v : Value} {l : List α} (h : OwnE k f E w base v l) (n : Nat) : OwnE k f E (w.drewN n) base v l := h.below1 (Below.drewN (Below.refl _ _) n)
theorem OwnE.lit (h0 : El k f E T) (w : World) (base : Nat) (hb : base ≤ w.heap.size) : OwnE k f E (w.alloc (.cells #[] E)) base (.slice (some ⟨w.heap.size, 0, none⟩) 0 0) ([] : List α) := World.ownsRow_lit w #[] 0 hb (by decide) (by simp)

theorem run_rows (h0 : El k f E T) {w : World} {base : Nat} {v : Value} {l m : List α} {a0 : Option Addr} {cap : Nat} (ty : TypeId) (hb : OwnE k f E w base v l) (hbase : base ≤ w.heap.size) (hat : RowsAt k f w a0 cap m) (hsz : l.length + m.length ≤ 1000000) (hn0 : a0 = none → cap = 0) :
    ∃ v' w', (Builtin.append_ #[T, T] ty #[v, .slice a0 m.length cap]).run Try.prog w = .ok v' w' ∧ OwnE k f E w' base v' (l ++ m) ∧ w.grownBy w' v.ownBlock := by
  obtain ⟨i0, z, by', hi, hz0, hz1, hz2, hz3, hz4⟩ := h0.info
  cases a0 with
  | none =>
    obtain rfl := rows_nil hat
    obtain rfl := hn0 rfl
    exact ⟨v, w, run_append_owned_none w base T ty E i0 k h0.und hi v _ _ hb, by simpa using hb, rfl, rfl, rfl, Nat.le_refl _, fun _ _ _ => rfl⟩
  | some x =>
    have hby : (l.length + m.length) * by' ≤ 140737488355328 := Nat.le_trans (Nat.mul_le_mul hsz hz3) (by decide)
    obtain ⟨v', w', hr, h2, h3, _, _⟩ := run_append_own_at (P := Try.prog) w base T ty E i0 _ k by' h0.und hi hz0 hz1 hz2 hz4 h0.pos v l.length (l.flatMap f) hb x m.length cap (m.flatMap f) (flats_length h0.len m) (h0.src hat) (h0.one m) (by unfold maxLen; omega) hby hbase
    refine ⟨v', w', hr, ?_, h3⟩
    unfold OwnE
    rw [List.length_append, List.flatMap_append]
    exact h2
theorem put_rows (h0 : El k f E T) {ops : Array Oper} {rest : List Oper} {o : Oper} {a : Act} {Q : Exit → Act → World → Prop} {w : World} {base : Nat} {v : Value} {l m : List α} {a0 : Option Addr} {cap : Nat} (hgd : o.guard = none) (s y : Operand)
    (ho : o.op = .call { callee := .builtin .append, args := #[s, y], argTypes := #[T, T] }) (hb : OwnE k f E w base v l) (hbase : base ≤ w.heap.size)
    (hs : a.eval s = v) (n : Nat) (hx : a.eval y = .slice a0 n cap) (hn : n = m.length) (hat : RowsAt k f w a0 cap m) (hsz : l.length + m.length ≤ 1000000) (hn0 : a0 = none → cap = 0)
    (h : ∀ v' w', OwnE k f E w' base v' (l ++ m) → w.grownBy w' v.ownBlock → wpList Try.prog ops Q rest (a.put o.dst v') w') : wpList Try.prog ops Q (o :: rest) a w := by
  subst hn
  refine wpList_plain hgd fun K hK => ?_
  obtain ⟨v', w', hr, h2, h3⟩ := run_rows h0 o.type hb hbase hat hsz hn0
  unfold Oper.wp execOp
  simp only [ho, resolve, invoke, builtin, Sem.run_bind, Sem.run_pure, Result.andThen_ok, List.map_toArray, List.map_cons, List.map_nil, hs, hx, hr]
  exact hK _ _ (h v' w' h2 h3)
theorem step_put_rows (h0 : El k f E T) {ops : Array Oper} {o : Oper} {a : Act} {K : Act → World → Prop} {Q : Exit → Act → World → Prop} {Z : Prop} {w : World} {base : Nat} {v : Value} {l m : List α} {a0 : Option Addr} {cap : Nat} (hgd : o.guard = none) (s y : Operand)
    (ho : o.op = .call { callee := .builtin .append, args := #[s, y], argTypes := #[T, T] }) (hb : OwnE k f E w base v l) (hbase : base ≤ w.heap.size)
    (hs : a.eval s = v) (n : Nat) (hx : a.eval y = .slice a0 n cap) (hn : n = m.length) (hat : RowsAt k f w a0 cap m) (hsz : l.length + m.length ≤ 1000000) (hn0 : a0 = none → cap = 0)
    (h : ∀ v' w', OwnE k f E w' base v' (l ++ m) → w.grownBy w' v.ownBlock → K (a.put o.dst v') w') :
    if Region.wanted o (yielded ops a.tmps) = true then Oper.wp Try.prog o a w K Q else Z := by
  subst hn
  rw [if_pos (by simp [Region.wanted, hgd])]
  obtain ⟨v', w', hr, h2, h3⟩ := run_rows h0 o.type hb hbase hat hsz hn0
  unfold Oper.wp execOp
  simp only [ho, resolve, invoke, builtin, Sem.run_bind, Sem.run_pure, Result.andThen_ok, List.map_toArray, List.map_cons, List.map_nil, hs, hx, hr]
  exact h v' w' h2 h3
/-- one more: it lies in the block made last. -/
theorem run_one (h0 : El k f E T) {w : World} {base : Nat} {v : Value} {l : List α} (ty : TypeId) (x : α) (hb : OwnE k f E w base v l) (hbase : base ≤ w.heap.size) (hl : l.length ≤ 900000) (cs : Array Value) (hcs : cs = (f x).toArray) :
    ∃ v' w', (Builtin.append_ #[T, T] ty #[v, .slice (some ⟨w.heap.size, 0, none⟩) 1 1]).run Try.prog (w.alloc (.cells cs E)) = .ok v' w' ∧ OwnE k f E w' base v' (l ++ [x]) ∧ w.grownBy w' v.ownBlock := by
  subst hcs
  have hat : RowsAt k f (w.alloc (.cells (f x).toArray E)) (some ⟨w.heap.size, 0, none⟩) 1 [x] := ⟨by simp, by simp [maxLen], fun _ => ⟨_, _, rfl, fun i hi r u hu => by
    simp at hi
    subst hi
    rw [cell_of_row _ _ _ _ _ _ (heap_alloc_new w _)]
    simpa using hu⟩⟩
  obtain ⟨v', w', h1, h2, h3⟩ := run_rows h0 ty (World.ownsRow.alloc hb _ : OwnE k f E _ base v l) (by simp; omega) hat (by simp; omega) (fun e => by cases e)
  exact ⟨v', w', h1, h2, alloc_before h3⟩
theorem put_one (h0 : El k f E T) {ops : Array Oper} {rest : List Oper} {o : Oper} {a : Act} {Q : Exit → Act → World → Prop} {w : World} {base : Nat} {v : Value} {l : List α} (x : α) (hgd : o.guard = none) (s y : Operand)
    (ho : o.op = .call { callee := .builtin .append, args := #[s, y], argTypes := #[T, T] }) (hb : OwnE k f E w base v l) (hbase : base ≤ w.heap.size) (hl : l.length ≤ 900000) (cs : Array Value) (hcs : cs = (f x).toArray)
    (hs : a.eval s = v) (H : Nat) (hH : w.heap.size = H) (hx : a.eval y = .slice (some ⟨H, 0, none⟩) 1 1)
    (h : ∀ v' w', OwnE k f E w' base v' (l ++ [x]) → w.grownBy w' v.ownBlock → wpList Try.prog ops Q rest (a.put o.dst v') w') :
    wpList Try.prog ops Q (o :: rest) a (w.alloc (.cells cs E)) := by
  subst hH
  refine wpList_plain hgd fun K hK => ?_
  obtain ⟨v', w', hr, h2, h3⟩ := run_one h0 o.type x hb hbase hl cs hcs
  unfold Oper.wp execOp
  simp only [ho, resolve, invoke, builtin, Sem.run_bind, Sem.run_pure, Result.andThen_ok, List.map_toArray, List.map_cons, List.map_nil, hs, hx, hr]
  exact hK _ _ (h v' w' h2 h3)
theorem step_put_one (h0 : El k f E T) {ops : Array Oper} {o : Oper} {a : Act} {K : Act → World → Prop} {Q : Exit → Act → World → Prop} {Z : Prop} {w : World} {base : Nat} {v : Value} {l : List α} (x : α) (hgd : o.guard = none) (s y : Operand)
    (ho : o.op = .call { callee := .builtin .append, args := #[s, y], argTypes := #[T, T] }) (hb : OwnE k f E w base v l) (hbase : base ≤ w.heap.size) (hl : l.length ≤ 900000) (cs : Array Value) (hcs : cs = (f x).toArray)
    (hs : a.eval s = v) (H : Nat) (hH : w.heap.size = H) (hx : a.eval y = .slice (some ⟨H, 0, none⟩) 1 1)
    (h : ∀ v' w', OwnE k f E w' base v' (l ++ [x]) → w.grownBy w' v.ownBlock → K (a.put o.dst v') w') :
    if Region.wanted o (yielded ops a.tmps) = true then Oper.wp Try.prog o a (w.alloc (.cells cs E)) K Q else Z := by
  subst hH
  rw [if_pos (by simp [Region.wanted, hgd])]
  obtain ⟨v', w', hr, h2, h3⟩ := run_one h0 o.type x hb hbase hl cs hcs
  unfold Oper.wp execOp
  simp only [ho, resolve, invoke, builtin, Sem.run_bind, Sem.run_pure, Result.andThen_ok, List.map_toArray, List.map_cons, List.map_nil, hs, hx, hr]
  exact h v' w' h2 h3
end

/-! ### messages, held ones, marks -/
def mgC (m : Mg) : List Value := [.int .i64 m.pub, .int .i64 m.seq, .string ⟨m.key.toArray⟩, .string ⟨m.body.toArray⟩, .bool m.again]
def hdC (h : Hd) : List Value := [.int .i64 h.tag, .int .i64 h.m.pub, .int .i64 h.m.seq, .string ⟨h.m.key.toArray⟩, .string ⟨h.m.body.toArray⟩, .bool h.m.again]
def mkC (m : Mk) : List Value := [.int .i64 m.pub, .string ⟨m.key.toArray⟩, .int .i64 m.seq]
theorem mg_one (l : List Mg) : ∀ u ∈ l.flatMap mgC, u.oneCell' = true := by
  intro u hu
  obtain ⟨e, _, he⟩ := List.mem_flatMap.1 hu
  simp only [mgC, List.mem_cons, List.not_mem_nil, or_false] at he
  rcases he with rfl | rfl | rfl | rfl | rfl <;> rfl
theorem hd_one (l : List Hd) : ∀ u ∈ l.flatMap hdC, u.oneCell' = true := by
  intro u hu
  obtain ⟨e, _, he⟩ := List.mem_flatMap.1 hu
  simp only [hdC, List.mem_cons, List.not_mem_nil, or_false] at he
  rcases he with rfl | rfl | rfl | rfl | rfl | rfl <;> rfl
theorem mk_one (l : List Mk) : ∀ u ∈ l.flatMap mkC, u.oneCell' = true := by
  intro u hu
  obtain ⟨e, _, he⟩ := List.mem_flatMap.1 hu
  simp only [mkC, List.mem_cons, List.not_mem_nil, or_false] at he
  rcases he with rfl | rfl | rfl <;> rfl
theorem el_info {E : TypeId} {k by' : Nat} {z : Value} (h : (Try.prog.info? E).map (fun i => (i.zero, i.size, i.bytes)) = some (some z, k, by')) (h1 : by' ≤ 1000) (h2 : z.cells.size = k) : ∃ i z bytes, Try.prog.info? E = some i ∧ i.zero = some z ∧ i.size = k ∧ i.bytes = bytes ∧ bytes ≤ 1000 ∧ z.cells.size = k := by
  obtain ⟨i0, h3, h4, h5, h6⟩ := info_parts h
  exact ⟨i0, z, by', h3, h4, h5, h6, h1, h2⟩
theorem mgE : El 5 mgC 35 22 :=
  ⟨by decide, fun _ => rfl, mg_one, Try.underlying22, fun w => by kernel_rfl, el_info (by' := 56) (z := .agg #[.int .i64 0, .int .i64 0, .string ⟨#[]⟩, .string ⟨#[]⟩, .bool false]) (by kernel_rfl) (by decide) rfl⟩
theorem hdE : El 6 hdC 37 23 :=
  ⟨by decide, fun _ => rfl, hd_one, Try.underlying23, fun w => by kernel_rfl, el_info (by' := 64) (z := .agg #[.int .i64 0, .int .i64 0, .int .i64 0, .string ⟨#[]⟩, .string ⟨#[]⟩, .bool false]) (by kernel_rfl) (by decide) rfl⟩
theorem mkE : El 3 mkC 93 24 :=
  ⟨by decide, fun _ => rfl, mk_one, Try.underlying24, fun w => by kernel_rfl, el_info (by' := 32) (z := .agg #[.int .i64 0, .string ⟨#[]⟩, .int .i64 0]) (by kernel_rfl) (by decide) rfl⟩
abbrev MgsAt := RowsAt 5 mgC
abbrev HdsAt := RowsAt 6 hdC
abbrev MksAt := RowsAt 3 mkC
abbrev OwnG := OwnE 5 mgC 35
abbrev OwnH := OwnE 6 hdC 37
abbrev OwnK := OwnE 3 mkC 93

theorem MgsAt.get {w : World} {a : Option Addr} {cap : Nat} {l : List Mg} (h : MgsAt w a cap l) (i : Nat) (hi : i < l.length) :
    ∃ b o, a = some ⟨b, o, none⟩ ∧ w.cell? ⟨b, o + i * 5, none⟩ = some (.int .i64 l[i].pub) ∧ w.cell? ⟨b, o + i * 5 + 1, none⟩ = some (.int .i64 l[i].seq) ∧ w.cell? ⟨b, o + i * 5 + 2, none⟩ = some (.string ⟨l[i].key.toArray⟩) ∧ w.cell? ⟨b, o + i * 5 + 3, none⟩ = some (.string ⟨l[i].body.toArray⟩) ∧ w.cell? ⟨b, o + i * 5 + 4, none⟩ = some (.bool l[i].again) := by
  obtain ⟨b, o, ha, hc⟩ := h.at' (by omega)
  exact ⟨b, o, ha, hc i hi 0 _ rfl, hc i hi 1 _ rfl, hc i hi 2 _ rfl, hc i hi 3 _ rfl, hc i hi 4 _ rfl⟩
theorem HdsAt.get {w : World} {a : Option Addr} {cap : Nat} {l : List Hd} (h : HdsAt w a cap l) (i : Nat) (hi : i < l.length) :
    ∃ b o, a = some ⟨b, o, none⟩ ∧ w.cell? ⟨b, o + i * 6, none⟩ = some (.int .i64 l[i].tag) ∧ w.cell? ⟨b, o + i * 6 + 1, none⟩ = some (.int .i64 l[i].m.pub) ∧ w.cell? ⟨b, o + i * 6 + 2, none⟩ = some (.int .i64 l[i].m.seq) ∧ w.cell? ⟨b, o + i * 6 + 3, none⟩ = some (.string ⟨l[i].m.key.toArray⟩) ∧ w.cell? ⟨b, o + i * 6 + 4, none⟩ = some (.string ⟨l[i].m.body.toArray⟩) ∧ w.cell? ⟨b, o + i * 6 + 5, none⟩ = some (.bool l[i].m.again) := by
  obtain ⟨b, o, ha, hc⟩ := h.at' (by omega)
  exact ⟨b, o, ha, hc i hi 0 _ rfl, hc i hi 1 _ rfl, hc i hi 2 _ rfl, hc i hi 3 _ rfl, hc i hi 4 _ rfl, hc i hi 5 _ rfl⟩
theorem MksAt.get {w : World} {a : Option Addr} {cap : Nat} {l : List Mk} (h : MksAt w a cap l) (i : Nat) (hi : i < l.length) :
    ∃ b o, a = some ⟨b, o, none⟩ ∧ w.cell? ⟨b, o + i * 3, none⟩ = some (.int .i64 l[i].pub) ∧ w.cell? ⟨b, o + i * 3 + 1, none⟩ = some (.string ⟨l[i].key.toArray⟩) ∧ w.cell? ⟨b, o + i * 3 + 2, none⟩ = some (.int .i64 l[i].seq) := by
  obtain ⟨b, o, ha, hc⟩ := h.at' (by omega)
  exact ⟨b, o, ha, hc i hi 0 _ rfl, hc i hi 1 _ rfl, hc i hi 2 _ rfl⟩

/-- a shard in memory: its rows. -/
structure SdAt (w : World) (ra : Option Addr) (rc : Nat) (ha : Option Addr) (hc : Nat) (ma : Option Addr) (mc : Nat) (s : Sd) : Prop where
  rd : MgsAt w ra rc s.rd
  hd : HdsAt w ha hc s.hd
  ms : MksAt w ma mc s.ms
  nr : ra = none → rc = 0
  nh : ha = none → hc = 0
  nm : ma = none → mc = 0
  sm : s.rd.length ≤ 1000 ∧ s.hd.length ≤ 1000 ∧ s.ms.length ≤ 1000
theorem SdAt.below {w w' : World} (ra : Option Addr) (rc : Nat) (ha : Option Addr) (hc : Nat) (ma : Option Addr) (mc : Nat) {s : Sd} (h : SdAt w ra rc ha hc ma mc s) (hb : Below w.heap.size w w') : SdAt w' ra rc ha hc ma mc s :=
  ⟨h.rd.below hb, h.hd.below hb, h.ms.below hb, h.nr, h.nh, h.nm, h.sm⟩
theorem SdAt.under {B : Nat} {w0 w w' : World} (ra : Option Addr) (rc : Nat) (ha : Option Addr) (hc : Nat) (ma : Option Addr) (mc : Nat) {s : Sd} (h : SdAt w ra rc ha hc ma mc s) (h1 : Below B w0 w) (hb : Below w.heap.size w w') : SdAt w' ra rc ha hc ma mc s := h.below _ _ _ _ _ _ hb
/-- a shard of the call's own. -/
structure OwnS (w : World) (base : Nat) (s : Sd) (vr vh vm : Value) : Prop where
  rd : OwnG w base vr s.rd
  hd : OwnH w base vh s.hd
  ms : OwnK w base vm s.ms

/-! ### a shard's box of five cells -/
theorem set_heap {w : World} {g : Nat} {cs : Array Value} {t : TypeId} {fr : Nat × Nat} (h : w.heap[g]? = some (.cells cs t fr)) (i : Nat) (u : Value) : (w.setCell ⟨g, i, none⟩ u).heap[g]? = some (.cells (cs.setIfInBounds i u) t fr) := by
  simp [World.setCell, Array.getElem?_modify, h]
theorem box5 {w : World} {g : Nat} {x y z u v : Value} {t : TypeId} (h : w.heap[g]? = some (.cells #[x, y, z, u, v] t (0, 0))) :
    (w.cell? ⟨g, 0, none⟩ = some x ∧ w.cell? ⟨g, 1, none⟩ = some y ∧ w.cell? ⟨g, 2, none⟩ = some z ∧ w.cell? ⟨g, 3, none⟩ = some u ∧ w.cell? ⟨g, 4, none⟩ = some v) ∧
    w.frozen? ⟨g, 0, none⟩ = false ∧ w.frozen? ⟨g, 1, none⟩ = false ∧ w.frozen? ⟨g, 2, none⟩ = false ∧ w.frozen? ⟨g, 3, none⟩ = false ∧ w.frozen? ⟨g, 4, none⟩ = false := by
  refine ⟨⟨?_, ?_, ?_, ?_, ?_⟩, ?_, ?_, ?_, ?_, ?_⟩
  all_goals first | (rw [cell_of_row w _ _ _ _ _ h]; rfl) | simp [World.frozen?, h]
def set5 (w : World) (g : Nat) (x y z u v : Value) : World := ((((w.setCell ⟨g, 0, none⟩ x).setCell ⟨g, 1, none⟩ y).setCell ⟨g, 2, none⟩ z).setCell ⟨g, 3, none⟩ u).setCell ⟨g, 4, none⟩ v
theorem set5_heap (w : World) (g : Nat) (x y z u v : Value) (b : Nat) (h : b ≠ g) : (set5 w g x y z u v).heap[b]? = w.heap[b]? := by
  unfold set5
  rw [Below.heap_setCell _ _ _ _ h, Below.heap_setCell _ _ _ _ h, Below.heap_setCell _ _ _ _ h, Below.heap_setCell _ _ _ _ h, Below.heap_setCell _ _ _ _ h]
theorem set5_below {B : Nat} {a w : World} (h : Below B a w) {g : Nat} (hg : B ≤ g) (x y z u v : Value) : Below B a (set5 w g x y z u v) := by
  unfold set5
  exact ((((h.setCell (p := ⟨g, 0, none⟩) hg _).setCell (p := ⟨g, 1, none⟩) hg _).setCell (p := ⟨g, 2, none⟩) hg _).setCell (p := ⟨g, 3, none⟩) hg _).setCell (p := ⟨g, 4, none⟩) hg _
theorem set5_box {w : World} {g : Nat} {x y z u v : Value} {t : TypeId} (h : w.heap[g]? = some (.cells #[x, y, z, u, v] t (0, 0))) (x' y' z' u' v' : Value) : (set5 w g x' y' z' u' v').heap[g]? = some (.cells #[x', y', z', u', v'] t (0, 0)) := by
  unfold set5
  have h1 := set_heap h 0 x'
  have h2 := set_heap h1 1 y'
  have h3 := set_heap h2 2 z'
  have h4 := set_heap h3 3 u'
  have h5 := set_heap h4 4 v'
  exact h5
theorem set5_size (w : World) (g : Nat) (x y z u v : Value) : (set5 w g x y z u v).heap.size = w.heap.size := by
  unfold set5; simp
/-- an answer that is a shard and a code. -/
def ShR (s' : Sd) (c : Int) (w : World) (e : Ending) (w' : World) : Prop :=
  ∃ ra rc ha hc ma mc, e = .returned (.tuple #[.agg #[.bool s'.fr, .int .i64 s'.nx, .slice ra s'.rd.length rc, .slice ha s'.hd.length hc, .slice ma s'.ms.length mc], .int .i64 c]) ∧ SdAt w' ra rc ha hc ma mc s' ∧ Below w.heap.size w w'
/-- two boxes made. -/
theorem two_box {w : World} (o1 o2 : Obj) : ((w.alloc o1).alloc o2).heap[w.heap.size]? = some o1 ∧ ((w.alloc o1).alloc o2).heap[w.heap.size + 1]? = some o2 ∧ Below w.heap.size w ((w.alloc o1).alloc o2) ∧ ((w.alloc o1).alloc o2).heap.size = w.heap.size + 2 := by
  refine ⟨by rw [Below.heap_alloc _ _ _ (by simp), heap_alloc_new], ?_, ((Below.refl _ _).alloc (Nat.le_refl _) _).alloc (by simp) _, by simp⟩
  have := heap_alloc_new (w.alloc o1) o2
  rwa [show (w.alloc o1).heap.size = w.heap.size + 1 by simp] at this

end Go.Proofs.Ythohjcfpobeplaa.Sh
