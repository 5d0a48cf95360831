/-
  A row of arcs cut in two; all of a row put onto one of the call's own.
-/
import Derived.Test.YtfmdlmhfckjniaaRgMay
import Derived.Test.YtfmdlmhfckjniaaRgHalf
import Derived.Laws.AppendOwnNone
set_option linter.unusedSimpArgs false
namespace Go.Proofs.Ytfmdlmhfckjniaa.Rg
open Go.RowKit
set_option linter.unusedVariables false

theorem put_at (l : List Ar) (a : Ar) : ∃ K, K ≤ l.length ∧ (∀ i (h : i < l.length), i < K → l[i].f < a.f) ∧
    (∀ h : K < l.length, ¬ l[K].f < a.f ∧ (l[K].f = a.f → putF l a = l) ∧ (¬ l[K].f = a.f → putF l a = l.take K ++ a :: l.drop K)) ∧ (K = l.length → putF l a = l.take K ++ a :: l.drop K) := by
  induction l with
  | nil => exact ⟨0, Nat.le_refl _, fun i h => by simp at h, fun h => by simp at h, fun _ => rfl⟩
  | cons b t ih =>
    obtain ⟨K, h1, h2, h3, h4⟩ := ih
    by_cases hb : b.f < a.f
    · have hp : putF (b :: t) a = b :: putF t a := by
        show (if b.f < a.f then b :: putF t a else if b.f = a.f then b :: t else a :: b :: t) = _
        rw [if_pos hb]
      refine ⟨K + 1, by simpa using h1, fun i h hi => ?_, fun h => ?_, fun h => ?_⟩
      · cases i with
        | zero => exact hb
        | succ i => exact h2 i (by simpa using h) (by omega)
      · obtain ⟨g1, g2, g3⟩ := h3 (by simpa using h)
        refine ⟨g1, fun e => ?_, fun e => ?_⟩
        · rw [hp, g2 e]
        · rw [hp, g3 e]; rfl
      · rw [hp, h4 (by simpa using h)]; rfl
    · refine ⟨0, Nat.zero_le _, fun i h hi => by omega, fun h => ⟨hb, fun e => ?_, fun e => ?_⟩, fun h => by simp at h⟩
      · have e' : b.f = a.f := e
        unfold putF; rw [if_neg hb, if_pos e']
      · have e' : ¬ b.f = a.f := e
        unfold putF; rw [if_neg hb, if_neg e']; rfl

theorem rows_src {w : World} {x : Addr} {cap : Nat} {l : List Ar} (h : AsAt w (some x) cap l) :
    ∀ j u, (l.flatMap arC)[j]? = some u → w.cell? (x.add j) = some u := by
  by_cases hl : 0 < l.length
  · obtain ⟨b, o, he, _⟩ := h.at' hl
    injection he with he
    subst he
    exact rows_news arC_len (by decide) hl h
  · obtain rfl : l = [] := List.eq_nil_of_length_eq_zero (by omega)
    intro j u hu
    simp at hu
theorem rows_none {w : World} {cap : Nat} {l : List Ar} (h : AsAt w none cap l) : l = [] := by
  by_cases hl : 0 < l.length
  · obtain ⟨b, o, he, _⟩ := h.at' hl
    cases he
  · exact List.eq_nil_of_length_eq_zero (by omega)

theorem add_nil (x : Addr) : x.add 0 = x := by unfold Addr.add; simp
theorem size_ar : ∀ w, (Go.sizeOf 90).run Try.prog w = .ok 2 w := fun w => by kernel_rfl
/-- the first k. -/
theorem AsAt.front {w : World} {a : Option Addr} {cap : Nat} {l : List Ar} (h : AsAt w a cap l) (hn : a = none → cap = 0) (k : Nat) (hk : k ≤ l.length) :
    AsAt w a cap (l.take k) ∧ ∀ wx, (Instr.slice 27 (.slice a l.length cap) none (some (.int .i64 k)) none).run Try.prog wx = .ok (.slice a (l.take k).length cap) wx := by
  have hlen := h.len
  have hmax := h.max
  refine ⟨⟨by simp; omega, h.max, fun h0 => ?_⟩, fun wx => ?_⟩
  · simp only [List.length_take] at h0
    obtain ⟨b, o, ha, hc⟩ := h.at' (by omega)
    refine ⟨b, o, ha, fun i hi r v hv => ?_⟩
    simp only [List.length_take] at hi
    rw [List.getElem_take] at hv
    exact hc i (by omega) r v hv
  · rw [List.length_take, Nat.min_eq_left hk]
    cases a with
    | none =>
      obtain rfl := hn rfl
      obtain rfl : k = 0 := by omega
      simp [Instr.slice, Instr.sliceBounds, Instr.sliceBound, asIntOf, run_underlying Try.underlying27, size_ar]
    | some x =>
      simp [Instr.slice, Instr.sliceBounds, Instr.sliceBound, asIntOf, run_underlying Try.underlying27, size_ar]
      rw [if_pos (by omega), add_nil]
      simp
/-- those behind the first k. -/
theorem AsAt.back {w : World} {a : Option Addr} {cap : Nat} {l : List Ar} (h : AsAt w a cap l) (hn : a = none → cap = 0) (k : Nat) (hk : k ≤ l.length) :
    ∃ a', AsAt w a' (cap - k) (l.drop k) ∧ (a' = none → cap - k = 0) ∧ ∀ wx, (Instr.slice 27 (.slice a l.length cap) (some (.int .i64 k)) none none).run Try.prog wx = .ok (.slice a' (l.drop k).length (cap - k)) wx := by
  have hlen := h.len
  have hmax := h.max
  cases a with
  | none =>
    obtain rfl := hn rfl
    obtain rfl : k = 0 := by omega
    refine ⟨none, by simpa using h, fun _ => rfl, fun wx => ?_⟩
    have hl : l.length = 0 := by omega
    simp [Instr.slice, Instr.sliceBounds, Instr.sliceBound, asIntOf, run_underlying Try.underlying27, size_ar, hl]
  | some x =>
    refine ⟨some (if cap - k = 0 then x else x.add (k * 2)), ⟨by simp; omega, by omega, fun h0 => ?_⟩, (fun h => by cases h), fun wx => ?_⟩
    · simp only [List.length_drop] at h0
      obtain ⟨b, o, ha, hc⟩ := h.at' (by omega)
      injection ha with ha
      subst ha
      refine ⟨b, o + k * 2, by rw [if_neg (by omega), add_at], fun i hi r v hv => ?_⟩
      simp only [List.length_drop] at hi
      rw [List.getElem_drop] at hv
      have := hc (k + i) (by omega) r v hv
      rwa [show o + (k + i) * 2 + r = o + k * 2 + i * 2 + r by omega] at this
    · simp [Instr.slice, Instr.sliceBounds, Instr.sliceBound, asIntOf, run_underlying Try.underlying27, size_ar]
      rw [if_pos hk]
      by_cases hc : cap = k
      · rw [if_pos hc, if_pos (by omega)]
      · rw [if_neg hc, if_neg (by omega)]

/-- all of a row, onto one of the call's own. -/
theorem run_rows {w : World} {base : Nat} {v : Value} {l m : List Ar} {a0 : Option Addr} {cap : Nat} (ty : TypeId) (hb : OwnA w base v l) (hbase : base ≤ w.heap.size) (hat : AsAt w a0 cap m) (hsz : l.length + m.length ≤ 1000000) (hn0 : a0 = none → cap = 0) :
    ∃ v' w', (Builtin.append_ #[27, 27] ty #[v, .slice a0 m.length cap]).run Try.prog w = .ok v' w' ∧ OwnA w' base v' (l ++ m) ∧ w.grownBy w' v.ownBlock := by
  obtain ⟨i0, hi, hz0, hz1, hz2⟩ := info_parts ar_info
  cases a0 with
  | none =>
    obtain rfl := rows_none hat
    obtain rfl := hn0 rfl
    exact ⟨v, w, run_append_owned_none w base 27 ty 90 i0 2 Try.underlying27 hi v _ _ hb, by simpa using hb, rfl, rfl, rfl, Nat.le_refl _, fun _ _ _ => rfl⟩
  | some x =>
    obtain ⟨v', w', hr, h2, h3, _, _⟩ := run_append_own_at (P := Try.prog) w base 27 ty 90 i0 _ 2 16 Try.underlying27 hi hz0 hz1 hz2 rfl (by decide) v l.length (l.flatMap arC) hb x m.length cap (m.flatMap arC) (flats_length arC_len m) (rows_src hat) (arC_one m) (by unfold maxLen; omega) (by omega) hbase
    refine ⟨v', w', hr, ?_, h3⟩
    unfold OwnA
    rw [List.length_append, List.flatMap_append]
    exact h2
theorem put_rows {ops : Array Oper} {rest : List Oper} {o : Oper} {a : Act} {Q : Exit → Act → World → Prop} {w : World} {base : Nat} {v : Value} {l m : List Ar} {a0 : Option Addr} {cap : Nat} (hgd : o.guard = none) (s y : Operand)
    (ho : o.op = .call { callee := .builtin .append, args := #[s, y], argTypes := #[27, 27] }) (hb : OwnA w base v l) (hbase : base ≤ w.heap.size)
    (hs : a.eval s = v) (n : Nat) (hx : a.eval y = .slice a0 n cap) (hn : n = m.length) (hat : AsAt w a0 cap m) (hsz : l.length + m.length ≤ 1000000) (hn0 : a0 = none → cap = 0)
    (h : ∀ v' w', OwnA w' base v' (l ++ m) → w.grownBy w' v.ownBlock → wpList Try.prog ops Q rest (a.put o.dst v') w') : wpList Try.prog ops Q (o :: rest) a w := by
  subst hn
  refine wpList_plain hgd fun K hK => ?_
  obtain ⟨v', w', hr, h2, h3⟩ := run_rows o.type hb hbase hat hsz hn0
  unfold Oper.wp execOp
  simp only [ho, resolve, invoke, builtin, Sem.run_bind, Sem.run_pure, Result.andThen_ok, List.map_toArray, List.map_cons, List.map_nil, hs, hx, hr]
  exact hK _ _ (h v' w' h2 h3)
theorem step_put_rows {ops : Array Oper} {o : Oper} {a : Act} {K : Act → World → Prop} {Q : Exit → Act → World → Prop} {E : Prop} {w : World} {base : Nat} {v : Value} {l m : List Ar} {a0 : Option Addr} {cap : Nat} (hgd : o.guard = none) (s y : Operand)
    (ho : o.op = .call { callee := .builtin .append, args := #[s, y], argTypes := #[27, 27] }) (hb : OwnA w base v l) (hbase : base ≤ w.heap.size)
    (hs : a.eval s = v) (n : Nat) (hx : a.eval y = .slice a0 n cap) (hn : n = m.length) (hat : AsAt w a0 cap m) (hsz : l.length + m.length ≤ 1000000) (hn0 : a0 = none → cap = 0)
    (h : ∀ v' w', OwnA w' base v' (l ++ m) → w.grownBy w' v.ownBlock → K (a.put o.dst v') w') :
    if Region.wanted o (yielded ops a.tmps) = true then Oper.wp Try.prog o a w K Q else E := by
  subst hn
  rw [if_pos (by simp [Region.wanted, hgd])]
  obtain ⟨v', w', hr, h2, h3⟩ := run_rows o.type hb hbase hat hsz hn0
  unfold Oper.wp execOp
  simp only [ho, resolve, invoke, builtin, Sem.run_bind, Sem.run_pure, Result.andThen_ok, List.map_toArray, List.map_cons, List.map_nil, hs, hx, hr]
  exact h v' w' h2 h3
/-- one arc more, in a region that draws its order. -/
theorem step_put_ar {ops : Array Oper} {o : Oper} {a : Act} {K : Act → World → Prop} {Q : Exit → Act → World → Prop} {E : Prop} {w : World} {base : Nat} {v : Value} {l : List Ar} (x : Ar) (hgd : o.guard = none) (s y : Operand)
    (ho : o.op = .call { callee := .builtin .append, args := #[s, y], argTypes := #[27, 27] }) (hb : OwnA w base v l) (hbase : base ≤ w.heap.size) (hl : l.length ≤ 1000000)
    (hs : a.eval s = v) (H : Nat) (hH : w.heap.size = H) (hx : a.eval y = .slice (some ⟨H, 0, none⟩) 1 1)
    (h : ∀ g cap w', OwnA w' base (.slice (some ⟨g, 0, none⟩) (l.length + 1) cap) (l ++ [x]) → w.grownBy w' v.ownBlock → K (a.put o.dst (.slice (some ⟨g, 0, none⟩) (l.length + 1) cap)) w') :
    if Region.wanted o (yielded ops a.tmps) = true then Oper.wp Try.prog o a (w.alloc (.cells #[.int .u32 x.f, .int .i64 x.s] 90)) K Q else E := by
  subst hH
  obtain ⟨i0, hi, hz0, hz1, hz2⟩ := info_parts ar_info
  refine step_append_lies (w.alloc _) hgd s y 27 ho base 90 i0 _ 2 16 Try.underlying27 hi hz0 hz1 hz2 rfl (by decide) v l.length (l.flatMap arC) hs (World.ownsRow.alloc hb _) ⟨w.heap.size, 0, none⟩ 1 1 (arC x) hx (by simp [arC]) (World.news_of_block (heap_alloc_new w _)) (by simpa using arC_one [x]) (by decide) (by unfold maxLen; omega) (by omega) (by simp; omega) _ rfl ?_
  intro g cap w' hown hg _ _
  refine h g cap w' ?_ (alloc_before hg)
  unfold OwnA
  rw [List.length_append, List.flatMap_append]
  simpa using hown

end Go.Proofs.Ytfmdlmhfckjniaa.Rg
