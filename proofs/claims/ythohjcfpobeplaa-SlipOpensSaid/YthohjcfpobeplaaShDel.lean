/-
  slices.Clone, Delete, Insert of messages, held ones, marks, walked.
  slices.Insert of one message ahead of all, walked.
-/
import Derived.Test.YthohjcfpobeplaaShMem
import Derived.Deep.RegionLaw
import Derived.Lib.SliceRun
import Derived.Lib.Overlaps
import Derived.Laws.Externs
import Derived.BigRegion
import Derived.Lib.AppendZerosOnto
import Derived.Lib.JoinLaws
import Derived.Lib.Walk

namespace Go.Proofs.Ythohjcfpobeplaa.Sh
open Go.RowKit Rg
set_option linter.unusedVariables false
set_option linter.unusedSimpArgs false

/-- a row, from cell p on written over. -/
def over (cur : Array Value) (p : Nat) (news : List Value) : Array Value := (cur.toList.take p ++ news ++ cur.toList.drop (p + news.length)).toArray
theorem over_size {cur : Array Value} {p : Nat} {news : List Value} (h : p + news.length ≤ cur.size) : (over cur p news).size = cur.size := by
  unfold over
  simp only [List.size_toArray, List.length_append, List.length_take, List.length_drop, Array.length_toList]
  omega
theorem over_take {cur : Array Value} {p q : Nat} {news : List Value} (h : q ≤ p) (hp : p ≤ cur.size) : (over cur p news).toList.take q = cur.toList.take q := by
  unfold over
  rw [List.append_assoc, List.take_append_of_le_length (by simp; omega), List.take_take, Nat.min_eq_left h]
theorem over_to {cur : Array Value} {p : Nat} {news : List Value} (hp : p ≤ cur.size) : (over cur p news).toList.take (p + news.length) = cur.toList.take p ++ news := by
  unfold over
  have h1 : (cur.toList.take p).length = p := by rw [List.length_take, Array.length_toList]; omega
  have h2 : (cur.toList.take p ++ news).length = p + news.length := by rw [List.length_append, h1]
  rw [← h2]
  exact List.take_left

section
variable {α : Type} {k : Nat} {f : α → List Value} {E T : TypeId}
theorem run_store_row {w : World} {g : Nat} {cur : Array Value} (hg : w.heap[g]? = some (.cells cur E (0, 0))) (p : Nat) (news : List Value) (hfit : p + news.length ≤ cur.size) (h1 : ∀ u ∈ news, u.oneCell' = true) :
    (storeCells ⟨g, p, none⟩ news).run Try.prog w = .ok () (w.setRow g (over cur p news)) := by
  have := run_storeCells_at Try.prog g p E news 0 cur w hg (by simpa using hfit) h1
  unfold over
  simpa using this
theorem flat_take (h0 : El k f E T) (l : List α) (n : Nat) : (l.flatMap f).take (n * k) = (l.take n).flatMap f := by
  induction l generalizing n with
  | nil => simp
  | cons x l ih =>
    cases n with
    | zero => simp
    | succ n =>
      rw [List.flatMap_cons, List.take_succ_cons, List.flatMap_cons, ← ih n, Nat.add_mul, Nat.one_mul, Nat.add_comm, List.take_append, h0.len, List.take_of_length_le (by rw [h0.len]; omega), Nat.add_sub_cancel_left]
/-- what a row of the call's own is. -/
theorem OwnE.row {w : World} {base : Nat} {v : Value} {l : List α} (h : OwnE k f E w base v l) (hl : 0 < l.length) :
    ∃ g cap cur, v = .slice (some ⟨g, 0, none⟩) l.length cap ∧ base ≤ g ∧ w.heap[g]? = some (.cells cur E (0, 0)) ∧ l.length ≤ cap ∧ cap ≤ maxLen ∧ cur.size = cap * k ∧ cur.toList.take (l.length * k) = l.flatMap f := by
  rcases h.2 with ⟨_, hz⟩ | ⟨g, cap, cur, rfl, hbg, hg, hnc, hcm, hcs, htake⟩
  · omega
  · exact ⟨g, cap, cur, rfl, hbg, hg, hnc, hcm, hcs, htake⟩
theorem OwnE.of_row (h0 : El k f E T) {w : World} {base g cap : Nat} {cur : Array Value} {l : List α} (hg : w.heap[g]? = some (.cells cur E (0, 0))) (hb : base ≤ g) (h1 : l.length ≤ cap) (h2 : cap ≤ maxLen) (h3 : cur.size = cap * k) (h4 : cur.toList.take (l.length * k) = l.flatMap f) :
    OwnE k f E w base (.slice (some ⟨g, 0, none⟩) l.length cap) l := ⟨flats_length h0.len l, .inr ⟨g, cap, cur, rfl, hb, hg, h1, h2, h3, h4⟩⟩
theorem row_grown (w : World) (g : Nat) (c : Array Value) : w.grownBy (w.setRow g c) (some g) :=
  ⟨rfl, rfl, rfl, by simp [World.setRow], fun b _ hb => by simp [World.setRow, Array.getElem?_modify, show ¬ g = b from fun e => hb (by rw [e])]⟩
theorem grown_trans {w w1 w2 : World} {r : Option Nat} (h : w.grownBy w1 r) (h2 : w1.grownBy w2 r) : w.grownBy w2 r :=
  ⟨h2.os.trans h.os, h2.tape.trans h.tape, h2.output.trans h.output, Nat.le_trans h.size h2.size, fun b hb hr => (h2.block b (Nat.lt_of_lt_of_le hb h.size) hr).trans (h.block b hb hr)⟩
/-- the zero value of an element. -/
def ZOk (k : Nat) (E : TypeId) : Prop := ∃ i z, Try.prog.info? E = some i ∧ i.zero = some z ∧ z.cells.size = k ∧ ∀ u ∈ z.cells.toList, u.oneCell' = true
theorem run_clear_one (h0 : El k f E T) (hz : ZOk k E) {w : World} {g p n c : Nat} {cur : Array Value} (ty : TypeId) (hg : w.heap[g]? = some (.cells cur E (0, 0))) (hn : n = 1) (hfit : p + k ≤ cur.size) :
    ∃ zs : List Value, zs.length = k ∧ (Builtin.clear_ #[T] ty #[.slice (some ⟨g, p, none⟩) n c]).run Try.prog w = .ok (.tuple #[]) (w.setRow g (over cur p zs)) := by
  subst hn
  obtain ⟨i0, z, hi, hz0, hz1, hz2⟩ := hz
  have hzl : (Builtin.zeroCells z.cells 1).toList = z.cells.toList := by
    apply List.ext_getElem
    · simp [Builtin.zeroCells]
    · intro i h1 h2
      simp [Builtin.zeroCells]
      have : i < z.cells.size := by simpa using h2
      rw [Nat.mod_eq_of_lt this]
      simp [this]
  refine ⟨z.cells.toList, by simpa using hz1, ?_⟩
  have hst := run_store_row hg p z.cells.toList (by simpa [hz1] using hfit) hz2
  simp [Builtin.clear_, run_underlying h0.und, zeroValue, typeInfo, hi, hz0, hzl, hst]
theorem z_ok {E : TypeId} {k by' : Nat} {z : Value} (h : (Try.prog.info? E).map (fun i => (i.zero, i.size, i.bytes)) = some (some z, k, by')) (h2 : z.cells.size = k) (h3 : ∀ u ∈ z.cells.toList, u.oneCell' = true) : ZOk k E := by
  obtain ⟨i0, h4, h5, h6, h7⟩ := info_parts h
  exact ⟨i0, z, h4, h5, h2, h3⟩

/-- a slice's run with three bounds: some value. -/
theorem run_slice3 (h0 : El k f E T) (a : Addr) (n cap i : Nat) (hi : i < n) (hn : n ≤ cap) : ∃ v, ∀ wx, (Instr.slice T (.slice (some a) n cap) (some (.int .i64 i)) (some (.int .i64 ((i : Int) + 1))) (some (.int .i64 n))).run Try.prog wx = .ok v wx := by
  have e1 : ((i : Int) + 1).toNat = i + 1 := by omega
  have e2 : (i : Int) ≤ (i : Int) + 1 := by omega
  have e3 : (i : Int) + 1 ≤ (n : Int) := by omega
  have e4 : (n : Int) ≤ (cap : Int) := by omega
  have e5 : (0 : Int) ≤ (i : Int) + 1 := by omega
  refine ⟨.slice (some (a.add (i * k))) 1 (n - i), fun wx => ?_⟩
  simp [Instr.slice, Instr.sliceBounds, Instr.sliceBound, asIntOf, run_underlying h0.und, h0.siz, e1, e2, e3, e4, e5]
  rw [if_pos hn, if_neg (by omega)]
set_option maxRecDepth 100000 in
/-- the row without its i-th element, behind append(s[:i], s[i+1:]...). -/
theorem run_cut_out (h0 : El k f E T) {w : World} {g cap i : Nat} {cur : Array Value} {l : List α} {b : Option Addr} {m c : Nat} (ty : TypeId) (hg : w.heap[g]? = some (.cells cur E (0, 0))) (hi : i < l.length) (hlc : l.length ≤ cap) (hsz : cur.size = cap * k) (htk : cur.toList.take (l.length * k) = l.flatMap f)
    (hm : m = l.length - (i + 1)) (hb : RowsAt k f w b c (l.drop (i + 1))) (hbs : b ≠ none) :
    ∃ cur', (Builtin.append_ #[T, T] ty #[.slice (some ⟨g, 0, none⟩) i cap, .slice b m c]).run Try.prog w = .ok (.slice (some ⟨g, 0, none⟩) (l.length - 1) cap) (w.setRow g cur') ∧ cur'.size = cap * k ∧ cur'.toList.take ((l.length - 1) * k) = (l.eraseIdx i).flatMap f := by
  obtain ⟨i0, z, by', hi0, hz0, hz1, hz2, hz3, hz4⟩ := h0.info
  obtain ⟨x, rfl⟩ : ∃ x, b = some x := by cases b with
    | none => exact absurd rfl hbs
    | some x => exact ⟨x, rfl⟩
  have hlen : ((l.drop (i + 1)).flatMap f).length = m * k := by rw [flats_length h0.len, List.length_drop, hm]
  have hle : (l.length - 1) * k ≤ cap * k := Nat.mul_le_mul_right _ (by omega)
  have hsum : i * k + m * k = (l.length - 1) * k := by rw [← Nat.add_mul]; congr 1; omega
  have hfit : i * i0.size + ((l.drop (i + 1)).flatMap f).length ≤ cur.size := by rw [hz1, hlen, hsz]; omega
  have hr := run_append_room (P := Try.prog) w T ty E i0 h0.und hi0 g i cap cur hg x m c ((l.drop (i + 1)).flatMap f) (by rw [hlen, hz1]) (h0.src hb) (h0.one _) (by omega) hfit
  have hik : i * k ≤ cur.size := by rw [hsz]; exact Nat.mul_le_mul_right _ (by omega)
  refine ⟨over cur (i * k) ((l.drop (i + 1)).flatMap f), ?_, ?_, ?_⟩
  · rw [hr, hz1, show i + m = l.length - 1 by omega]; rfl
  · rw [over_size (by rw [hlen, hsz]; omega)]; exact hsz
  · rw [← hsum, ← hlen, over_to hik, List.eraseIdx_eq_take_drop_succ, List.flatMap_append]
    congr 1
    rw [← flat_take h0 l i, ← htk, List.take_take, Nat.min_eq_left (Nat.mul_le_mul_right _ (by omega))]
end

theorem step_run2 {P : Program} {ops : Array Oper} {o : Oper} {a : Act} {w : World} {K : Act → World → Prop} {Q : Exit → Act → World → Prop} {Z : Prop}
    (hg : o.guard = none) (d x : Operand) (dT sT : TypeId) (hop : o.op = Op.call { callee := Callee.builtin Builtin.append, args := #[d, x], argTypes := #[dT, sT] })
    (v u : Value) (hd : a.eval d = v) (hx : a.eval x = u) {v' : Value} {w' : World} (hr : (Builtin.append_ #[dT, sT] o.type #[v, u]).run P w = .ok v' w') (hK : K (a.put o.dst v') w') :
    if Region.wanted o (yielded ops a.tmps) = true then Oper.wp P o a w K Q else Z := by
  have hw : Region.wanted o (yielded ops a.tmps) = true := by simp [Region.wanted, hg]
  rw [if_pos hw]
  unfold Oper.wp
  simp [execOp, hop, resolve, invoke, builtin, hd, hx, hr, Result.andThen]
  exact hK

theorem mgZ : ZOk 5 35 := z_ok (by' := 56) (z := .agg #[.int .i64 0, .int .i64 0, .string ⟨#[]⟩, .string ⟨#[]⟩, .bool false]) (by kernel_rfl) rfl (by simp [Value.cells, Value.oneCell'])
theorem hdZ : ZOk 6 37 := z_ok (by' := 64) (z := .agg #[.int .i64 0, .int .i64 0, .int .i64 0, .string ⟨#[]⟩, .string ⟨#[]⟩, .bool false]) (by kernel_rfl) rfl (by simp [Value.cells, Value.oneCell'])

set_option maxRecDepth 100000 in
set_option maxHeartbeats 2000000 in
theorem delG_any (l : List Mg) (i : Nat) (hi : i < l.length) (hl9 : l.length ≤ 100000) (w : World) (base : Nat) (v : Value) (hown : OwnG w base v l) :
    Calls Try.prog 69 #[v, .int .i64 i, .int .i64 ((i : Int) + 1)] w fun e w' => ∃ v', e = .returned v' ∧ OwnG w' base v' (l.eraseIdx i) ∧ w.grownBy w' v.ownBlock := by
  obtain ⟨g, cap, cur, rfl, hbg, hg, hlc, hcm, hsz, htk⟩ := OwnE.row hown (by omega)
  obtain ⟨a0, c0, he, hrow, hn0⟩ := OwnE.at mgE hown
  obtain ⟨rfl, -, rfl⟩ := Value.slice.inj he
  obtain ⟨v3, hs3⟩ := run_slice3 mgE ⟨g, 0, none⟩ l.length cap i hi hlc
  obtain ⟨-, hs1⟩ := mgE.front hrow hn0 i (by omega)
  obtain ⟨b, hrb, hbn, hs2⟩ := mgE.back hrow hn0 (i + 1) (by omega)
  rw [List.length_drop] at hs2
  have hs2 : ∀ wx, (Instr.slice 22 (.slice (some ⟨g, 0, none⟩) l.length cap) (some (.int .i64 ((i : Int) + 1))) none none).run Try.prog wx = .ok (.slice b (l.length - (i + 1)) (cap - (i + 1))) wx := hs2
  have hbs : b ≠ none := by
    rintro rfl
    have := hs2 w
    simp [Instr.slice, Instr.sliceBounds, Instr.sliceBound, asIntOf, run_underlying mgE.und, mgE.siz] at this
    rw [if_pos (by omega)] at this
    split at this <;> simp at this
  obtain ⟨cur1, hap, hsz1, htk1⟩ := run_cut_out mgE (w := w.drew) (ty := 22) hg hi hlc hsz htk rfl (hrb.below (Below.refl _ _).drew) hbs
  obtain ⟨W1, hW1⟩ : ∃ W1, W1 = w.drew.setRow g cur1 := ⟨_, rfl⟩
  rw [← hW1] at hap
  have hg1 : W1.heap[g]? = some (.cells cur1 35 (0, 0)) := by rw [hW1]; exact setRow_heap w.drew g cur _ _ _ hg
  have hlk : (l.length - 1) * 5 + 5 ≤ cur1.size := by rw [hsz1]; omega
  obtain ⟨zs, hzs, hcl⟩ := run_clear_one mgE mgZ (w := W1) (p := (l.length - 1) * 5) (n := l.length - (l.length - 1)) (c := cap - (l.length - 1)) 0 hg1 (by omega) hlk
  have hs4 : ∀ wx, (Instr.slice 22 (.slice (some ⟨g, 0, none⟩) (l.length - 1) cap) (some (.int .i64 ((l.length - 1 : Nat) : Int))) (some (.int .i64 l.length)) none).run Try.prog wx = .ok (.slice (some ⟨g, (l.length - 1) * 5, none⟩) (l.length - (l.length - 1)) (cap - (l.length - 1))) wx := fun wx => by
    simp [Instr.slice, Instr.sliceBounds, Instr.sliceBound, asIntOf, run_underlying mgE.und, mgE.siz]
    rw [if_pos (by omega), if_neg (by omega), add_at]
    simp
  have hfin : OwnG (W1.setRow g (over cur1 ((l.length - 1) * 5) zs)) base (.slice (some ⟨g, 0, none⟩) (l.length - 1) cap) (l.eraseIdx i) := by
    have hel : (l.eraseIdx i).length = l.length - 1 := by rw [List.length_eraseIdx, if_pos hi]
    have := OwnE.of_row mgE (l := l.eraseIdx i) (base := base) (setRow_heap W1 g cur1 (over cur1 ((l.length - 1) * 5) zs) _ _ hg1) hbg (cap := cap) (by omega) hcm (by rw [over_size (by rw [hzs]; exact hlk)]; exact hsz1) (by rw [hel, over_take (Nat.le_refl _) (by omega)]; exact htk1)
    rwa [hel] at this
  have hgr : w.grownBy (W1.setRow g (over cur1 ((l.length - 1) * 5) zs)) (some g) := by
    refine grown_trans ?_ (row_grown W1 g _)
    rw [hW1]
    have h := row_grown w.drew g cur1
    exact ⟨h.os, h.tape, h.output, h.size, h.block⟩
  have HFIN := Lib.hid hfin
  have HGR := Lib.hid hgr
  have HW1 := Lib.hid hW1
  have hne : ((i : Int) == (i : Int) + 1) = false := by rw [beq_eq_false_iff_ne]; omega
  clear hown hg hsz htk hrow hn0 hrb hbn hbs hsz1 htk1 hW1 hg1 hlk hzs hfin hgr he hcm
  go_enter Try.func69, Try.ntmps69
  go_wp2_with fail
  go_region_law (refine step_run2 rfl (.tmp 22) (.tmp 25) 22 22 rfl _ _ (by simp [Act.eval, Act.put]) (by simp [Act.eval, Act.put]) hap ?_)
  go_wp2_with fail
  go_ret
  exact ⟨_, rfl, HFIN.out, HGR.out⟩

set_option maxRecDepth 100000 in
set_option maxHeartbeats 2000000 in
theorem delH_any (l : List Hd) (i : Nat) (hi : i < l.length) (hl9 : l.length ≤ 100000) (w : World) (base : Nat) (v : Value) (hown : OwnH w base v l) :
    Calls Try.prog 112 #[v, .int .i64 i, .int .i64 ((i : Int) + 1)] w fun e w' => ∃ v', e = .returned v' ∧ OwnH w' base v' (l.eraseIdx i) ∧ w.grownBy w' v.ownBlock := by
  obtain ⟨g, cap, cur, rfl, hbg, hg, hlc, hcm, hsz, htk⟩ := OwnE.row hown (by omega)
  obtain ⟨a0, c0, he, hrow, hn0⟩ := OwnE.at hdE hown
  obtain ⟨rfl, -, rfl⟩ := Value.slice.inj he
  obtain ⟨v3, hs3⟩ := run_slice3 hdE ⟨g, 0, none⟩ l.length cap i hi hlc
  obtain ⟨-, hs1⟩ := hdE.front hrow hn0 i (by omega)
  obtain ⟨b, hrb, hbn, hs2⟩ := hdE.back hrow hn0 (i + 1) (by omega)
  rw [List.length_drop] at hs2
  have hs2 : ∀ wx, (Instr.slice 23 (.slice (some ⟨g, 0, none⟩) l.length cap) (some (.int .i64 ((i : Int) + 1))) none none).run Try.prog wx = .ok (.slice b (l.length - (i + 1)) (cap - (i + 1))) wx := hs2
  have hbs : b ≠ none := by
    rintro rfl
    have := hs2 w
    simp [Instr.slice, Instr.sliceBounds, Instr.sliceBound, asIntOf, run_underlying hdE.und, hdE.siz] at this
    rw [if_pos (by omega)] at this
    split at this <;> simp at this
  obtain ⟨cur1, hap, hsz1, htk1⟩ := run_cut_out hdE (w := w.drew) (ty := 23) hg hi hlc hsz htk rfl (hrb.below (Below.refl _ _).drew) hbs
  obtain ⟨W1, hW1⟩ : ∃ W1, W1 = w.drew.setRow g cur1 := ⟨_, rfl⟩
  rw [← hW1] at hap
  have hg1 : W1.heap[g]? = some (.cells cur1 37 (0, 0)) := by rw [hW1]; exact setRow_heap w.drew g cur _ _ _ hg
  have hlk : (l.length - 1) * 6 + 6 ≤ cur1.size := by rw [hsz1]; omega
  obtain ⟨zs, hzs, hcl⟩ := run_clear_one hdE hdZ (w := W1) (p := (l.length - 1) * 6) (n := l.length - (l.length - 1)) (c := cap - (l.length - 1)) 0 hg1 (by omega) hlk
  have hs4 : ∀ wx, (Instr.slice 23 (.slice (some ⟨g, 0, none⟩) (l.length - 1) cap) (some (.int .i64 ((l.length - 1 : Nat) : Int))) (some (.int .i64 l.length)) none).run Try.prog wx = .ok (.slice (some ⟨g, (l.length - 1) * 6, none⟩) (l.length - (l.length - 1)) (cap - (l.length - 1))) wx := fun wx => by
    simp [Instr.slice, Instr.sliceBounds, Instr.sliceBound, asIntOf, run_underlying hdE.und, hdE.siz]
    rw [if_pos (by omega), if_neg (by omega), add_at]
    simp
  have hfin : OwnH (W1.setRow g (over cur1 ((l.length - 1) * 6) zs)) base (.slice (some ⟨g, 0, none⟩) (l.length - 1) cap) (l.eraseIdx i) := by
    have hel : (l.eraseIdx i).length = l.length - 1 := by rw [List.length_eraseIdx, if_pos hi]
    have := OwnE.of_row hdE (l := l.eraseIdx i) (base := base) (setRow_heap W1 g cur1 (over cur1 ((l.length - 1) * 6) zs) _ _ hg1) hbg (cap := cap) (by omega) hcm (by rw [over_size (by rw [hzs]; exact hlk)]; exact hsz1) (by rw [hel, over_take (Nat.le_refl _) (by omega)]; exact htk1)
    rwa [hel] at this
  have hgr : w.grownBy (W1.setRow g (over cur1 ((l.length - 1) * 6) zs)) (some g) := by
    refine grown_trans ?_ (row_grown W1 g _)
    rw [hW1]
    have h := row_grown w.drew g cur1
    exact ⟨h.os, h.tape, h.output, h.size, h.block⟩
  have HFIN := Lib.hid hfin
  have HGR := Lib.hid hgr
  have HW1 := Lib.hid hW1
  have hne : ((i : Int) == (i : Int) + 1) = false := by rw [beq_eq_false_iff_ne]; omega
  clear hown hg hsz htk hrow hn0 hrb hbn hbs hsz1 htk1 hW1 hg1 hlk hzs hfin hgr he hcm
  go_enter Try.func112, Try.ntmps112
  go_wp2_with fail
  go_region_law (refine step_run2 rfl (.tmp 22) (.tmp 25) 23 23 rfl _ _ (by simp [Act.eval, Act.put]) (by simp [Act.eval, Act.put]) hap ?_)
  go_wp2_with fail
  go_ret
  exact ⟨_, rfl, HFIN.out, HGR.out⟩

set_option maxRecDepth 100000 in
theorem cloneG_any (a : Option Addr) (cap : Nat) (l : List Mg) (hl9 : l.length ≤ 1000) (w : World) (hf : MgsAt w a cap l) :
    Calls Try.prog 106 #[.slice a l.length cap] w fun e w' => ∃ v, e = .returned v ∧ OwnG w' w.heap.size v l ∧ Below w.heap.size w w' := by
  cases a with
  | none =>
    obtain rfl : l = [] := rows_nil hf
    have hnil : (binOp .eql 22 (.slice none 0 cap) (.slice none 0 0)).run Try.prog w = .ok (.bool true) w := Lib.run_eql_slice_nil w 22 35 none 0 cap 0 0 Try.underlying22
    go_enter Try.func106, Try.ntmps106
    go_wp2_with fail
    go_ret
    exact ⟨_, rfl, OwnE.nil _ _ _ _ _, Below.refl _ _⟩
  | some x =>
    have hb0 : Below w.heap.size w (w.alloc (.cells #[] 35)) := (Below.refl _ _).alloc (Nat.le_refl _) _
    have HB0 := Lib.hid hb0
    have HAT := Lib.hid (hf.below hb0)
    have HOWN := Lib.hid (OwnE.lit mgE w w.heap.size (Nat.le_refl _))
    clear hf hb0
    have hnil : (binOp .eql 22 (.slice (some x) l.length cap) (.slice none 0 0)).run Try.prog w = .ok (.bool false) w := Lib.run_eql_slice_nil w 22 35 (some x) l.length cap 0 0 Try.underlying22
    go_enter Try.func106, Try.ntmps106
    go_wp2_with (at_builtin; refine put_rows mgE (base := w.heap.size) (l := []) (m := l) rfl (.tmp 5) (.tmp 6) rfl HOWN.out HB0.out.size rfl _ rfl rfl HAT.out (by simp; omega) (fun h => by cases h) ?_; intro v2 w2 hb2 hon2; have HB2 := Lib.hid hb2; have HBEL2 := Lib.hid (OwnE.grown HB0.out HOWN.out hon2 HB0.out.size); clear hb2 hon2)
    go_ret
    exact ⟨_, rfl, HB2.out, HBEL2.out⟩

set_option maxRecDepth 100000 in
theorem cloneH_any (a : Option Addr) (cap : Nat) (l : List Hd) (hl9 : l.length ≤ 1000) (w : World) (hf : HdsAt w a cap l) :
    Calls Try.prog 107 #[.slice a l.length cap] w fun e w' => ∃ v, e = .returned v ∧ OwnH w' w.heap.size v l ∧ Below w.heap.size w w' := by
  cases a with
  | none =>
    obtain rfl : l = [] := rows_nil hf
    have hnil : (binOp .eql 23 (.slice none 0 cap) (.slice none 0 0)).run Try.prog w = .ok (.bool true) w := Lib.run_eql_slice_nil w 23 37 none 0 cap 0 0 Try.underlying23
    go_enter Try.func107, Try.ntmps107
    go_wp2_with fail
    go_ret
    exact ⟨_, rfl, OwnE.nil _ _ _ _ _, Below.refl _ _⟩
  | some x =>
    have hb0 : Below w.heap.size w (w.alloc (.cells #[] 37)) := (Below.refl _ _).alloc (Nat.le_refl _) _
    have HB0 := Lib.hid hb0
    have HAT := Lib.hid (hf.below hb0)
    have HOWN := Lib.hid (OwnE.lit hdE w w.heap.size (Nat.le_refl _))
    clear hf hb0
    have hnil : (binOp .eql 23 (.slice (some x) l.length cap) (.slice none 0 0)).run Try.prog w = .ok (.bool false) w := Lib.run_eql_slice_nil w 23 37 (some x) l.length cap 0 0 Try.underlying23
    go_enter Try.func107, Try.ntmps107
    go_wp2_with (at_builtin; refine put_rows hdE (base := w.heap.size) (l := []) (m := l) rfl (.tmp 5) (.tmp 6) rfl HOWN.out HB0.out.size rfl _ rfl rfl HAT.out (by simp; omega) (fun h => by cases h) ?_; intro v2 w2 hb2 hon2; have HB2 := Lib.hid hb2; have HBEL2 := Lib.hid (OwnE.grown HB0.out HOWN.out hon2 HB0.out.size); clear hb2 hon2)
    go_ret
    exact ⟨_, rfl, HB2.out, HBEL2.out⟩

set_option maxRecDepth 100000 in
theorem cloneK_any (a : Option Addr) (cap : Nat) (l : List Mk) (hl9 : l.length ≤ 1000) (w : World) (hf : MksAt w a cap l) :
    Calls Try.prog 108 #[.slice a l.length cap] w fun e w' => ∃ v, e = .returned v ∧ OwnK w' w.heap.size v l ∧ Below w.heap.size w w' := by
  cases a with
  | none =>
    obtain rfl : l = [] := rows_nil hf
    have hnil : (binOp .eql 24 (.slice none 0 cap) (.slice none 0 0)).run Try.prog w = .ok (.bool true) w := Lib.run_eql_slice_nil w 24 93 none 0 cap 0 0 Try.underlying24
    go_enter Try.func108, Try.ntmps108
    go_wp2_with fail
    go_ret
    exact ⟨_, rfl, OwnE.nil _ _ _ _ _, Below.refl _ _⟩
  | some x =>
    have hb0 : Below w.heap.size w (w.alloc (.cells #[] 93)) := (Below.refl _ _).alloc (Nat.le_refl _) _
    have HB0 := Lib.hid hb0
    have HAT := Lib.hid (hf.below hb0)
    have HOWN := Lib.hid (OwnE.lit mkE w w.heap.size (Nat.le_refl _))
    clear hf hb0
    have hnil : (binOp .eql 24 (.slice (some x) l.length cap) (.slice none 0 0)).run Try.prog w = .ok (.bool false) w := Lib.run_eql_slice_nil w 24 93 (some x) l.length cap 0 0 Try.underlying24
    go_enter Try.func108, Try.ntmps108
    go_wp2_with (at_builtin; refine put_rows mkE (base := w.heap.size) (l := []) (m := l) rfl (.tmp 5) (.tmp 6) rfl HOWN.out HB0.out.size rfl _ rfl rfl HAT.out (by simp; omega) (fun h => by cases h) ?_; intro v2 w2 hb2 hon2; have HB2 := Lib.hid hb2; have HBEL2 := Lib.hid (OwnE.grown HB0.out HOWN.out hon2 HB0.out.size); clear hb2 hon2)
    go_ret
    exact ⟨_, rfl, HB2.out, HBEL2.out⟩

end Go.Proofs.Ythohjcfpobeplaa.Sh

namespace Go.Proofs.Ythohjcfpobeplaa.Sh
open Go.RowKit Rg Go.Lib
set_option linter.unusedVariables false
set_option linter.unusedSimpArgs false

section
variable {α : Type} {k : Nat} {f : α → List Value} {E T : TypeId}
theorem run_copy_row (h0 : El k f E T) {w : World} {g p dLen dCap sLen sCap n : Nat} {cur : Array Value} {x : Addr} (ty : TypeId) (hg : w.heap[g]? = some (.cells cur E (0, 0))) (news : List Value) (hn : n = Nat.min sLen dLen) (hl : news.length = n * k)
    (hnews : ∀ j u, news[j]? = some u → w.cell? (x.add j) = some u) (h1 : ∀ u ∈ news, u.oneCell' = true) (hfit : p + n * k ≤ cur.size) :
    (Builtin.copy_ #[T, T] ty #[.slice (some ⟨g, p, none⟩) dLen dCap, .slice (some x) sLen sCap]).run Try.prog w = .ok (goInt n) (w.setRow g (over cur p news)) := by
  have hf := run_firstCells_some (P := Try.prog) w k n x sLen sCap news hl hnews
  have hst := run_store_row hg p news (by rw [hl]; exact hfit) h1
  simp [Builtin.copy_, run_underlying h0.und, Builtin.lenOf, h0.siz, ← hn, hf, hst]
theorem step_copy2 {P : Program} {ops : Array Oper} {o : Oper} {a : Act} {w : World} {K : Act → World → Prop} {Q : Exit → Act → World → Prop} {Z : Prop}
    (hg : o.guard = none) (d x : Operand) (dT sT : TypeId) (hop : o.op = Op.call { callee := Callee.builtin Builtin.copy, args := #[d, x], argTypes := #[dT, sT] })
    (v u : Value) (hd : a.eval d = v) (hx : a.eval x = u) {v' : Value} {w' : World} (hr : (Builtin.copy_ #[dT, sT] o.type #[v, u]).run P w = .ok v' w') (hK : K (a.put o.dst v') w') :
    if Region.wanted o (yielded ops a.tmps) = true then Oper.wp P o a w K Q else Z := by
  have hw : Region.wanted o (yielded ops a.tmps) = true := by simp [Region.wanted, hg]
  rw [if_pos hw]
  unfold Oper.wp
  simp [execOp, hop, resolve, invoke, builtin, hd, hx, hr, Result.andThen]
  exact hK
theorem list_copy2 {P : Program} (w : World) {ops : Array Oper} {rest : List Oper} {o : Oper} {a : Act} {Q : Exit → Act → World → Prop} (hgd : o.guard = none) (d s : Operand) (t t' : TypeId)
    (ho : o.op = .call { callee := .builtin .copy, args := #[d, s], argTypes := #[t, t'] }) (v u : Value) (hd : a.eval d = v) (hs : a.eval s = u) {v' : Value} {w' : World}
    (hr : (Builtin.copy_ #[t, t'] o.type #[v, u]).run P w = .ok v' w') (h : wpList P ops Q rest (a.put o.dst v') w') : wpList P ops Q (o :: rest) a w := by
  refine wpList_plain hgd fun K hK => ?_
  unfold Oper.wp execOp
  simp only [ho, resolve, invoke, builtin, Sem.run_bind, Sem.run_pure, Result.andThen_ok, List.map_toArray, List.map_cons, List.map_nil, hd, hs, hr]
  exact hK _ _ h
end

set_option maxRecDepth 100000 in
set_option maxHeartbeats 4000000 in
theorem ins_any (x : Mg) (l : List Mg) (hl9 : l.length ≤ 1000) (w : World) (base : Nat) (v : Value) (hown : OwnG w base v l) (hbase : base ≤ w.heap.size) (vb : Nat) (hvb : w.heap[vb]? = some (.cells #[.int .i64 x.pub, .int .i64 x.seq, .string ⟨x.key.toArray⟩, .string ⟨x.body.toArray⟩, .bool x.again] 35 (0, 0))) (hne : v.ownBlock ≠ some vb) :
    Calls Try.prog 78 #[v, .int .i64 0, .slice (some ⟨vb, 0, none⟩) 1 1] w fun e w' => ∃ v', e = .returned v' ∧ OwnG w' base v' (x :: l) ∧ w.grownBy w' v.ownBlock := by
  have hvc : ∀ (r : Nat) (u : Value), (mgC x)[r]? = some u → w.cell? ⟨vb, 0 + r, none⟩ = some u := fun r u hu => by
    rw [Nat.zero_add, cell_of_row w _ _ _ _ _ hvb, ← hu]
    simp [mgC]
  have hvr : MgsAt w (some ⟨vb, 0, none⟩) 1 [x] := ⟨by simp, by simp [maxLen], fun _ => ⟨_, _, rfl, fun i hi r u hu => by
    simp at hi
    subst hi
    have := hvc r u (by simpa using hu)
    simpa using this⟩⟩
  cases l with
  | nil =>
    obtain ⟨a, cap, rfl, hrow, hn0⟩ := OwnE.at mgE hown
    obtain ⟨b, hrb, hbn, hs2⟩ := mgE.back hrow hn0 0 (by simp)
    have HO := Lib.hid hown
    have HV := Lib.hid hvr
    clear hown hrow hn0 hrb hbn hvc hvr hvb
    go_enter Try.func78, Try.ntmps78
    go_wp2_with (at_builtin; refine put_rows mgE (base := base) (l := []) (m := [x]) rfl (.tmp 23) (.tmp 24) rfl HO.out hbase rfl _ rfl rfl HV.out (by simp) (fun h => by cases h) ?_; intro v1 w1 hown1 hg1; have HOWN2 := Lib.hid hown1; have HG := Lib.hid hg1; clear hown1 hg1)
    go_ret
    exact ⟨_, rfl, HOWN2.out, HG.out⟩
  | cons y l =>
    obtain ⟨L, hL⟩ : ∃ L, y :: l = L := ⟨_, rfl⟩
    have hpos : 0 < L.length := by rw [← hL]; simp
    rw [hL] at hown hl9 ⊢
    clear hL
    obtain ⟨g, cap, cur, rfl, hbg, hg, hlc, hcm, hsz, htk⟩ := OwnE.row hown hpos
    have hne : vb ≠ g := fun e => hne (by rw [e]; rfl)
    have hz2 : ((0 : Int) == (L.length : Int)) = false := by rw [beq_eq_false_iff_ne]; omega
    have hw1 : IntKind.i64.wrap 1 = 1 := IntWalk.i64_in _ (by omega)
    have hL1 : (1 : Int) ≤ (L.length : Int) + 1 := by omega
    have hwr : IntKind.i64.wrap ((L.length : Int) + 1) = (L.length : Int) + 1 := IntWalk.i64_in _ (by omega)
    have hflen : (L.flatMap mgC).length = L.length * 5 := flats_length mgE.len L
    by_cases hroom : L.length + 1 ≤ cap
    case neg =>
      obtain ⟨i0, z, by', hi0, hz0, hz1, hzb, hz3, hz4⟩ := mgE.info
      have hgi : (cap : Int) < (L.length : Int) + 1 := by omega
      have hwr2 : IntKind.i64.wrap ((L.length : Int) + 1 - 0) = ((L.length + 1 : Nat) : Int) := by rw [Int.sub_zero, hwr]; rfl
      have hbyb : (0 + (L.length + 1)) * i0.bytes ≤ 140737488355328 := by
        rw [hzb]
        exact Nat.le_trans (Nat.mul_le_mul (show 0 + (L.length + 1) ≤ 1001 by omega) hz3) (by decide)
      have hbyc : (L.length + 1) * i0.bytes ≤ 281474976710656 := by rw [Nat.zero_add] at hbyb; omega
      have hold : (Builtin.firstCells i0.size 0 (.slice (some ⟨g, 0, none⟩) 0 cap)).run Try.prog w.drew = .ok (#[] : Array Value) w.drew := by
        rw [hz1]
        exact run_firstCells_some (P := Try.prog) w.drew 5 0 ⟨g, 0, none⟩ 0 cap [] rfl (fun j v hj => by simp at hj)
      have hap := Lib.run_append_grow_zeros w 22 3 22 35 i0 z .i64 .i64 mgE.und Try.underlying3 hi0 hz0 (some ⟨g, 0, none⟩) 0 cap [] hold (L.length + 1) (by omega) (by omega) (by omega) (by omega) hbyc (growslice_fits (by omega) hbyb)
      obtain ⟨G, hG⟩ : ∃ G, G = grownCap w (0 + (L.length + 1)) cap 35 := ⟨_, rfl⟩
      have hGn : L.length + 1 ≤ G := by have := grownCap_ge w (0 + (L.length + 1)) cap 35; omega
      have hGm : G ≤ maxLen := by rw [hG]; exact grownCap_le_maxLen w _ _ _ (by unfold maxLen; omega)
      rw [← hG] at hap
      obtain ⟨ROW, hROW⟩ : ∃ ROW : Array Value, ROW = ([] : List Value).toArray ++ Builtin.zeroCells z.cells (L.length + 1) ++ Builtin.zeroCells z.cells (G - (0 + (L.length + 1))) := ⟨_, rfl⟩
      rw [← hROW, show 0 + (L.length + 1) = L.length + 1 by omega, show ((L.length + 1 : Nat) : Int) = (L.length : Int) + 1 from rfl] at hap
      have hRs : ROW.size = G * 5 := by
        rw [hROW]
        simp only [Array.size_append, List.size_toArray, List.length_nil, size_zeroCells, hz4]
        omega
      obtain ⟨W0, hW0⟩ : ∃ W0, W0 = w.drew.alloc (.cells ROW 35) := ⟨_, rfl⟩
      rw [← hW0] at hap
      have hgW0 : w.grownBy W0 none := by rw [hW0]; exact ⟨rfl, rfl, rfl, by simp, fun b hb _ => Below.heap_alloc w.drew _ b hb⟩
      have hr0 : W0.heap[w.heap.size]? = some (.cells ROW 35 (0, 0)) := by rw [hW0]; exact heap_alloc_new w.drew _
      have hvbl := (Array.getElem?_eq_some_iff.1 hvb).1
      have hgl := (Array.getElem?_eq_some_iff.1 hg).1
      have hv0 : W0.heap[vb]? = some (.cells #[.int .i64 x.pub, .int .i64 x.seq, .string ⟨x.key.toArray⟩, .string ⟨x.body.toArray⟩, .bool x.again] 35 (0, 0)) := (hgW0.block vb hvbl (by simp)).trans hvb
      have hcpA := run_copy_row mgE (w := W0) (p := 0) (dLen := L.length + 1) (dCap := G) (sLen := 1) (sCap := 1) (n := 1) (x := ⟨vb, 0, none⟩) 3 hr0 (mgC x) (by simp [Nat.min_def]) rfl (fun j u hu => by rw [add_at, Nat.zero_add, cell_of_row _ _ _ _ _ _ hv0, ← hu]; simp [mgC]) (by simpa using mg_one [x]) (by rw [hRs]; omega)
      obtain ⟨W1, hW1⟩ : ∃ W1, W1 = W0.setRow w.heap.size (over ROW 0 (mgC x)) := ⟨_, rfl⟩
      rw [← hW1] at hcpA
      have hr1 : W1.heap[w.heap.size]? = some (.cells (over ROW 0 (mgC x)) 35 (0, 0)) := by rw [hW1]; exact setRow_heap W0 w.heap.size ROW _ _ _ hr0
      have hgW1 : W0.grownBy W1 (some w.heap.size) := by rw [hW1]; exact row_grown _ _ _
      have hs1' : (over ROW 0 (mgC x)).size = G * 5 := by rw [over_size (by rw [hRs]; show 0 + 5 ≤ _; omega)]; exact hRs
      have hgg : W1.heap[g]? = some (.cells cur 35 (0, 0)) := (hgW1.block g (Nat.lt_of_lt_of_le hgl hgW0.size) (by simp; omega)).trans ((hgW0.block g hgl (by simp)).trans hg)
      have hsrc : ∀ j u, (L.flatMap mgC)[j]? = some u → W1.drew.cell? ((⟨g, 0, none⟩ : Addr).add j) = some u := fun j u hu => by
        rw [add_at, Nat.zero_add]
        have h1 : W1.cell? ⟨g, j, none⟩ = cur[j]? := cell_of_row W1 _ _ _ _ _ hgg
        have hj : j < L.length * 5 := by
          have := (List.getElem?_eq_some_iff.1 hu).1
          rwa [hflen] at this
        have : cur[j]? = some u := by rw [← hu, ← htk, List.getElem?_take, if_pos hj, Array.getElem?_toList]
        exact h1.trans this
      have hcpB := run_copy_row mgE (w := W1.drew) (p := 5) (dLen := L.length) (dCap := G - 1) (sLen := L.length) (sCap := cap) (n := L.length) (x := ⟨g, 0, none⟩) 3 hr1 (L.flatMap mgC) (by simp [Nat.min_def]) hflen hsrc (mgE.one L) (by rw [hs1']; omega)
      have hs0 : ∀ wx, (Instr.slice 22 (.slice (some ⟨g, 0, none⟩) L.length cap) (some (.int .i64 0)) none none).run Try.prog wx = .ok (.slice (some ⟨g, 0, none⟩) L.length cap) wx := fun wx => by
        simp [Instr.slice, Instr.sliceBounds, Instr.sliceBound, asIntOf, run_underlying mgE.und, mgE.siz]
        intro h
        rw [add_at]
      have hs1 : ∀ wx, (Instr.slice 22 (.slice (some ⟨g, 0, none⟩) L.length cap) none (some (.int .i64 0)) none).run Try.prog wx = .ok (.slice (some ⟨g, 0, none⟩) 0 cap) wx := fun wx => by
        simp [Instr.slice, Instr.sliceBounds, Instr.sliceBound, asIntOf, run_underlying mgE.und, mgE.siz, add_nil]
      have hs2 : ∀ wx, (Instr.slice 22 (.slice (some ⟨w.heap.size, 0, none⟩) (L.length + 1) G) (some (.int .i64 0)) none none).run Try.prog wx = .ok (.slice (some ⟨w.heap.size, 0, none⟩) (L.length + 1) G) wx := fun wx => by
        simp [Instr.slice, Instr.sliceBounds, Instr.sliceBound, asIntOf, run_underlying mgE.und, mgE.siz]
        intro h
        rw [add_at]
      have hs3 : ∀ wx, (Instr.slice 22 (.slice (some ⟨w.heap.size, 0, none⟩) (L.length + 1) G) (some (.int .i64 1)) none none).run Try.prog wx = .ok (.slice (some ⟨w.heap.size, 5, none⟩) L.length (G - 1)) wx := fun wx => by
        simp [Instr.slice, Instr.sliceBounds, Instr.sliceBound, asIntOf, run_underlying mgE.und, mgE.siz]
        rw [if_pos (by omega), if_neg (by omega), add_at]
      have hgr : w.grownBy (W1.drew.setRow w.heap.size (over (over ROW 0 (mgC x)) 5 (L.flatMap mgC))) (some g) := by
        have h := row_grown W1.drew w.heap.size (over (over ROW 0 (mgC x)) 5 (L.flatMap mgC))
        refine ⟨h.os.trans (hgW1.os.trans hgW0.os), h.tape.trans (hgW1.tape.trans hgW0.tape), h.output.trans (hgW1.output.trans hgW0.output), Nat.le_trans hgW0.size (Nat.le_trans hgW1.size h.size), fun b hb _ => ?_⟩
        have hb1 : b ≠ w.heap.size := by omega
        exact (h.block b (Nat.lt_of_lt_of_le hb (Nat.le_trans hgW0.size hgW1.size)) (by simpa using hb1)).trans ((hgW1.block b (Nat.lt_of_lt_of_le hb hgW0.size) (by simpa using hb1)).trans (hgW0.block b hb (by simp)))
      have hfin : OwnG (W1.drew.setRow w.heap.size (over (over ROW 0 (mgC x)) 5 (L.flatMap mgC))) base (.slice (some ⟨w.heap.size, 0, none⟩) (L.length + 1) G) (x :: L) := by
        have hfit : 5 + (L.flatMap mgC).length ≤ (over ROW 0 (mgC x)).size := by rw [hflen, hs1']; omega
        refine OwnE.of_row mgE (l := x :: L) (setRow_heap W1.drew w.heap.size (over ROW 0 (mgC x)) _ _ _ hr1) hbase (cap := G) (by simpa using hGn) hGm (by rw [over_size hfit]; exact hs1') ?_
        have ht := over_to (cur := over ROW 0 (mgC x)) (p := 5) (news := L.flatMap mgC) (by omega)
        rw [hflen] at ht
        have h5 := over_to (cur := ROW) (p := 0) (news := mgC x) (by omega)
        rw [show 0 + (mgC x).length = 5 from rfl, List.take_zero, List.nil_append] at h5
        rw [List.length_cons, show (L.length + 1) * 5 = 5 + L.length * 5 by omega, ht, h5, List.flatMap_cons]
      have HFIN := Lib.hid hfin
      have HGR := Lib.hid hgr
      have HW0 := Lib.hid hW0
      have HW1 := Lib.hid hW1
      have hGi : ((L.length : Int) + 1) ≤ (G : Int) := by omega
      have hG1 : ¬ G = 1 := by omega
      clear hown hg hsz htk hflen hsrc hW1 hgW1 hW0 hgW0 hr0 hr1 hv0 hs1' hgg hfin hgr hvb hvc hvr hcm hold hi0 hz0 hz1 hzb hz3 hz4 hbyb hbyc hG hROW hRs hvbl hgl hGm
      go_enter Try.func78, Try.ntmps78
      go_wp2_with (first | (at_builtin; refine Lib.wpList_append_run _ rfl _ _ _ _ rfl _ _ rfl rfl _ _ hap ?_) | (at_builtin; refine list_copy2 _ rfl (.tmp 43) (.tmp 44) 22 22 rfl _ _ rfl rfl hcpA ?_))
      go_region_law (refine step_copy2 rfl (.tmp 50) (.tmp 53) 22 22 rfl _ _ (by simp [Act.eval, Act.put]) (by simp [Act.eval, Act.put]) hcpB ?_)
      go_wp2_with fail
      go_ret
      exact ⟨_, rfl, HFIN.out, HGR.out⟩
    have hroomi : ¬ (cap : Int) < (L.length : Int) + 1 := by omega
    have hs0 : ∀ wx, (Instr.slice 22 (.slice (some ⟨g, 0, none⟩) L.length cap) (some (.int .i64 0)) none none).run Try.prog wx = .ok (.slice (some ⟨g, 0, none⟩) L.length cap) wx := fun wx => by
      simp [Instr.slice, Instr.sliceBounds, Instr.sliceBound, asIntOf, run_underlying mgE.und, mgE.siz]
      intro h
      rw [add_at]
    have hs1 : ∀ wx, (Instr.slice 22 (.slice (some ⟨g, 0, none⟩) L.length cap) none (some (.int .i64 ((L.length : Int) + 1))) none).run Try.prog wx = .ok (.slice (some ⟨g, 0, none⟩) (L.length + 1) cap) wx := fun wx => by
      have e1 : ((L.length : Int) + 1).toNat = L.length + 1 := by omega
      have e2 : (0 : Int) ≤ (L.length : Int) + 1 := by omega
      have e3 : (L.length : Int) + 1 ≤ (cap : Int) := by omega
      simp [Instr.slice, Instr.sliceBounds, Instr.sliceBound, asIntOf, run_underlying mgE.und, mgE.siz, e1, e2, e3, add_nil]
    have hs3 : ∀ wx, (Instr.slice 22 (.slice (some ⟨g, 0, none⟩) (L.length + 1) cap) (some (.int .i64 1)) none none).run Try.prog wx = .ok (.slice (some ⟨g, 5, none⟩) L.length (cap - 1)) wx := fun wx => by
      simp [Instr.slice, Instr.sliceBounds, Instr.sliceBound, asIntOf, run_underlying mgE.und, mgE.siz]
      rw [if_pos (by omega), if_neg (by omega), add_at]
    have hs4 : ∀ wx, (Instr.slice 22 (.slice (some ⟨g, 0, none⟩) (L.length + 1) cap) (some (.int .i64 0)) none none).run Try.prog wx = .ok (.slice (some ⟨g, 0, none⟩) (L.length + 1) cap) wx := fun wx => by
      simp [Instr.slice, Instr.sliceBounds, Instr.sliceBound, asIntOf, run_underlying mgE.und, mgE.siz]
      intro h
      rw [add_at]
    have hcap5 : 5 + L.length * 5 ≤ cur.size := by rw [hsz]; omega
    have hsrc : ∀ j u, (L.flatMap mgC)[j]? = some u → w.drew.cell? ((⟨g, 0, none⟩ : Addr).add j) = some u := fun j u hu => by
      rw [add_at, Nat.zero_add]
      have h1 : w.cell? ⟨g, j, none⟩ = cur[j]? := cell_of_row w _ _ _ _ _ hg
      have hj : j < L.length * 5 := by
        have := (List.getElem?_eq_some_iff.1 hu).1
        rwa [hflen] at this
      have : cur[j]? = some u := by rw [← hu, ← htk, List.getElem?_take, if_pos hj, Array.getElem?_toList]
      exact h1.trans this
    have hcp1 := run_copy_row mgE (w := w.drew) (p := 5) (dLen := L.length) (dCap := cap - 1) (sLen := L.length + 1) (sCap := cap) (n := L.length) (x := ⟨g, 0, none⟩) 3 hg (L.flatMap mgC) (by simp [Nat.min_def]) hflen hsrc (mgE.one L) hcap5
    obtain ⟨W1, hW1⟩ : ∃ W1, W1 = w.drew.setRow g (over cur 5 (L.flatMap mgC)) := ⟨_, rfl⟩
    rw [← hW1] at hcp1
    have hg1 : W1.heap[g]? = some (.cells (over cur 5 (L.flatMap mgC)) 35 (0, 0)) := by rw [hW1]; exact setRow_heap w.drew g cur _ _ _ hg
    have hgr1 : w.grownBy W1 (some g) := by
      rw [hW1]
      have h := row_grown w.drew g (over cur 5 (L.flatMap mgC))
      exact ⟨h.os, h.tape, h.output, h.size, h.block⟩
    have hv1 : W1.heap[vb]? = some (.cells #[.int .i64 x.pub, .int .i64 x.seq, .string ⟨x.key.toArray⟩, .string ⟨x.body.toArray⟩, .bool x.again] 35 (0, 0)) := (hgr1.block vb (Array.getElem?_eq_some_iff.1 hvb).1 (fun e => hne (Option.some.inj e))).trans hvb
    have hs5 : (over cur 5 (L.flatMap mgC)).size = cur.size := over_size (by rw [hflen]; exact hcap5)
    have hcp2 := run_copy_row mgE (w := W1) (p := 0) (dLen := L.length + 1) (dCap := cap) (sLen := 1) (sCap := 1) (n := 1) (x := ⟨vb, 0, none⟩) 3 hg1 (mgC x) (by simp [Nat.min_def]) rfl (fun j u hu => by rw [add_at, Nat.zero_add, cell_of_row _ _ _ _ _ _ hv1, ← hu]; simp [mgC]) (by simpa using mg_one [x]) (by rw [hs5]; omega)
    have hov : ∀ lb cb, (callFunc 113 #[.slice (some ⟨vb, 0, none⟩) 1 1, .slice (some ⟨g, 5, none⟩) lb cb]).run Try.prog w = .ok (.value (.bool false)) w := fun lb cb => by
      rw [run_callFunc_extern Try.func113 (by kernel_rfl) (by kernel_rfl) (by kernel_rfl) (e := Extern.SlicesOverlaps.overlaps #[22, 22] #[4]) (by kernel_rfl),
        Lib.run_overlaps_apart w 22 4 35 mgE.und 5 mgE.siz ⟨vb, 0, none⟩ ⟨g, 5, none⟩ 1 1 lb cb hne 35 35 5 cur.size (by simp [World.shape?, hvb]) (by simp [World.shape?, hg]) (by omega) (by simp [World.frozen?, hvb]) (by simp [World.frozen?, hvb])]
      rfl
    have hfin : OwnG (W1.setRow g (over (over cur 5 (L.flatMap mgC)) 0 (mgC x))) base (.slice (some ⟨g, 0, none⟩) (L.length + 1) cap) (x :: L) := by
      have hs6 : (over (over cur 5 (L.flatMap mgC)) 0 (mgC x)).size = cur.size := by rw [over_size (by rw [hs5]; show 0 + 5 ≤ _; omega)]; exact hs5
      refine OwnE.of_row mgE (l := x :: L) (setRow_heap W1 g (over cur 5 (L.flatMap mgC)) _ _ _ hg1) hbg (cap := cap) (by simpa using hroom) hcm (by rw [hs6]; exact hsz) ?_
      have ht := over_to (cur := cur) (p := 5) (news := L.flatMap mgC) (by omega)
      rw [hflen] at ht
      have hd : (over (over cur 5 (L.flatMap mgC)) 0 (mgC x)).toList = mgC x ++ (over cur 5 (L.flatMap mgC)).toList.drop 5 := by
        unfold over
        simp [mgC]
      rw [hd, List.length_cons, show (L.length + 1) * 5 = (mgC x).length + L.length * 5 by show _ = 5 + _; omega, List.take_length_add_append, List.flatMap_cons]
      congr 1
      have : ((over cur 5 (L.flatMap mgC)).toList.take (5 + L.length * 5)).drop 5 = L.flatMap mgC := by
        rw [ht, List.drop_append_of_le_length (by rw [List.length_take, Array.length_toList]; omega), List.drop_of_length_le (by rw [List.length_take]; omega), List.nil_append]
      rw [List.drop_take, Nat.add_sub_cancel_left] at this
      exact this
    have hgr : w.grownBy (W1.setRow g (over (over cur 5 (L.flatMap mgC)) 0 (mgC x))) (some g) := grown_trans hgr1 (row_grown W1 g _)
    have HFIN := Lib.hid hfin
    have HGR := Lib.hid hgr
    have hrl : (L.length : Int) + 1 ≤ (cap : Int) := by omega
    have hc1 : ¬ cap = 1 := by omega
    have hrl2 : ¬ (cap : Int) < (L.length : Int) + 1 := by omega
    clear hown hg hsz htk hflen hcap5 hsrc hW1 hg1 hgr1 hv1 hs5 hfin hgr hvb hvc hvr hcm
    go_enter Try.func78, Try.ntmps78
    go_wp2_with (simp only [hov])
    go_region_law (refine step_copy2 rfl (.tmp 73) (.tmp 76) 22 22 rfl _ _ (by simp [Act.eval, Act.put]) (by simp [Act.eval, Act.put]) hcp1 ?_)
    go_wp2_with (at_builtin; refine list_copy2 _ rfl (.tmp 80) (.tmp 81) 22 22 rfl _ _ rfl rfl hcp2 ?_)
    go_ret
    exact ⟨_, rfl, HFIN.out, HGR.out⟩

end Go.Proofs.Ythohjcfpobeplaa.Sh
