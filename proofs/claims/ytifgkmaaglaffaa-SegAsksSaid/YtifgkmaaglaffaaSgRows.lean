/-
  Rows of byte slices in memory: those that are read, those of the call's own; slices of bytes cut.
-/
import Derived.Test.YtifgkmaaglaffaaKept
import Derived.Lib.AppendStr
import Derived.Deep.AppendLies
import Derived.OwnWalk
namespace Go.Proofs.Ytifgkmaaglaffaa.Sg
open Go.RowKit
set_option linter.unusedVariables false
variable {B C : Nat}

theorem add_nil (x : Addr) : x.add 0 = x := by unfold Addr.add; simp
/-- the bytes behind the first k. -/
theorem back_bytes {w : World} {a : Option Addr} {cap : Nat} {l : List UInt8} (h : BytesAt B w a l) (hl : l.length ≤ cap) (hcm : cap ≤ maxLen) (hn : a = none → cap = 0) (k : Nat) (hk : k ≤ l.length) :
    ∃ a', BytesAt B w a' (l.drop k) ∧ (a' = none → cap - k = 0) ∧ ∀ wx, (Instr.slice 22 (.slice a l.length cap) (some (.int .i64 k)) none none).run Try.prog wx = .ok (.slice a' (l.drop k).length (cap - k)) wx := by
  cases a with
  | none =>
    obtain rfl := hn rfl
    obtain rfl : k = 0 := by omega
    refine ⟨none, by simpa using h, fun _ => rfl, fun wx => ?_⟩
    have hl : l.length = 0 := by omega
    simp [Instr.slice, Instr.sliceBounds, Instr.sliceBound, asIntOf, run_underlying Try.underlying22, hl]
  | some x =>
    refine ⟨some (if cap - k = 0 then x else x.add k), fun h0 => ?_, (fun h => by cases h), fun wx => ?_⟩
    · simp only [List.length_drop] at h0
      obtain ⟨b, o, ha, hbB, hc⟩ := h (by omega)
      injection ha with ha
      subst ha
      rw [if_neg (by omega), add_at]
      exact BytesAt.drop h k (by simp; omega)
    · simp [Instr.slice, Instr.sliceBounds, Instr.sliceBound, asIntOf, run_underlying Try.underlying22]
      rw [if_pos hk]
      by_cases hc : cap = k
      · rw [if_pos hc, if_pos (by omega)]
      · rw [if_neg hc, if_neg (by omega)]
/-- the first k bytes. -/
theorem front_bytes {a : Option Addr} {cap : Nat} {l : List UInt8} (hl : l.length ≤ cap) (hn : a = none → cap = 0) (k : Nat) (hk : k ≤ l.length) :
    ∀ wx, (Instr.slice 22 (.slice a l.length cap) none (some (.int .i64 k)) none).run Try.prog wx = .ok (.slice a (l.take k).length cap) wx := by
  intro wx
  rw [List.length_take, Nat.min_eq_left hk]
  cases a with
  | none =>
    obtain rfl := hn rfl
    obtain rfl : k = 0 := by omega
    simp [Instr.slice, Instr.sliceBounds, Instr.sliceBound, asIntOf, run_underlying Try.underlying22]
  | some x =>
    simp [Instr.slice, Instr.sliceBounds, Instr.sliceBound, asIntOf, run_underlying Try.underlying22]
    rw [if_pos (by omega), add_nil]
    simp

/-- these rows of bytes, in a slice at a, all below C. -/
structure BbsAt (C : Nat) (w : World) (a : Option Addr) (cap : Nat) (l : List (List UInt8)) : Prop where
  len : l.length ≤ cap
  max : cap ≤ maxLen
  get : ∀ (i : Nat) (h : i < l.length), ∃ b o da dc, a = some ⟨b, o, none⟩ ∧ b < C ∧ w.cell? ⟨b, o + i, none⟩ = some (.slice da l[i].length dc) ∧ l[i].length ≤ dc ∧ dc ≤ maxLen ∧ BytesAt C w da l[i]
theorem BbsAt.under {w w' : World} {a : Option Addr} {cap : Nat} {l : List (List UInt8)} (h : BbsAt C w a cap l) (hb : Below C w w') : BbsAt C w' a cap l := by
  refine ⟨h.len, h.max, fun i hi => ?_⟩
  obtain ⟨b, o, da, dc, ha, hlt, h0, h3, h4, h5⟩ := h.get i hi
  exact ⟨b, o, da, dc, ha, hlt, (hb.cell (p := ⟨b, o + i, none⟩) hlt).trans h0, h3, h4, h5.under hb⟩
theorem BbsAt.mono {C' : Nat} {w : World} {a : Option Addr} {cap : Nat} {l : List (List UInt8)} (h : BbsAt C w a cap l) (hc : C ≤ C') : BbsAt C' w a cap l := by
  refine ⟨h.len, h.max, fun i hi => ?_⟩
  obtain ⟨b, o, da, dc, ha, hlt, h0, h3, h4, h5⟩ := h.get i hi
  exact ⟨b, o, da, dc, ha, Nat.lt_of_lt_of_le hlt hc, h0, h3, h4, h5.mono hc⟩
theorem BbsAt.nil (C : Nat) (w : World) : BbsAt C w none 0 [] := ⟨Nat.le_refl _, by decide, fun i h => by simp at h⟩

abbrev BZ := List UInt8 × (Option Addr × Nat)
def bzc (z : BZ) : Value := .slice z.2.1 z.1.length z.2.2
structure BZOk (row : Option Nat) (w : World) (z : BZ) : Prop where
  dat : BytesOff row w z.2.1 z.1
  len : z.1.length ≤ z.2.2
  max : z.2.2 ≤ maxLen
/-- a row of the call's own, its bytes elsewhere. -/
structure OwnBB (w : World) (base : Nat) (v : Value) (zs : List BZ) : Prop where
  row : w.ownsRow base 22 1 v zs.length (zs.map bzc)
  ok : ∀ z ∈ zs, BZOk v.ownBlock w z
theorem OwnBB.nil (w : World) (base : Nat) : OwnBB w base (.slice none 0 0) [] := ⟨World.ownsRow_nil w base _ _, fun z hz => by simp at hz⟩
theorem OwnBB.form {w : World} {base : Nat} {v : Value} {zs : List BZ} (h : OwnBB w base v zs) : ∃ a c, v = .slice a zs.length c := by
  rcases h.row.2 with ⟨rfl, hn⟩ | ⟨g, cap, cur, rfl, _⟩
  · exact ⟨none, 0, by rw [hn]⟩
  · exact ⟨_, _, rfl⟩
theorem OwnBB.below {w w' : World} {base : Nat} {v : Value} {zs : List BZ} (h : OwnBB w base v zs) (hb : Below w.heap.size w w') : OwnBB w' base v zs :=
  ⟨World.ownsRow.below1 h.row hb, fun z hz => ⟨(h.ok z hz).dat.below hb, (h.ok z hz).len, (h.ok z hz).max⟩⟩
theorem OwnBB.at {w : World} {base : Nat} {v : Value} {zs : List BZ} (h : OwnBB w base v zs) : ∃ a cap, v = .slice a (zs.map (·.1)).length cap ∧ BbsAt w.heap.size w a cap (zs.map (·.1)) := by
  rcases h.row.2 with ⟨rfl, hn⟩ | ⟨g, cap, cur, hv, hbg, hg, hnc, hcm, hcs, htake⟩
  · obtain rfl : zs = [] := List.eq_nil_of_length_eq_zero hn
    exact ⟨none, 0, rfl, BbsAt.nil _ _⟩
  · refine ⟨some ⟨g, 0, none⟩, cap, by simpa using hv, by simpa using hnc, hcm, fun i hi => ?_⟩
    have hi' : i < zs.length := by simpa using hi
    have hc : w.cell? ⟨g, 0 + i, none⟩ = some (bzc zs[i]) := by
      rw [Nat.zero_add, cell_of_row w _ _ _ _ _ hg]
      have : cur.toList[i]? = (zs.map bzc)[i]? := by rw [← htake, List.getElem?_take, if_pos (by omega)]
      rw [← Array.getElem?_toList, this]
      simp [List.getElem?_eq_getElem hi']
    have hzi := h.ok _ (List.getElem_mem hi')
    refine ⟨g, 0, zs[i].2.1, zs[i].2.2, rfl, (Array.getElem?_eq_some_iff.1 hg).1, ?_, ?_, hzi.max, ?_⟩
    · rw [List.getElem_map]; exact hc
    · rw [List.getElem_map]; exact hzi.len
    · rw [List.getElem_map]; exact hzi.dat.at

theorem bz_info : (Try.prog.info? 22).map (fun i => (i.zero, i.size, i.bytes)) = some (some (.slice none 0 0), 1, 24) := by kernel_rfl
/-- a row of bytes more: it lies in the block made last. -/
theorem put_bz {ops : Array Oper} {rest : List Oper} {o : Oper} {a : Act} {Q : Exit → Act → World → Prop} {w : World} {base : Nat} {v : Value} {zs : List BZ} {ad : Option Addr} {n c : Nat} (d : List UInt8) (hgd : o.guard = none) (s x : Operand)
    (ho : o.op = .call { callee := .builtin .append, args := #[s, x], argTypes := #[23, 23] }) (hb : OwnBB w base v zs) (hz : BZOk v.ownBlock w (d, ad, c)) (hbase : base ≤ w.heap.size) (hl : zs.length ≤ 1000000000) (hn : n = d.length)
    (hs : a.eval s = v) (H : Nat) (hH : w.heap.size = H) (hx : a.eval x = .slice (some ⟨H, 0, none⟩) 1 1)
    (h : ∀ v' w', OwnBB w' base v' (zs ++ [(d, ad, c)]) → w.grownBy w' v.ownBlock → wpList Try.prog ops Q rest (a.put o.dst v') w') :
    wpList Try.prog ops Q (o :: rest) a (w.alloc (.cells #[.slice ad n c] 22)) := by
  subst hH
  subst hn
  obtain ⟨i0, hi, hz0, hz1, hz2⟩ := info_parts bz_info
  have hb' := World.ownsRow.alloc hb.row (.cells #[bzc (d, ad, c)] 22)
  have hone : ∀ u ∈ [bzc (d, ad, c)], u.oneCell' = true := by
    intro u hu
    simp only [List.mem_cons, List.not_mem_nil, or_false] at hu
    subst hu
    rfl
  refine wpList_append_lies _ hgd s x 23 ho base 22 i0 _ 1 24 Try.underlying23 hi hz0 hz1 hz2 rfl (by decide) v zs.length (zs.map bzc) hs hb' ⟨w.heap.size, 0, none⟩ 1 1 [bzc (d, ad, c)] hx (by simp) (World.news_of_block (heap_alloc_new w _)) hone (by decide) (by unfold maxLen; omega) (by omega) (by simp; omega) _ rfl ?_
  intro g cap w' hown hg hat hlt
  have hrow : ∀ k, (Value.slice (some ⟨g, 0, none⟩) (zs.length + 1) cap).ownBlock = some k → v.ownBlock = some k ∨ w.heap.size ≤ k := by
    intro k e
    obtain rfl : g = k := by simpa [Value.ownBlock] using e
    rcases hat with h1 | h1
    · exact .inl h1
    · exact .inr (by simp at h1; omega)
  refine h _ w' ⟨?_, fun z hzm => ?_⟩ (alloc_before hg)
  · rw [List.length_append, List.map_append]
    simpa using hown
  · have hg2 := alloc_before hg
    rcases List.mem_append.1 hzm with hm | hm
    · exact ⟨(hb.ok z hm).dat.grown hg2 hrow, (hb.ok z hm).len, (hb.ok z hm).max⟩
    · simp only [List.mem_cons, List.not_mem_nil, or_false] at hm
      subst hm
      exact ⟨hz.dat.grown hg2 hrow, hz.len, hz.max⟩
/-- bytes of a copy lie off an older row. -/
theorem off_new {w w' : World} {v : Value} {row : Option Nat} {l : List UInt8} (hb : Buf w' w.heap.size v l) (hr : ∀ k, row = some k → k < w.heap.size) : ∃ a c, v = .slice a l.length c ∧ BZOk row w' (l, a, c) := by
  rcases hb.2 with ⟨rfl, hn⟩ | ⟨g, cap, cur, rfl, hbg, hg, hnc, hcm, hcs, htake⟩
  · obtain rfl : l = [] := List.eq_nil_of_length_eq_zero hn
    exact ⟨none, 0, rfl, fun h => by simp at h, Nat.le_refl _, by simp [maxLen]⟩
  · refine ⟨_, cap, rfl, fun h0 => ?_, hnc, hcm⟩
    obtain ⟨b, o, ha, hlt, hc⟩ := (show BytesAt w'.heap.size w' (some ⟨g, 0, none⟩) l by
      obtain ⟨a', c', he, h1, h2, h3⟩ := hb.bytes
      obtain ⟨rfl, -, -⟩ := Value.slice.inj he
      exact h3) h0
    refine ⟨b, o, ha, hlt, fun e => ?_, hc⟩
    injection ha with ha
    injection ha with ha
    have := hr b e
    omega

end Go.Proofs.Ytifgkmaaglaffaa.Sg
