/-
  Same's stack of couples, and its map, in memory.
-/
import Derived.Test.YtpibbgencojbgaaCp
import Derived.WalkSmall
import Derived.Lib.OwnKind
namespace Go.Proofs.Ytpibbgencojbgaa
open Go.RowKit
set_option linter.unusedVariables false

/-- the stack lies in block g, the map in block M. -/
structure Sst (B : Nat) (w0 w : World) (M g cap : Nat) (cs : List Cp) (S : Option Addr → Prop) : Prop where
  hB : B ≤ w0.heap.size
  bel : Below B w0 w
  hM : B ≤ M
  hg : B ≤ g
  row : w.ownsRow B 84 2 (.slice (some ⟨g, 0, none⟩) cs.length cap) cs.length (cs.flatMap cc)
  map : MapIs w B M S
section
variable {B M g cap : Nat} {w0 w w' : World} {cs r : List Cp} {c : Cp} {S : Option Addr → Prop}
theorem Sst.size (h : Sst B w0 w M g cap cs S) : B ≤ w.heap.size := Nat.le_trans h.hB h.bel.size
theorem Sst.below (h : Sst B w0 w M g cap cs S) (hb : Below w.heap.size w w') : Sst B w0 w' M g cap cs S :=
  ⟨h.hB, h.bel.trans (hb.mono h.size), h.hM, h.hg, h.row.kept (row := none) ⟨hb.os, hb.tape, hb.output, hb.size, fun i hi _ => hb.block i hi⟩ (.inr (by simp [Value.ownBlock])), h.map.keep (hb.mono h.size) (hb.block M h.map.lt)⟩
theorem Sst.ne (h : Sst B w0 w M g cap cs S) : g ≠ M := by
  intro e
  subst e
  obtain ⟨es, k, hm, _⟩ := h.map
  obtain ⟨k, t, hg⟩ := Lib.ownsRow_kind h.row g rfl
  rw [hm] at hg
  cases hg
theorem Sst.lt (h : Sst B w0 w M g cap cs S) : g < w.heap.size := (h.row.lt g rfl).2
theorem Sst.pop (h : Sst B w0 w M g cap (r ++ [c]) S) : Sst B w0 w M g cap r S := by
  refine ⟨h.hB, h.bel, h.hM, h.hg, ?_, h.map⟩
  have := h.row
  rw [List.length_append, List.flatMap_append] at this
  refine ownsRow_pop (last := cc c) ?_ (by simpa using this)
  clear this h
  induction r with
  | nil => simp
  | cons x r ih => simp [ih, cc]; omega
theorem flat_len : ∀ cs : List Cp, (cs.flatMap cc).length = cs.length * 2
  | [] => by simp
  | x :: r => by simp [flat_len r, cc]; omega
theorem Sst.cells (h : Sst B w0 w M g cap (r ++ [c]) S) :
    w.cell? ⟨g, r.length * 2, none⟩ = some (.slice c.a c.la.length c.ca) ∧ w.cell? ⟨g, r.length * 2 + 1, none⟩ = some (.slice c.b c.lb.length c.cb) ∧ w.frozen? ⟨g, 0, none⟩ = false := by
  have h1 := h.row.cellAt (r.length * 2) (by simp)
  have h2 := h.row.cellAt (r.length * 2 + 1) (by rw [List.length_append, List.length_singleton]; omega)
  rw [List.flatMap_append, List.getElem?_append_right (by rw [flat_len]; omega)] at h1 h2
  rw [flat_len] at h1 h2
  refine ⟨by rw [h1]; simp [cc], by rw [h2, show r.length * 2 + 1 - r.length * 2 = 1 by omega]; simp [cc], h.row.frozenAt 0⟩
theorem Sst.capOk (h : Sst B w0 w M g cap cs S) : cs.length ≤ cap ∧ cap ≤ maxLen := by
  rcases h.row.2 with ⟨e, _⟩ | ⟨g', cap', cur, hv, hg, hh, hn, hcap, hsz, htake⟩
  · cases e
  · cases hv
    exact ⟨hn, hcap⟩
theorem Sst.upd {S' : Option Addr → Prop} (h : Sst B w0 w M g cap cs S) (hg : w.grownBy w' (some M)) (hm : MapIs w' B M S') : Sst B w0 w' M g cap cs S' :=
  ⟨h.hB, h.bel.grown hg h.size (fun k e => by cases e; exact h.hM), h.hM, h.hg, h.row.kept hg (.inr (by simpa [Value.ownBlock] using h.ne)), hm⟩

theorem couple_info : (Try.prog.info? 84).map (fun i => (i.zero, i.size, i.bytes)) = some (some (.agg #[.slice none 0 0, .slice none 0 0]), 2, 48) := by kernel_rfl

/-- a couple more: its cells lie in the block made last. -/
theorem put_couple {ops : Array Oper} {rest : List Oper} {o : Oper} {a : Act} {Q : Exit → Act → World → Prop} {os : Array Value} (hgd : o.guard = none) (s x : Operand)
    (ho : o.op = .call { callee := .builtin .append, args := #[s, x], argTypes := #[85, 85] }) (c : Cp) (hb : Sst B w0 w M g cap cs S) (hl : cs.length ≤ 100000) (hcs : os = (cc c).toArray) (N : Nat) (hN : N = cs.length)
    (hs : a.eval s = .slice (some ⟨g, 0, none⟩) N cap) (H : Nat) (hH : w.heap.size = H) (hx : a.eval x = .slice (some ⟨H, 0, none⟩) 1 1)
    (h : ∀ g' cap' w', Sst B w0 w' M g' cap' (cs ++ [c]) S → w.grownBy w' (some g) → (g' = g ∨ w.heap.size ≤ g') →
      wpList Try.prog ops Q rest (a.put o.dst (.slice (some ⟨g', 0, none⟩) (N + 1) cap')) w') :
    wpList Try.prog ops Q (o :: rest) a (w.alloc (.cells os 84)) := by
  subst hcs
  subst hN
  subst hH
  obtain ⟨i0, hi, hz0, hz1, hz2⟩ := info_parts couple_info
  have hb' := World.ownsRow.alloc hb.row (.cells (cc c).toArray 84)
  have hone : ∀ u ∈ cc c, u.oneCell' = true := by
    intro u hu
    simp only [cc, List.mem_cons, List.not_mem_nil, or_false] at hu
    rcases hu with rfl | rfl <;> rfl
  refine wpList_append_lies _ hgd s x 85 ho B 84 i0 _ 2 48 Try.underlying85 hi hz0 hz1 hz2 rfl (by decide) _ cs.length (cs.flatMap cc) hs hb' ⟨w.heap.size, 0, none⟩ 1 1 (cc c) hx (by simp [cc]) (World.news_of_block (heap_alloc_new w _)) hone (by decide) (by unfold maxLen; omega) (by omega) (by simp; have := hb.size; omega) _ rfl ?_
  intro g' cap' w' hown hg hat hlt
  have hgb := alloc_before hg
  have hat' : g' = g ∨ w.heap.size ≤ g' := by
    rcases hat with h1 | h1
    · exact .inl (by simpa [Value.ownBlock] using h1.symm)
    · exact .inr (by simp at h1; omega)
  have hBel : Below B w w' := (Below.refl B w).grown hgb hb.size (fun k e => by cases e; exact hb.hg)
  refine h g' cap' w' ⟨hb.hB, hb.bel.trans hBel, hb.hM, ?_, ?_, hb.map.keep hBel (hgb.block M hb.map.lt (fun e => hb.ne (by simpa [Value.ownBlock] using e.symm)))⟩ hgb hat'
  · rcases hat' with rfl | h1
    · exact hb.hg
    · have := hb.size; omega
  · rw [List.length_append, List.flatMap_append]
    simpa using hown
end

end Go.Proofs.Ytpibbgencojbgaa
