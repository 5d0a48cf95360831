/-
  A row of bytes in memory: its copy, one of it turned.
-/
import Derived.Test.YtcjlbohgonagdaaGetT
import Derived.Test.YtcjlbohgonagdaaPutT
import Derived.Deep.OwnRows
import Derived.Deep.AppendLies
import Derived.Laws.OwnMore
import Derived.Laws.BitsAllLaws
namespace Go.Proofs.Ytcjlbohgonagdaa
open Go.RowKit
set_option linter.unusedVariables false

/-- block g holds these bytes at its beginning. -/
structure Bytes1 (w : World) (g cap : Nat) (l : List UInt8) : Prop where
  len : l.length ≤ cap
  max : cap ≤ maxLen
  row : ∃ f, w.rowIs g 5 cap f ∧ ∀ (i : Nat) (h : i < l.length), f i = .int .u8 l[i].toNat

theorem Bytes1.keep {w w' : World} {g cap : Nat} {l : List UInt8} (h : Bytes1 w g cap l) (hb : w'.heap[g]? = w.heap[g]?) : Bytes1 w' g cap l := by
  obtain ⟨h1, h2, f, hr, hf⟩ := h
  exact ⟨h1, h2, f, hr.of_block hb, hf⟩
theorem Bytes1.lt {w : World} {g cap : Nat} {l : List UInt8} (h : Bytes1 w g cap l) : g < w.heap.size := by
  obtain ⟨_, _, f, hr, _⟩ := h
  exact hr.lt
theorem Bytes1.below {w w' : World} {g cap : Nat} {l : List UInt8} (h : Bytes1 w g cap l) (hb : Below w.heap.size w w') : Bytes1 w' g cap l := h.keep (hb.block g h.lt)
theorem Bytes1.cell {w : World} {g cap : Nat} {l : List UInt8} (h : Bytes1 w g cap l) {i : Nat} (hi : i < l.length) : w.cell? ⟨g, i, none⟩ = some (.int .u8 l[i].toNat) := by
  obtain ⟨h1, h2, f, hr, hf⟩ := h
  rw [hr.cell (by omega), hf i hi]
theorem Bytes1.frozen {w : World} {g cap : Nat} {l : List UInt8} (h : Bytes1 w g cap l) (i : Nat) : w.frozen? ⟨g, i, none⟩ = false := by
  obtain ⟨h1, h2, f, hr, hf⟩ := h
  exact hr.frozen i
theorem Bytes1.at {w : World} {g cap : Nat} {l : List UInt8} (h : Bytes1 w g cap l) : BytesAt w.heap.size w (some ⟨g, 0, none⟩) l :=
  fun _ => ⟨g, 0, rfl, h.lt, fun i hi => by rw [Nat.zero_add]; exact h.cell hi⟩
theorem Bytes1.in {w : World} {g cap : Nat} {l : List UInt8} (h : Bytes1 w g cap l) : BytesIn w.heap.size w (.slice (some ⟨g, 0, none⟩) l.length cap) l :=
  ⟨_, cap, rfl, h.len, h.max, h.at⟩
theorem Bytes1.set {w : World} {g cap : Nat} {l : List UInt8} (h : Bytes1 w g cap l) (k : Nat) (c : UInt8) : Bytes1 (w.setCell ⟨g, k, none⟩ (.int .u8 c.toNat)) g cap (l.set k c) := by
  obtain ⟨h1, h2, f, hr, hf⟩ := h
  refine ⟨by simpa using h1, h2, _, hr.set k _, fun i hi => ?_⟩
  have hi' : i < l.length := by simpa using hi
  rw [List.getElem_set]
  by_cases e : i = k
  · subst e; simp
  · rw [if_neg e, if_neg (fun h => e h.symm)]
    exact hf i hi'
/-- what Put answers lies so. -/
theorem Buf.bytes1 {w : World} {base : Nat} {v : Value} {l : List UInt8} (h : Buf w base v l) (h0 : 0 < l.length) : ∃ g cap, v = .slice (some ⟨g, 0, none⟩) l.length cap ∧ base ≤ g ∧ Bytes1 w g cap l := by
  rcases h.2 with ⟨rfl, hn⟩ | ⟨g, cap, cur, rfl, hbg, hg, hnc, hcm, hcs, htake⟩
  · omega
  · have hcs' : cur.size = cap := by simpa using hcs
    refine ⟨g, cap, rfl, hbg, hnc, hcm, fun j => cur[j]?.getD undef, ⟨cur, hg, hcs', fun j hj => ?_⟩, fun i hi => ?_⟩
    · simp [Array.getElem?_eq_getElem (show j < cur.size by omega)]
    · have : cur.toList[i]? = (cellsOf l)[i]? := by rw [← htake, List.getElem?_take, if_pos (by omega)]
      show cur[i]?.getD undef = _
      rw [← Array.getElem?_toList, this]
      simp [cellsOf, List.getElem?_eq_getElem hi]

/-- append([]byte{}, b...): a copy. -/
theorem put_dup {ops : Array Oper} {rest : List Oper} {o : Oper} {a : Act} {Q : Exit → Act → World → Prop} {w : World} {g capl H n : Nat} {l : List UInt8} (hgd : o.guard = none) (s x : Operand)
    (ho : o.op = .call { callee := .builtin .append, args := #[s, x], argTypes := #[25, 25] }) (hz : 0 < l.length) (hl : l.length ≤ 100000) (hb : Bytes1 w g capl l)
    (hH : w.heap.size = H) (hs : a.eval s = .slice (some ⟨H, 0, none⟩) 0 0) (hn : n = l.length) (hx : a.eval x = .slice (some ⟨g, 0, none⟩) n capl)
    (h : ∀ g2 cap2 w', w.heap.size ≤ g2 → Buf w' w.heap.size (.slice (some ⟨g2, 0, none⟩) n cap2) l → Below w.heap.size w w' →
      wpList Try.prog ops Q rest (a.put o.dst (.slice (some ⟨g2, 0, none⟩) n cap2)) w') :
    wpList Try.prog ops Q (o :: rest) a (w.alloc (.cells #[] 5)) := by
  subst hH
  subst hn
  obtain ⟨i0, hi, hz0, hz1, hz2⟩ := info_parts u8_info
  have hb' : (w.alloc (.cells #[] 5)).ownsRow w.heap.size 5 1 (.slice (some ⟨w.heap.size, 0, none⟩) 0 0) 0 [] := World.ownsRow_lit w #[] 0 (Nat.le_refl _) (by decide) (by simp)
  have hbel : Below w.heap.size w (w.alloc (.cells #[] 5)) := (Below.refl _ _).alloc (Nat.le_refl _) _
  have hlc : (cellsOf l).length = l.length := by simp [cellsOf]
  refine wpList_append_lies _ hgd s x 25 ho w.heap.size 5 i0 _ 1 1 Try.underlying25 hi hz0 hz1 hz2 rfl (by decide) _ 0 [] hs hb' ⟨g, 0, none⟩ l.length capl (cellsOf l) hx (by rw [hlc]; omega) (fun j u hu => ?_) (cellsOf_one l) hz (by unfold maxLen; omega) (by omega) (by simp) _ rfl ?_
  · have hj : j < l.length := by have := (List.getElem?_eq_some_iff.1 hu).1; omega
    rw [add_at, Nat.zero_add, (hb.below hbel).cell hj, ← hu]
    simp [cellsOf, List.getElem?_eq_getElem hj]
  · intro g2 cap2 w' hown hg hat hlt
    rw [Nat.zero_add, List.nil_append] at hown
    rw [Nat.zero_add]
    refine h g2 cap2 w' ?_ hown (hbel.grown hg (by simp) (fun k e => by
      have : w.heap.size = k := by simpa [Value.ownBlock] using e
      omega))
    rcases hat with h1 | h1
    · have : w.heap.size = g2 := by simpa [Value.ownBlock] using h1
      omega
    · simp at h1; omega

theorem buf_row {w : World} {base g n cap : Nat} {l : List UInt8} (h : Buf w base (.slice (some ⟨g, 0, none⟩) n cap) l) (h0 : 0 < l.length) : Bytes1 w g cap l := by
  obtain ⟨g', cap', e, _, hb⟩ := h.bytes1 h0
  obtain ⟨eg, -, rfl⟩ := Value.slice.inj e
  obtain rfl : g = g' := by simpa using eg
  exact hb
theorem Bytes1.cut {w : World} {g cap k : Nat} {l : List UInt8} (h : Bytes1 w g cap l) (hk : k ≤ l.length) : BytesIn w.heap.size w (.slice (some ⟨g, 0, none⟩) k cap) (l.take k) :=
  ⟨_, cap, by rw [List.length_take, Nat.min_eq_left hk], by have := h.len; simp; omega, h.max, h.at.take k⟩

theorem xor_byte (x c : UInt8) : bits .xor .u8 (x.toNat : Int) (c.toNat : Int) = ((x ^^^ c).toNat : Int) := by
  rw [u8_xor_nat _ _ x.toNat_lt c.toNat_lt, UInt8.toNat_xor]
theorem byte_of {n : Int} (h : 0 ≤ n ∧ n < 256) : ∃ c : UInt8, n = (c.toNat : Int) := by
  refine ⟨UInt8.ofNat n.toNat, ?_⟩
  rw [UInt8.toNat_ofNat', Nat.mod_eq_of_lt (by omega)]
  omega

end Go.Proofs.Ytcjlbohgonagdaa
