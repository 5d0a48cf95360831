/-
  Bytes of the call's own kept over later work; what is kept but for some blocks. No function of the program is named here.
-/
import Derived.Test.YtifgkmaaglaffaaBy
namespace Go.Proofs.Ytifgkmaaglaffaa
open Go.RowKit
set_option linter.unusedVariables false
variable {B : Nat}

theorem BytesAt.under {B : Nat} {w w' : World} {a : Option Addr} {l : List UInt8} (h : BytesAt B w a l) (hb : Below B w w') : BytesAt B w' a l := by
  intro h0
  obtain ⟨b, o, rfl, hbB, hc⟩ := h h0
  exact ⟨b, o, rfl, hbB, fun i hi => (hb.cell (p := ⟨b, o + i, none⟩) hbB).trans (hc i hi)⟩
theorem BytesAt.mono {B B' : Nat} {w : World} {a : Option Addr} {l : List UInt8} (h : BytesAt B w a l) (hb : B ≤ B') : BytesAt B' w a l := by
  intro h0
  obtain ⟨b, o, rfl, hbB, hc⟩ := h h0
  exact ⟨b, o, rfl, Nat.lt_of_lt_of_le hbB hb, hc⟩
theorem Buf.mono {w : World} {base base' : Nat} {v : Value} {l : List UInt8} (h : Buf w base v l) (hb : base' ≤ base) : Buf w base' v l := by
  refine ⟨h.1, ?_⟩
  rcases h.2 with h1 | ⟨g, cap, cur, hv, hbg, r⟩
  · exact .inl h1
  · exact .inr ⟨g, cap, cur, hv, by omega, r⟩
def BytesOff (row : Option Nat) (w : World) (a : Option Addr) (l : List UInt8) : Prop := 0 < l.length → ∃ b o, a = some ⟨b, o, none⟩ ∧ b < w.heap.size ∧ row ≠ some b ∧ ∀ (i : Nat) (h : i < l.length), w.cell? ⟨b, o + i, none⟩ = some (.int .u8 l[i].toNat)
theorem BytesOff.at {row : Option Nat} {w : World} {a : Option Addr} {l : List UInt8} (h : BytesOff row w a l) : BytesAt w.heap.size w a l := by
  intro h0
  obtain ⟨b, o, ha, hb, _, hc⟩ := h h0
  exact ⟨b, o, ha, hb, hc⟩
theorem BytesOff.grown {row row' : Option Nat} {w w' : World} {a : Option Addr} {l : List UInt8} (h : BytesOff row w a l) (hg : w.grownBy w' row) (hr : ∀ g, row' = some g → row = some g ∨ w.heap.size ≤ g) : BytesOff row' w' a l := by
  intro h0
  obtain ⟨b, o, ha, hb, hne, hc⟩ := h h0
  refine ⟨b, o, ha, Nat.lt_of_lt_of_le hb hg.size, fun e => ?_, fun i hi => (World.cell?_of_block (w := w) (a := ⟨b, o + i, none⟩) (hg.block b hb (Ne.symm hne))).trans (hc i hi)⟩
  rcases hr b e with h1 | h1
  · exact hne h1
  · omega
theorem BytesOff.below {row : Option Nat} {w w' : World} {a : Option Addr} {l : List UInt8} (h : BytesOff row w a l) (hb : Below w.heap.size w w') : BytesOff row w' a l := by
  intro h0
  obtain ⟨b, o, ha, hlt, hne, hc⟩ := h h0
  exact ⟨b, o, ha, Nat.lt_of_lt_of_le hlt hb.size, hne, fun i hi => (hb.cell (p := ⟨b, o + i, none⟩) hlt).trans (hc i hi)⟩
theorem BytesAt.dropm {w : World} {a : Option Addr} {l : List UInt8} (h : BytesAt B w a l) (k : Nat) (hk : k < l.length) : BytesAt B w (a.map (·.add k)) (l.drop k) := by
  intro h0
  obtain ⟨b, o, rfl, _, hc⟩ := h (by omega)
  rw [Option.map_some, add_at]
  exact BytesAt.drop h k h0
theorem World.ownsRow.below1 {w w' : World} {base : Nat} {t : TypeId} {n k : Nat} {v : Value} {xs : List Value} (h : w.ownsRow base t n v k xs) (hb : Below w.heap.size w w') : w'.ownsRow base t n v k xs := by
  refine ⟨h.1, ?_⟩
  rcases h.2 with h1 | ⟨g, cap, cur, hv, hbg, hg, r⟩
  · exact .inl h1
  · exact .inr ⟨g, cap, cur, hv, hbg, (hb.block g (Array.getElem?_eq_some_iff.1 hg).1).trans hg, r⟩

/-- other blocks than these are as they were. -/
structure Kept (bs : List Nat) (w w' : World) : Prop where
  os : w'.os = w.os
  tape : w'.tape = w.tape
  output : w'.output = w.output
  size : w.heap.size ≤ w'.heap.size
  block : ∀ k, k < w.heap.size → k ∉ bs → w'.heap[k]? = w.heap[k]?
theorem Kept.refl (bs : List Nat) (w : World) : Kept bs w w := ⟨rfl, rfl, rfl, Nat.le_refl _, fun _ _ _ => rfl⟩
theorem Kept.of_below {bs : List Nat} {w w' : World} (h : Below w.heap.size w w') : Kept bs w w' := ⟨h.os, h.tape, h.output, h.size, fun k hk _ => h.block k hk⟩
theorem Kept.trans {bs cs : List Nat} {a b c : World} (h : Kept bs a b) (k : Kept cs b c) (hc : ∀ x ∈ cs, x ∈ bs ∨ a.heap.size ≤ x) : Kept bs a c :=
  ⟨k.os.trans h.os, k.tape.trans h.tape, k.output.trans h.output, Nat.le_trans h.size k.size, fun i hi hn => (k.block i (Nat.lt_of_lt_of_le hi h.size) (fun hx => by rcases hc i hx with h1 | h1; exact hn h1; omega)).trans (h.block i hi hn)⟩
theorem Kept.below {bs : List Nat} {B : Nat} {w w' : World} (h : Kept bs w w') (hB : B ≤ w.heap.size) (hb : ∀ b ∈ bs, B ≤ b) : Below B w w' :=
  ⟨h.os, h.tape, h.output, h.size, fun k hk => h.block k (by omega) (fun hx => by have := hb k hx; omega)⟩
theorem Kept.grown {bs : List Nat} {a w w' : World} {row : Option Nat} (h : Kept bs a w) (hg : w.grownBy w' row) (hr : ∀ k, row = some k → k ∈ bs ∨ a.heap.size ≤ k) : Kept bs a w' :=
  ⟨hg.os.trans h.os, hg.tape.trans h.tape, hg.output.trans h.output, Nat.le_trans h.size hg.size, fun k hk hn => (hg.block k (Nat.lt_of_lt_of_le hk h.size) (fun e => by rcases hr k e.symm with h1 | h1; exact hn h1; omega)).trans (h.block k hk hn)⟩
theorem Kept.set {bs : List Nat} {a w : World} (h : Kept bs a w) {g : Nat} (hg : g ∈ bs) (i : Nat) (u : Value) : Kept bs a (w.setCell ⟨g, i, none⟩ u) := h.grown (set_grown w g i u) (fun k e => by cases e; exact .inl hg)
theorem Kept.alloc {bs : List Nat} {a w : World} (h : Kept bs a w) (o : Obj) : Kept bs a (w.alloc o) := h.grown (World.grownBy_alloc w o none) (fun k e => by cases e)
theorem jat_frozen {w : World} {g : Nat} {cs : Array Value} {t : TypeId} (h : w.heap[g]? = some (.cells cs t (0, 0))) (i : Nat) : w.frozen? ⟨g, i, none⟩ = false := by simp [World.frozen?, h]
theorem Buf.stay {w w' : World} {base : Nat} {v : Value} {l : List UInt8} (h : Buf w base v l) (hk : ∀ k, v.ownBlock = some k → w'.heap[k]? = w.heap[k]?) : Buf w' base v l := by
  refine ⟨h.1, ?_⟩
  rcases h.2 with h1 | ⟨g, cap, cur, rfl, hbg, hg, r⟩
  · exact .inl h1
  · exact .inr ⟨g, cap, cur, rfl, hbg, (hk g rfl).trans hg, r⟩
theorem Buf.lt {w : World} {base : Nat} {v : Value} {l : List UInt8} (h : Buf w base v l) (k : Nat) (e : v.ownBlock = some k) : k < w.heap.size := (World.ownsRow.lt h k e).2
theorem Kept.drew {bs : List Nat} {a w : World} (h : Kept bs a w) : Kept bs a w.drew := ⟨h.os, h.tape, h.output, h.size, h.block⟩

end Go.Proofs.Ytifgkmaaglaffaa
