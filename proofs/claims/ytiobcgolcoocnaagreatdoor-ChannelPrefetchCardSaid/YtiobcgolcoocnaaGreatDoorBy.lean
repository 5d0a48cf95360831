/-
  Bytes in memory: what a call puts one behind the other, what it reads; numbers as bytes. No function of the program is named here.
-/
import Derived.Test.YtiobcgolcoocnaaGreatDoorRow
import Derived.Lib.Hide
import Derived.Lib.Bytealg
import Derived.Lib.AppendStr
import Derived.Deep.AppendLies
import Derived.Deep.OwnRows
import Derived.Deep.Draws
import Derived.Laws.OwnMore
import Derived.Laws.BytesString
import Derived.Laws.MakeOwn
import Derived.Laws.Externs
import Derived.Laws.Bits64b
import Derived.OwnWalk
import Derived.IntWalk
namespace Go.Proofs.YtiobcgolcoocnaaGreatDoor
open Go.RowKit
set_option linter.unusedVariables false

theorem lt_of_cell {w : World} {b o : Nat} {v : Value} (h : w.cell? ⟨b, o, none⟩ = some v) : b < w.heap.size := World.block_lt_of_cell? w (⟨b, o, none⟩ : Addr) h

theorem beq_str {a b : ByteArray} (h : a = b) : (a.toList == b.toList) = true := by subst h; simp

theorem bne_str {a b : ByteArray} (h : ¬ a = b) : (a.toList == b.toList) = false := by
  rw [beq_eq_false_iff_ne]
  intro e
  rw [ByteArray.toList_eq, ByteArray.toList_eq] at e
  obtain ⟨⟨x⟩⟩ := a
  obtain ⟨⟨y⟩⟩ := b
  exact h (by rw [show x = y from e])

theorem empty_str {a : ByteArray} (h : a.size = 0) : a.toList = [] ∧ a.toList.isEmpty = true := by
  rw [ByteArray.toList_eq]
  obtain ⟨⟨x⟩⟩ := a
  obtain rfl : x = [] := List.eq_nil_of_length_eq_zero h
  exact ⟨rfl, rfl⟩

theorem full_str {a : ByteArray} (h : ¬ a.size = 0) : ¬ a.toList = [] ∧ a.toList.isEmpty = false := by
  rw [ByteArray.toList_eq]
  obtain ⟨⟨x⟩⟩ := a
  cases x with
  | nil => exact absurd rfl h
  | cons c r => exact ⟨by simp, rfl⟩

def SaysW (p : Prop) (w : World) (e : Ending) (w' : World) : Prop := ∃ r : Bool, (r = true ↔ p) ∧ e = .returned (.bool r) ∧ w = w'

def SaysB (p : Prop) (w : World) (e : Ending) (w' : World) : Prop := ∃ r : Bool, (r = true ↔ p) ∧ e = .returned (.bool r) ∧ Below w.heap.size w w'

def be : Nat → Nat → List UInt8
  | 0, _ => []
  | k + 1, n => UInt8.ofNat (n / 256 ^ k % 256) :: be k n

@[simp] theorem be_length : ∀ (k n : Nat), (be k n).length = k
  | 0, _ => rfl
  | k + 1, n => by simp [be, be_length k n]

def de (l : List UInt8) : Nat := l.foldl (fun n c => n * 256 + c.toNat) 0

theorem foldl_de (l : List UInt8) (a : Nat) : l.foldl (fun n c => n * 256 + c.toNat) a = a * 256 ^ l.length + de l := by
  unfold de
  induction l generalizing a with
  | nil => simp
  | cons c r ih =>
    simp only [List.foldl_cons, List.length_cons]
    rw [ih, ih (0 * 256 + c.toNat)]
    rw [Nat.pow_succ, Nat.add_mul, Nat.add_mul]
    simp only [Nat.zero_mul, Nat.zero_add]
    rw [Nat.mul_assoc, Nat.mul_comm 256 (256 ^ r.length)]
    omega

theorem de_cons (c : UInt8) (r : List UInt8) : de (c :: r) = c.toNat * 256 ^ r.length + de r := by
  show (c :: r).foldl (fun n c => n * 256 + c.toNat) 0 = _
  rw [List.foldl_cons, foldl_de]
  simp

theorem de_snoc (l : List UInt8) (c : UInt8) : de (l ++ [c]) = de l * 256 + c.toNat := by unfold de; simp

theorem de_lt : ∀ l : List UInt8, de l < 256 ^ l.length
  | [] => by simp [de]
  | c :: r => by
    rw [de_cons, List.length_cons, Nat.pow_succ]
    have h1 := de_lt r
    have h2 : c.toNat < 256 := c.toNat_lt
    have : (c.toNat + 1) * 256 ^ r.length ≤ 256 * 256 ^ r.length := Nat.mul_le_mul_right _ (by omega)
    rw [Nat.add_mul] at this
    rw [Nat.mul_comm (256 ^ r.length) 256]
    omega

theorem de_be : ∀ (k n : Nat), de (be k n) = n % 256 ^ k
  | 0, n => by simp [be, de, Nat.mod_one]
  | k + 1, n => by
    rw [be, de_cons, be_length, de_be k n]
    have hm : (UInt8.ofNat (n / 256 ^ k % 256)).toNat = n / 256 ^ k % 256 := by
      rw [UInt8.toNat_ofNat']; exact Nat.mod_eq_of_lt (by omega)
    rw [hm, Nat.pow_succ, Nat.mod_mul, Nat.mul_comm]
    omega

theorem be_mod : ∀ (k a b : Nat), a % 256 ^ k = b % 256 ^ k → be k a = be k b
  | 0, _, _, _ => rfl
  | k + 1, a, b, h => by
    rw [be, be]
    have hk : ∀ x : Nat, x / 256 ^ k % 256 = x % 256 ^ (k + 1) / 256 ^ k := fun x => by
      rw [Nat.pow_succ, Nat.mod_mul_right_div_self]
    rw [hk a, hk b, h]
    congr 1
    refine be_mod k a b ?_
    have hm : ∀ x : Nat, x % 256 ^ k = x % 256 ^ (k + 1) % 256 ^ k := fun x => by
      rw [Nat.pow_succ, Nat.mod_mul_right_mod]
    rw [hm a, hm b, h]

theorem be_de : ∀ l : List UInt8, be l.length (de l) = l
  | [] => rfl
  | c :: r => by
    have hl := de_lt r
    have hp : 0 < 256 ^ r.length := Nat.pow_pos (by decide)
    rw [List.length_cons, be, de_cons]
    have h1 : (c.toNat * 256 ^ r.length + de r) / 256 ^ r.length = c.toNat := by
      rw [Nat.mul_comm, Nat.mul_add_div hp, Nat.div_eq_of_lt hl]; omega
    have h2 : be r.length (c.toNat * 256 ^ r.length + de r) = be r.length (de r) := be_mod _ _ _ (by rw [Nat.mul_comm, Nat.mul_add_mod])
    rw [h1, h2, be_de r]
    congr 1
    rw [Nat.mod_eq_of_lt c.toNat_lt]
    exact UInt8.ofNat_toNat

theorem be_one (n : Nat) : be 1 n = [UInt8.ofNat n] := by
  simp only [be, Nat.pow_zero, Nat.div_one]
  congr 1
  apply UInt8.toNat_inj.1
  simp [UInt8.toNat_ofNat']

def cellsOf (l : List UInt8) : List Value := l.map fun c => .int .u8 c.toNat

@[simp] theorem cellsOf_length (l : List UInt8) : (cellsOf l).length = l.length := by simp [cellsOf]

theorem cellsOf_append (l m : List UInt8) : cellsOf (l ++ m) = cellsOf l ++ cellsOf m := by simp [cellsOf]

theorem cellsOf_one (l : List UInt8) : ∀ u ∈ cellsOf l, u.oneCell' = true := by
  intro u hu
  simp only [cellsOf, List.mem_map] at hu
  obtain ⟨c, _, rfl⟩ := hu
  rfl

def Buf (w : World) (base : Nat) (v : Value) (l : List UInt8) : Prop := w.ownsRow base 5 1 v l.length (cellsOf l)

theorem Buf.nil (w : World) (base : Nat) : Buf w base (.slice none 0 0) [] := World.ownsRow_nil w base _ _

theorem u8_info : (Tryz.prog.info? 5).map (fun i => (i.zero, i.size, i.bytes)) = some (some (.int .u8 0), 1, 1) := by kernel_rfl

theorem GrownBy.trans {a b c : World} {row : Option Nat} (h : a.grownBy b row) (k : b.grownBy c row) : a.grownBy c row :=
  ⟨k.os.trans h.os, k.tape.trans h.tape, k.output.trans h.output, Nat.le_trans h.size k.size, fun i hi hne => (k.block i (Nat.lt_of_lt_of_le hi h.size) hne).trans (h.block i hi hne)⟩

theorem GrownBy.refl (a : World) (row : Option Nat) : a.grownBy a row := ⟨rfl, rfl, rfl, Nat.le_refl _, fun _ _ _ => rfl⟩

theorem GrownBy.any {a b : World} (h : a.grownBy b none) (row : Option Nat) : a.grownBy b row := ⟨h.os, h.tape, h.output, h.size, fun k hk _ => h.block k hk (by simp)⟩

/-- from v in w to v' in w': v's own block and new ones alone have turned, and v' lies there. -/
structure Onto (w : World) (v : Value) (w' : World) (v' : Value) : Prop where
  grew : w.grownBy w' v.ownBlock
  own : v'.ownBlock = v.ownBlock ∨ ∃ g, v'.ownBlock = some g ∧ w.heap.size ≤ g

theorem Onto.refl (w : World) (v : Value) : Onto w v w v := ⟨GrownBy.refl _ _, .inl rfl⟩

theorem Onto.trans {w1 w2 w3 : World} {v1 v2 v3 : Value} (h : Onto w1 v1 w2 v2) (k : Onto w2 v2 w3 v3) : Onto w1 v1 w3 v3 := by
  refine ⟨⟨k.grew.os.trans h.grew.os, k.grew.tape.trans h.grew.tape, k.grew.output.trans h.grew.output, Nat.le_trans h.grew.size k.grew.size, fun i hi hne => ?_⟩, ?_⟩
  · refine (k.grew.block i (Nat.lt_of_lt_of_le hi h.grew.size) (fun e => ?_)).trans (h.grew.block i hi hne)
    rcases h.own with h1 | ⟨g, h1, h2⟩
    · exact hne (e.trans h1)
    · rw [h1] at e; cases e; omega
  · rcases k.own with k1 | ⟨g, k1, k2⟩
    · rcases h.own with h1 | ⟨g, h1, h2⟩
      · exact .inl (k1.trans h1)
      · exact .inr ⟨g, k1.trans h1, h2⟩
    · exact .inr ⟨g, k1, Nat.le_trans h.grew.size k2⟩

theorem Onto.below {w w' : World} {v v' : Value} {base : Nat} {l : List UInt8} (h : Onto w v w' v') (hb : Buf w base v l) (hbase : base ≤ w.heap.size) : Below base w w' :=
  (Below.refl _ _).grown h.grew hbase (fun k hk => (World.ownsRow.lt hb k hk).1)

theorem Onto.alloc {w w' : World} {v v' : Value} {o : Obj} (h : Onto (w.alloc o) v w' v') : Onto w v w' v' := by
  refine ⟨⟨h.grew.os, h.grew.tape, h.grew.output, Nat.le_trans (by simp) h.grew.size, fun i hi hne => ?_⟩, ?_⟩
  · exact (h.grew.block i (by simp; omega) hne).trans (Below.heap_alloc w o i hi)
  · rcases h.own with h1 | ⟨g, h1, h2⟩
    · exact .inl h1
    · exact .inr ⟨g, h1, by simp at h2; omega⟩

theorem Onto.block {w w' : World} {v v' : Value} (h : Onto w v w' v') {k : Nat} (hk : k < w.heap.size) (hne : v.ownBlock ≠ some k) : w'.heap[k]? = w.heap[k]? := h.grew.block k hk (Ne.symm hne)

theorem put_one {ops : Array Oper} {rest : List Oper} {o : Oper} {a : Act} {Q : Exit → Act → World → Prop} {w : World} {base : Nat} {v : Value} {l : List UInt8} {z : Int} (hgd : o.guard = none) (s x : Operand)
    (ho : o.op = .call { callee := .builtin .append, args := #[s, x], argTypes := #[148, 148] }) (hb : Buf w base v l) (hbase : base ≤ w.heap.size) (hl : l.length ≤ 1000000) (c : UInt8) (hz : z = c.toNat)
    (hs : a.eval s = v) (H : Nat) (hH : w.heap.size = H) (hx : a.eval x = .slice (some ⟨H, 0, none⟩) 1 1)
    (h : ∀ v' w', Buf w' base v' (l ++ [c]) → Onto w v w' v' → wpList Tryz.prog ops Q rest (a.put o.dst v') w') :
    wpList Tryz.prog ops Q (o :: rest) a (w.alloc (.cells #[.int .u8 z] 5)) := by
  subst hz
  subst hH
  obtain ⟨i0, hi, hz0, hz1, hz2⟩ := info_parts u8_info
  have hb' := World.ownsRow.alloc hb (.cells #[.int .u8 c.toNat] 5)
  refine wpList_append_lies _ hgd s x 148 ho base 5 i0 _ 1 1 Tryz.underlying148 hi hz0 hz1 hz2 rfl (by decide) v l.length (cellsOf l) hs hb' ⟨w.heap.size, 0, none⟩ 1 1 (cellsOf [c]) hx (by simp) (cell_one_new _ _ _) (cellsOf_one _) (by decide) (by unfold maxLen; omega) (by omega) (by simp; omega) _ rfl ?_
  intro g cap w' hown hg hat hlt
  refine h _ w' ?_ (Onto.alloc (o := .cells #[.int .u8 c.toNat] 5) ⟨hg, ?_⟩)
  · unfold Buf
    rw [cellsOf_append, List.length_append]
    exact hown
  · rcases hat with h1 | h1
    · exact .inl h1.symm
    · exact .inr ⟨g, rfl, by omega⟩

theorem be_step {size s n : Nat} (h0 : 0 < s) (hs : s ≤ size) : (be size n).take (size - (s - 1)) = (be size n).take (size - s) ++ [UInt8.ofNat (n / 2 ^ (8 * (s - 1)) % 256)] := by
  have hg : ∀ (k m : Nat) (h : m < k), (be k n)[m]'(by simp; exact h) = UInt8.ofNat (n / 256 ^ (k - 1 - m) % 256) := by
    intro k
    induction k with
    | zero => intro m h; omega
    | succ k ih =>
      intro m h
      cases m with
      | zero => simp [be]
      | succ m =>
        simp only [be, List.getElem_cons_succ]
        rw [ih m (by omega), show k + 1 - 1 - (m + 1) = k - 1 - m by omega]
  rw [show size - (s - 1) = (size - s) + 1 by omega, List.take_succ_eq_append_getElem (by simp; omega), hg size (size - s) (by omega)]
  rw [show size - 1 - (size - s) = s - 1 by omega, show (256 : Nat) = 2 ^ 8 from rfl, ← Nat.pow_mul]

variable {B : Nat}
/-- a slice of these bytes, in a block below B. -/
def BytesAt (B : Nat) (w : World) (a : Option Addr) (l : List UInt8) : Prop := 0 < l.length → ∃ b o, a = some ⟨b, o, none⟩ ∧ b < B ∧ ∀ (i : Nat) (h : i < l.length), w.cell? ⟨b, o + i, none⟩ = some (.int .u8 l[i].toNat)
def BytesIn (B : Nat) (w : World) (v : Value) (l : List UInt8) : Prop := ∃ a cap, v = .slice a l.length cap ∧ l.length ≤ cap ∧ cap ≤ maxLen ∧ BytesAt B w a l
theorem BytesAt.keep {w w' : World} {a : Option Addr} {l : List UInt8} (h : BytesAt B w a l) (hk : ∀ b, a.map (·.block) = some b → w'.heap[b]? = w.heap[b]?) : BytesAt B w' a l := by
  intro h0
  obtain ⟨b, o, rfl, hbB, hc⟩ := h h0
  exact ⟨b, o, rfl, hbB, fun i hi => (World.cell?_of_block (w := w) (a := ⟨b, o + i, none⟩) (hk b rfl)).trans (hc i hi)⟩
theorem BytesAt.below {w w' : World} {a : Option Addr} {l : List UInt8} (h : BytesAt B w a l) (hb : Below w.heap.size w w') : BytesAt B w' a l := by
  intro h0
  obtain ⟨b, o, rfl, hbB, hc⟩ := h h0
  exact ⟨b, o, rfl, hbB, fun i hi => (hb.cell (p := ⟨b, o + i, none⟩) (lt_of_cell (hc i hi))).trans (hc i hi)⟩
theorem BytesIn.below {w w' : World} {v : Value} {l : List UInt8} (h : BytesIn B w v l) (hb : Below w.heap.size w w') : BytesIn B w' v l := by
  obtain ⟨a, cap, hv, h1, h2, h3⟩ := h
  exact ⟨a, cap, hv, h1, h2, h3.below hb⟩
theorem BytesIn.nil (w : World) : BytesIn B w (.slice none 0 0) [] := ⟨none, 0, rfl, by simp, by simp [maxLen], fun h => by simp at h⟩
/-- another block than the bytes' was written. -/
theorem BytesAt.other {w w' : World} {a : Option Addr} {l : List UInt8} {g : Nat} {cs : Array Value} {t : TypeId} {fr : Nat × Nat} (h : BytesAt B w a l) (hg : w.heap[g]? = some (.cells cs t fr)) (hne : ∀ (i : Nat) (n : Int), cs[i]? ≠ some (.int .u8 n))
    (hb : w.grownBy w' (some g)) : BytesAt B w' a l := by
  intro h0
  obtain ⟨b, o, rfl, hbB, hc⟩ := h h0
  refine ⟨b, o, rfl, hbB, fun i hi => ?_⟩
  have hlt := lt_of_cell (hc i hi)
  have hbg : b ≠ g := by
    rintro rfl
    have := hc i hi
    rw [cell_of_row w _ _ _ _ _ hg] at this
    exact hne _ _ this
  exact (World.cell?_of_block (w := w) (a := ⟨b, o + i, none⟩) (hb.block b hlt (fun e => hbg (by cases e; rfl)))).trans (hc i hi)
theorem BytesAt.take {w : World} {a : Option Addr} {l : List UInt8} (h : BytesAt B w a l) (k : Nat) : BytesAt B w a (l.take k) := by
  intro h0
  simp only [List.length_take] at h0
  obtain ⟨b, o, rfl, hbB, hc⟩ := h (by omega)
  exact ⟨b, o, rfl, hbB, fun i hi => by simp only [List.length_take] at hi; rw [List.getElem_take]; exact hc i (by omega)⟩
theorem BytesAt.drop {w : World} {b o : Nat} {l : List UInt8} (h : BytesAt B w (some ⟨b, o, none⟩) l) (k : Nat) : BytesAt B w (some ⟨b, o + k, none⟩) (l.drop k) := by
  intro h0
  simp only [List.length_drop] at h0
  obtain ⟨b', o', he, hbB, hc⟩ := h (by omega)
  cases he
  exact ⟨b, o + k, rfl, hbB, fun i hi => by simp only [List.length_drop] at hi; rw [List.getElem_drop, Nat.add_assoc]; exact hc (k + i) (by omega)⟩
theorem Buf.bytes {w : World} {base : Nat} {v : Value} {l : List UInt8} (h : Buf w base v l) : BytesIn w.heap.size w v l := by
  rcases h.2 with ⟨rfl, hn⟩ | ⟨g, cap, cur, rfl, hbg, hg, hnc, hcm, hcs, htake⟩
  · obtain rfl : l = [] := List.eq_nil_of_length_eq_zero hn
    exact BytesIn.nil w
  · refine ⟨_, cap, rfl, hnc, hcm, fun _ => ⟨g, 0, rfl, (Array.getElem?_eq_some_iff.1 hg).1, fun i hi => ?_⟩⟩
    rw [Nat.zero_add, cell_of_row w _ _ _ _ _ hg]
    have : cur.toList[i]? = (cellsOf l)[i]? := by rw [← htake, List.getElem?_take, if_pos (by omega)]
    rw [← Array.getElem?_toList, this]
    simp [cellsOf, List.getElem?_eq_getElem hi]

theorem set_heap {w : World} {g : Nat} {cs : Array Value} {t : TypeId} {fr : Nat × Nat} (h : w.heap[g]? = some (.cells cs t fr)) (i : Nat) (u : Value) : (w.setCell ⟨g, i, none⟩ u).heap[g]? = some (.cells (cs.setIfInBounds i u) t fr) := by
  simp [World.setCell, Array.getElem?_modify, h]

theorem set_grown (w : World) (g i : Nat) (u : Value) : w.grownBy (w.setCell ⟨g, i, none⟩ u) (some g) :=
  ⟨rfl, rfl, rfl, by simp [World.setCell], fun k _ hk => Below.heap_setCell w ⟨g, i, none⟩ u k (fun e => hk (by rw [e]))⟩

theorem push_all (l : List UInt8) : ∀ s : ByteArray, (l.map fun c => (c.toNat : Int)).foldl (fun r n => r.push (UInt8.ofNat n.toNat)) s = ⟨(s.data.toList ++ l).toArray⟩ := by
  induction l with
  | nil => intro s; obtain ⟨⟨x⟩⟩ := s; simp
  | cons c r ih =>
    intro s
    rw [List.map_cons, List.foldl_cons, ih]
    obtain ⟨⟨x⟩⟩ := s
    simp [ByteArray.push]

theorem conv_str {w : World} {a : Option Addr} {l : List UInt8} (c : Nat) (h : BytesAt B w a l) : (convert 148 9 (.slice a l.length c)).run Tryz.prog w = .ok (.string ⟨l.toArray⟩) w := by
  rw [run_convert_bytes_string w _ _ _ a l.length c Tryz.underlying148 Tryz.underlying5 Tryz.underlying9]
  cases l with
  | nil =>
    cases a with
    | none => rfl
    | some a => simp [Conv.bytesToString, loadCells, loadCellsFrom]; rfl
  | cons x r =>
    obtain ⟨b, o, rfl, _, hc⟩ := h (by simp)
    have hl : (loadCells ⟨b, o, none⟩ (x :: r).length).run Tryz.prog w = .ok (((x :: r).map fun c => (c.toNat : Int)).map (Value.int .u8)).toArray w := by
      have := run_loadCells_list (P := Tryz.prog) w ⟨b, o, none⟩ (((x :: r).map fun c => (c.toNat : Int)).map (Value.int .u8)) (fun j v hv => by
        have hj : j < (x :: r).length := by
          have := (List.getElem?_eq_some_iff.1 hv).1
          simpa using this
        rw [add_at, hc j hj, ← hv]
        simp only [List.getElem?_map, List.getElem?_eq_getElem hj, Option.map_some])
      simpa only [List.length_map] using this
    rw [run_bytesToString w _ _ _ _ hl, push_all]
    rfl

theorem alloc_get (w : World) (o : Obj) {b : Nat} (h : b ≠ w.heap.size) : (w.alloc o).heap[b]? = w.heap[b]? := by
  show (w.heap.push o)[b]? = _
  rw [Array.getElem?_push, if_neg (by omega)]

theorem alloc_later {w w2 : World} {row : Option Nat} (h : w.grownBy w2 row) (o : Obj) : w.grownBy (w2.alloc o) row :=
  ⟨h.os, h.tape, h.output, Nat.le_trans h.size (by simp), fun k hk hne => (Below.heap_alloc w2 o k (Nat.lt_of_lt_of_le hk h.size)).trans (h.block k hk hne)⟩

theorem alloc_before {w w1 : World} {row : Option Nat} {o : Obj} (h : (w.alloc o).grownBy w1 row) : w.grownBy w1 row :=
  ⟨h.os, h.tape, h.output, Nat.le_trans (by simp) h.size, fun k hk hne => (h.block k (by simp; omega) hne).trans (Below.heap_alloc w o k hk)⟩

/-- block g holds these bytes at its beginning. -/
structure Bytes1 (w : World) (g cap : Nat) (l : List UInt8) : Prop where
  len : l.length ≤ cap
  max : cap ≤ maxLen
  row : ∃ f, w.rowIs g 5 cap f ∧ ∀ (i : Nat) (h : i < l.length), f i = .int .u8 l[i].toNat

theorem Bytes1.keep {w w' : World} {g cap : Nat} {l : List UInt8} (h : Bytes1 w g cap l) (hb : w'.heap[g]? = w.heap[g]?) : Bytes1 w' g cap l := by
  obtain ⟨h1, h2, f, hr, hf⟩ := h
  exact ⟨h1, h2, f, hr.of_block hb, hf⟩
theorem Bytes1.lt {w : World} {g cap : Nat} {l : List UInt8} (h : Bytes1 w g cap l) : g < w.heap.size := by
  obtain ⟨_, _, f, hr, _⟩ := h
  exact hr.lt
theorem Bytes1.below {w w' : World} {g cap : Nat} {l : List UInt8} (h : Bytes1 w g cap l) (hb : Below w.heap.size w w') : Bytes1 w' g cap l := h.keep (hb.block g h.lt)
theorem Bytes1.cell {w : World} {g cap : Nat} {l : List UInt8} (h : Bytes1 w g cap l) {i : Nat} (hi : i < l.length) : w.cell? ⟨g, i, none⟩ = some (.int .u8 l[i].toNat) := by
  obtain ⟨h1, h2, f, hr, hf⟩ := h
  rw [hr.cell (by omega), hf i hi]
theorem Bytes1.frozen {w : World} {g cap : Nat} {l : List UInt8} (h : Bytes1 w g cap l) (i : Nat) : w.frozen? ⟨g, i, none⟩ = false := by
  obtain ⟨h1, h2, f, hr, hf⟩ := h
  exact hr.frozen i
theorem Bytes1.at {w : World} {g cap : Nat} {l : List UInt8} (h : Bytes1 w g cap l) : BytesAt w.heap.size w (some ⟨g, 0, none⟩) l :=
  fun _ => ⟨g, 0, rfl, h.lt, fun i hi => by rw [Nat.zero_add]; exact h.cell hi⟩
theorem Bytes1.in {w : World} {g cap : Nat} {l : List UInt8} (h : Bytes1 w g cap l) : BytesIn w.heap.size w (.slice (some ⟨g, 0, none⟩) l.length cap) l :=
  ⟨_, cap, rfl, h.len, h.max, h.at⟩
theorem Bytes1.set {w : World} {g cap : Nat} {l : List UInt8} (h : Bytes1 w g cap l) (k : Nat) (c : UInt8) : Bytes1 (w.setCell ⟨g, k, none⟩ (.int .u8 c.toNat)) g cap (l.set k c) := by
  obtain ⟨h1, h2, f, hr, hf⟩ := h
  refine ⟨by simpa using h1, h2, _, hr.set k _, fun i hi => ?_⟩
  have hi' : i < l.length := by simpa using hi
  rw [List.getElem_set]
  by_cases e : i = k
  · subst e; simp
  · rw [if_neg e, if_neg (fun h => e h.symm)]
    exact hf i hi'
theorem Buf.bytes1 {w : World} {base : Nat} {v : Value} {l : List UInt8} (h : Buf w base v l) (h0 : 0 < l.length) : ∃ g cap, v = .slice (some ⟨g, 0, none⟩) l.length cap ∧ base ≤ g ∧ Bytes1 w g cap l := by
  rcases h.2 with ⟨rfl, hn⟩ | ⟨g, cap, cur, rfl, hbg, hg, hnc, hcm, hcs, htake⟩
  · omega
  · have hcs' : cur.size = cap := by simpa using hcs
    refine ⟨g, cap, rfl, hbg, hnc, hcm, fun j => cur[j]?.getD undef, ⟨cur, hg, hcs', fun j hj => ?_⟩, fun i hi => ?_⟩
    · simp [Array.getElem?_eq_getElem (show j < cur.size by omega)]
    · have : cur.toList[i]? = (cellsOf l)[i]? := by rw [← htake, List.getElem?_take, if_pos (by omega)]
      show cur[i]?.getD undef = _
      rw [← Array.getElem?_toList, this]
      simp [cellsOf, List.getElem?_eq_getElem hi]

theorem put_dup {ops : Array Oper} {rest : List Oper} {o : Oper} {a : Act} {Q : Exit → Act → World → Prop} {w : World} {g capl H n : Nat} {l : List UInt8} (hgd : o.guard = none) (s x : Operand)
    (ho : o.op = .call { callee := .builtin .append, args := #[s, x], argTypes := #[148, 148] }) (hz : 0 < l.length) (hl : l.length ≤ 100000) (hb : Bytes1 w g capl l)
    (hH : w.heap.size = H) (hs : a.eval s = .slice (some ⟨H, 0, none⟩) 0 0) (hn : n = l.length) (hx : a.eval x = .slice (some ⟨g, 0, none⟩) n capl)
    (h : ∀ g2 cap2 w', w.heap.size ≤ g2 → Buf w' w.heap.size (.slice (some ⟨g2, 0, none⟩) n cap2) l → Below w.heap.size w w' →
      wpList Tryz.prog ops Q rest (a.put o.dst (.slice (some ⟨g2, 0, none⟩) n cap2)) w') :
    wpList Tryz.prog ops Q (o :: rest) a (w.alloc (.cells #[] 5)) := by
  subst hH
  subst hn
  obtain ⟨i0, hi, hz0, hz1, hz2⟩ := info_parts u8_info
  have hb' : (w.alloc (.cells #[] 5)).ownsRow w.heap.size 5 1 (.slice (some ⟨w.heap.size, 0, none⟩) 0 0) 0 [] := World.ownsRow_lit w #[] 0 (Nat.le_refl _) (by decide) (by simp)
  have hbel : Below w.heap.size w (w.alloc (.cells #[] 5)) := (Below.refl _ _).alloc (Nat.le_refl _) _
  have hlc : (cellsOf l).length = l.length := by simp [cellsOf]
  refine wpList_append_lies _ hgd s x 148 ho w.heap.size 5 i0 _ 1 1 Tryz.underlying148 hi hz0 hz1 hz2 rfl (by decide) _ 0 [] hs hb' ⟨g, 0, none⟩ l.length capl (cellsOf l) hx (by rw [hlc]; omega) (fun j u hu => ?_) (cellsOf_one l) hz (by unfold maxLen; omega) (by omega) (by simp) _ rfl ?_
  · have hj : j < l.length := by have := (List.getElem?_eq_some_iff.1 hu).1; omega
    rw [add_at, Nat.zero_add, (hb.below hbel).cell hj, ← hu]
    simp [cellsOf, List.getElem?_eq_getElem hj]
  · intro g2 cap2 w' hown hg hat hlt
    rw [Nat.zero_add, List.nil_append] at hown
    rw [Nat.zero_add]
    refine h g2 cap2 w' ?_ hown (hbel.grown hg (by simp) (fun k e => by
      have : w.heap.size = k := by simpa [Value.ownBlock] using e
      omega))
    rcases hat with h1 | h1
    · have : w.heap.size = g2 := by simpa [Value.ownBlock] using h1
      omega
    · simp at h1; omega

theorem buf_row {w : World} {base g n cap : Nat} {l : List UInt8} (h : Buf w base (.slice (some ⟨g, 0, none⟩) n cap) l) (h0 : 0 < l.length) : Bytes1 w g cap l := by
  obtain ⟨g', cap', e, _, hb⟩ := h.bytes1 h0
  obtain ⟨eg, -, rfl⟩ := Value.slice.inj e
  obtain rfl : g = g' := by simpa using eg
  exact hb

theorem Bytes1.cut {w : World} {g cap k : Nat} {l : List UInt8} (h : Bytes1 w g cap l) (hk : k ≤ l.length) : BytesIn w.heap.size w (.slice (some ⟨g, 0, none⟩) k cap) (l.take k) :=
  ⟨_, cap, by rw [List.length_take, Nat.min_eq_left hk], by have := h.len; simp; omega, h.max, h.at.take k⟩

theorem byte_of {n : Int} (h : 0 ≤ n ∧ n < 256) : ∃ c : UInt8, n = (c.toNat : Int) := by
  refine ⟨UInt8.ofNat n.toNat, ?_⟩
  rw [UInt8.toNat_ofNat', Nat.mod_eq_of_lt (by omega)]
  omega

theorem Buf.form {w : World} {base : Nat} {v : Value} {l : List UInt8} (h : Buf w base v l) : ∃ a c, v = .slice a l.length c ∧ l.length ≤ c ∧ c ≤ maxLen := by
  rcases h.2 with ⟨rfl, hn⟩ | ⟨g, cap, cur, rfl, hbg, hg, hnc, hcm, hcs, htake⟩
  · exact ⟨none, 0, by rw [hn], by omega, by unfold maxLen; omega⟩
  · exact ⟨_, cap, rfl, hnc, hcm⟩

theorem make_bytes (n : Nat) (hn : n ≤ 1000) (w : World) : (Instr.makeSlice 148 (.int .i64 n) (.int .i64 n)).run Tryz.prog w = .ok (.slice (some ⟨w.heap.size, 0, none⟩) n n) (w.alloc (.cells (madeCells #[.int .u8 0] n) 5)) := by
  obtain ⟨i0, hi, hz0, hz1, hz2⟩ := info_parts u8_info
  have h := run_make (P := Tryz.prog) w 148 5 i0 _ Tryz.underlying148 hi hz0 .i64 .i64 n n (by omega) (by omega) (by rw [hz2]; omega) (by omega)
  rw [hz1] at h
  simpa [Value.cells] using h

theorem alloc_keep {w : World} {g : Nat} {x o : Obj} (h : w.heap[g]? = some x) : (w.alloc o).heap[g]? = some x := by
  rw [alloc_get w o (by have := (Array.getElem?_eq_some_iff.1 h).1; omega)]; exact h

/-- bytes of any slice behind those of the call's own. -/
theorem run_bytes {w : World} {base B : Nat} {v : Value} {l m : List UInt8} (ty : TypeId) (hb : Buf w base v l) (hbase : base ≤ w.heap.size) (a : Option Addr) (c : Nat) (hm : BytesAt B w a m) (hl : l.length + m.length ≤ 1000000) :
    ∃ v' w', (Builtin.append_ #[148, 148] ty #[v, .slice a m.length c]).run Tryz.prog w = .ok v' w' ∧ Buf w' base v' (l ++ m) ∧ Onto w v w' v' := by
  obtain ⟨i0, hi, hz0, hz1, hz2⟩ := info_parts u8_info
  cases m with
  | nil =>
    refine ⟨v, w, ?_, by simpa using hb, Onto.refl w v⟩
    rcases hb.2 with ⟨rfl, hn⟩ | ⟨g, cap, cur, rfl, _, _, hnc, _⟩
    · cases a <;> simp [Builtin.append_, run_underlying Tryz.underlying148, sizeOf, typeInfo, hi, Builtin.lenOf, Builtin.firstCells, loadCells, loadCellsFrom]
    · cases a <;> simp [Builtin.append_, run_underlying Tryz.underlying148, sizeOf, typeInfo, hi, Builtin.lenOf, Builtin.firstCells, loadCells, loadCellsFrom, hnc, storeCells]
  | cons x r =>
    obtain ⟨b, o, rfl, _, hc⟩ := hm (by simp)
    have hlc : (cellsOf (x :: r)).length = (x :: r).length := cellsOf_length _
    obtain ⟨v', w', hr, h2, h3, _, h5⟩ := run_append_own_at (P := Tryz.prog) w base 148 ty 5 i0 _ 1 1 Tryz.underlying148 hi hz0 hz1 hz2 rfl (by decide) v l.length (cellsOf l) hb ⟨b, o, none⟩ (x :: r).length c (cellsOf (x :: r)) (by rw [hlc, Nat.mul_one])
      (fun j u hu => by
        have hj : j < (x :: r).length := by have := (List.getElem?_eq_some_iff.1 hu).1; omega
        rw [add_at, hc j hj, ← hu]
        show _ = ((x :: r).map fun c : UInt8 => Value.int .u8 c.toNat)[j]?
        rw [List.getElem?_map, List.getElem?_eq_getElem hj]
        rfl)
      (cellsOf_one _) (by unfold maxLen; omega) (by omega) hbase
    refine ⟨v', w', hr, ?_, ⟨h3, ?_⟩⟩
    · unfold Buf
      rw [List.length_append, cellsOf_append]
      exact h2
    · rcases h5 with h5 | h5
      · exact .inl h5
      · exact .inr ⟨_, h5, Nat.le_refl _⟩
theorem put_bytes {ops : Array Oper} {rest : List Oper} {o : Oper} {a : Act} {Q : Exit → Act → World → Prop} {w : World} {base B n c : Nat} {v : Value} {l m : List UInt8} {ad : Option Addr} (hgd : o.guard = none) (s x : Operand)
    (ho : o.op = .call { callee := .builtin .append, args := #[s, x], argTypes := #[148, 148] }) (hb : Buf w base v l) (hbase : base ≤ w.heap.size) (hm : BytesAt B w ad m) (hl : l.length + m.length ≤ 1000000) (hn : n = m.length)
    (hs : a.eval s = v) (hx : a.eval x = .slice ad n c)
    (h : ∀ v' w', Buf w' base v' (l ++ m) → Onto w v w' v' → wpList Tryz.prog ops Q rest (a.put o.dst v') w') : wpList Tryz.prog ops Q (o :: rest) a w := by
  subst hn
  refine wpList_plain hgd fun K hK => ?_
  obtain ⟨v', w', hr, h1, h2⟩ := run_bytes o.type hb hbase ad c hm hl
  unfold Oper.wp execOp
  simp only [ho, resolve, invoke, builtin, Sem.run_bind, Sem.run_pure, Result.andThen_ok, List.map_toArray, List.map_cons, List.map_nil, hs, hx, hr]
  exact hK _ _ (h v' w' h1 h2)

/-- bytes that came in. -/
theorem bytes_of_row {w : World} {a : Option Addr} {len cap : Nat} {z : List Int} (h : IsRow .u8 w a len cap z) : ∃ l : List UInt8, l.length = len ∧ BytesIn w.heap.size w (.slice a len cap) l := by
  rcases h with ⟨rfl, rfl, rfl, rfl⟩ | ⟨x, rfl, hlc, hcm, hzl, hc, hw⟩
  · exact ⟨[], rfl, BytesIn.nil w⟩
  · refine ⟨(z.take len).map fun n => UInt8.ofNat n.toNat, by simp; omega, some x, cap, by simp; omega, by simp; omega, hcm, fun h0 => ?_⟩
    simp only [List.length_map, List.length_take] at h0
    obtain ⟨b, o, rfl⟩ := addr_of (hc 0 (by omega))
    refine ⟨b, o, rfl, lt_of_cell (o := o) (by have := hc 0 (by omega); rwa [add_at, Nat.add_zero] at this), fun i hi => ?_⟩
    simp only [List.length_map, List.length_take] at hi
    have h1 := hc i (by omega)
    have h2 := in_u8 (hw (z.getD i 0) (by rw [List.getD, List.getElem?_eq_getElem (by omega)]; exact List.getElem_mem _))
    rw [add_at] at h1
    rw [h1]
    simp only [List.getElem_map, List.getElem_take]
    rw [List.getD, List.getElem?_eq_getElem (by omega)] at h2 ⊢
    simp only [Option.getD_some] at h2 ⊢
    rw [UInt8.toNat_ofNat', Nat.mod_eq_of_lt (by omega)]
    congr 2
    omega

theorem or_i64 (a b : Nat) (ha : a < 4611686018427387904) (hb : b < 4611686018427387904) : bits .or .i64 (a : Int) (b : Int) = ((a ||| b : Nat) : Int) := by
  have hx : a ||| b < 2 ^ 62 := Nat.or_lt_two_pow (by omega) (by omega)
  have h1 : (BitVec.ofInt 64 (a : Int)).toNat = a := by
    rw [BitVec.ofInt_natCast, BitVec.toNat_ofNat]; exact Nat.mod_eq_of_lt (by omega)
  have h2 : (BitVec.ofInt 64 (b : Int)).toNat = b := by
    rw [BitVec.ofInt_natCast, BitVec.toNat_ofNat]; exact Nat.mod_eq_of_lt (by omega)
  show IntKind.i64.wrap ((BitVec.ofInt 64 (a : Int) ||| BitVec.ofInt 64 (b : Int)).toNat : Int) = _
  rw [BitVec.toNat_or, h1, h2, IntKind.wrap_i64]
  omega
/-- a byte behind a number. -/
theorem or_byte (m : Nat) (c : UInt8) (hm : m < 18014398509481984) : bits .or .i64 ((m : Int) * 256) (c.toNat : Int) = ((m * 256 + c.toNat : Nat) : Int) := by
  have hc : c.toNat < 256 := c.toNat_lt
  have h := or_i64 (m * 256) c.toNat (by omega) (by omega)
  rw [show ((m : Int) * 256) = ((m * 256 : Nat) : Int) by omega, h]
  congr 1
  rw [show m * 256 = m <<< 8 by rw [Nat.shiftLeft_eq], ← Nat.shiftLeft_add_eq_or_of_lt (by omega)]

theorem cells4 {w : World} {g : Nat} {k n s v : Value} {t : TypeId} (h : w.heap[g]? = some (.cells #[k, n, s, v] t (0, 0))) :
    (w.cell? ⟨g, 0, none⟩ = some k ∧ w.cell? ⟨g, 1, none⟩ = some n ∧ w.cell? ⟨g, 2, none⟩ = some s ∧ w.cell? ⟨g, 3, none⟩ = some v) ∧ w.frozen? ⟨g, 0, none⟩ = false ∧ w.frozen? ⟨g, 1, none⟩ = false ∧ w.frozen? ⟨g, 2, none⟩ = false ∧ w.frozen? ⟨g, 3, none⟩ = false := by
  refine ⟨⟨?_, ?_, ?_, ?_⟩, ?_, ?_, ?_, ?_⟩
  all_goals first | (rw [cell_of_row w _ _ _ _ _ h]; rfl) | simp [World.frozen?, h]
end Go.Proofs.YtiobcgolcoocnaaGreatDoor
