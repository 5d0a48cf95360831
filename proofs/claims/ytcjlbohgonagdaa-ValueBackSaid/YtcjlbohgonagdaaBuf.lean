/-
  Bytes that a call puts one behind the other: a slice of its own, and one laid over what is there.
-/
import Derived.Test.YtcjlbohgonagdaaLeafs
import Derived.Lib.AppendStr
import Derived.Deep.AppendLies
import Derived.OwnWalk
namespace Go.Proofs.Ytcjlbohgonagdaa
open Go.RowKit
set_option linter.unusedVariables false

/-- bytes as cells. -/
def cellsOf (l : List UInt8) : List Value := l.map fun c => .int .u8 c.toNat
@[simp] theorem cellsOf_length (l : List UInt8) : (cellsOf l).length = l.length := by simp [cellsOf]
theorem cellsOf_append (l m : List UInt8) : cellsOf (l ++ m) = cellsOf l ++ cellsOf m := by simp [cellsOf]
theorem cellsOf_one (l : List UInt8) : ∀ u ∈ cellsOf l, u.oneCell' = true := by
  intro u hu
  simp only [cellsOf, List.mem_map] at hu
  obtain ⟨c, _, rfl⟩ := hu
  rfl
/-- v is a slice of the call's own, of these bytes. -/
def Buf (w : World) (base : Nat) (v : Value) (l : List UInt8) : Prop := w.ownsRow base 5 1 v l.length (cellsOf l)
theorem Buf.nil (w : World) (base : Nat) : Buf w base (.slice none 0 0) [] := World.ownsRow_nil w base _ _

theorem u8_info : (Try.prog.info? 5).map (fun i => (i.zero, i.size, i.bytes)) = some (some (.int .u8 0), 1, 1) := by kernel_rfl

theorem GrownBy.trans {a b c : World} {row : Option Nat} (h : a.grownBy b row) (k : b.grownBy c row) : a.grownBy c row :=
  ⟨k.os.trans h.os, k.tape.trans h.tape, k.output.trans h.output, Nat.le_trans h.size k.size, fun i hi hne => (k.block i (Nat.lt_of_lt_of_le hi h.size) hne).trans (h.block i hi hne)⟩
theorem GrownBy.refl (a : World) (row : Option Nat) : a.grownBy a row := ⟨rfl, rfl, rfl, Nat.le_refl _, fun _ _ _ => rfl⟩

/-- from v in w to v' in w': v's own block and new ones alone have turned, and v' lies there. -/
structure Onto (w : World) (v : Value) (w' : World) (v' : Value) : Prop where
  grew : w.grownBy w' v.ownBlock
  own : v'.ownBlock = v.ownBlock ∨ ∃ g, v'.ownBlock = some g ∧ w.heap.size ≤ g
theorem Onto.refl (w : World) (v : Value) : Onto w v w v := ⟨GrownBy.refl _ _, .inl rfl⟩
theorem Onto.trans {w1 w2 w3 : World} {v1 v2 v3 : Value} (h : Onto w1 v1 w2 v2) (k : Onto w2 v2 w3 v3) : Onto w1 v1 w3 v3 := by
  refine ⟨⟨k.grew.os.trans h.grew.os, k.grew.tape.trans h.grew.tape, k.grew.output.trans h.grew.output, Nat.le_trans h.grew.size k.grew.size, fun i hi hne => ?_⟩, ?_⟩
  · refine (k.grew.block i (Nat.lt_of_lt_of_le hi h.grew.size) (fun e => ?_)).trans (h.grew.block i hi hne)
    rcases h.own with h1 | ⟨g, h1, h2⟩
    · exact hne (e.trans h1)
    · rw [h1] at e; cases e; omega
  · rcases k.own with k1 | ⟨g, k1, k2⟩
    · rcases h.own with h1 | ⟨g, h1, h2⟩
      · exact .inl (k1.trans h1)
      · exact .inr ⟨g, k1.trans h1, h2⟩
    · exact .inr ⟨g, k1, Nat.le_trans h.grew.size k2⟩
theorem Onto.below {w w' : World} {v v' : Value} {base : Nat} {l : List UInt8} (h : Onto w v w' v') (hb : Buf w base v l) (hbase : base ≤ w.heap.size) : Below base w w' :=
  (Below.refl _ _).grown h.grew hbase (fun k hk => (World.ownsRow.lt hb k hk).1)
theorem Onto.alloc {w w' : World} {v v' : Value} {o : Obj} (h : Onto (w.alloc o) v w' v') : Onto w v w' v' := by
  refine ⟨⟨h.grew.os, h.grew.tape, h.grew.output, Nat.le_trans (by simp) h.grew.size, fun i hi hne => ?_⟩, ?_⟩
  · exact (h.grew.block i (by simp; omega) hne).trans (Below.heap_alloc w o i hi)
  · rcases h.own with h1 | ⟨g, h1, h2⟩
    · exact .inl h1
    · exact .inr ⟨g, h1, by simp at h2; omega⟩
/-- another block is as it was. -/
theorem Onto.block {w w' : World} {v v' : Value} (h : Onto w v w' v') {k : Nat} (hk : k < w.heap.size) (hne : v.ownBlock ≠ some k) : w'.heap[k]? = w.heap[k]? := h.grew.block k hk (Ne.symm hne)

/-- one byte more: the cell that is appended lies in the block made last. -/
theorem put_one {ops : Array Oper} {rest : List Oper} {o : Oper} {a : Act} {Q : Exit → Act → World → Prop} {w : World} {base : Nat} {v : Value} {l : List UInt8} {z : Int} (hgd : o.guard = none) (s x : Operand)
    (ho : o.op = .call { callee := .builtin .append, args := #[s, x], argTypes := #[25, 25] }) (hb : Buf w base v l) (hbase : base ≤ w.heap.size) (hl : l.length ≤ 1000000) (c : UInt8) (hz : z = c.toNat)
    (hs : a.eval s = v) (H : Nat) (hH : w.heap.size = H) (hx : a.eval x = .slice (some ⟨H, 0, none⟩) 1 1)
    (h : ∀ v' w', Buf w' base v' (l ++ [c]) → Onto w v w' v' → wpList Try.prog ops Q rest (a.put o.dst v') w') :
    wpList Try.prog ops Q (o :: rest) a (w.alloc (.cells #[.int .u8 z] 5)) := by
  subst hz
  subst hH
  obtain ⟨i0, hi, hz0, hz1, hz2⟩ := info_parts u8_info
  have hb' := World.ownsRow.alloc hb (.cells #[.int .u8 c.toNat] 5)
  refine wpList_append_lies _ hgd s x 25 ho base 5 i0 _ 1 1 Try.underlying25 hi hz0 hz1 hz2 rfl (by decide) v l.length (cellsOf l) hs hb' ⟨w.heap.size, 0, none⟩ 1 1 (cellsOf [c]) hx (by simp) (cell_one_new _ _ _) (cellsOf_one _) (by decide) (by unfold maxLen; omega) (by omega) (by simp; omega) _ rfl ?_
  intro g cap w' hown hg hat hlt
  refine h _ w' ?_ (Onto.alloc (o := .cells #[.int .u8 c.toNat] 5) ⟨hg, ?_⟩)
  · unfold Buf
    rw [cellsOf_append, List.length_append]
    exact hown
  · rcases hat with h1 | h1
    · exact .inl h1.symm
    · exact .inr ⟨g, rfl, by omega⟩

/-- a string's bytes more. -/
theorem run_str {w : World} {base : Nat} {v : Value} {l : List UInt8} (ty : TypeId) (hb : Buf w base v l) (hbase : base ≤ w.heap.size) (str : ByteArray) (h0 : 0 < l.length) (hl : l.length + str.size ≤ 1000000) :
    ∃ v' w', (Builtin.append_ #[25, 9] ty #[v, .string str]).run Try.prog w = .ok v' w' ∧ Buf w' base v' (l ++ str.data.toList) ∧ Onto w v w' v' := by
  obtain ⟨i0, hi, hz0, hz1, hz2⟩ := info_parts u8_info
  have hsl : (Lib.strCells str).length = str.size := Lib.strCells_length str
  have hcl : (cellsOf l ++ Lib.strCells str).length = l.length + str.size := by simp [hsl]
  have hcell : cellsOf (l ++ str.data.toList) = cellsOf l ++ Lib.strCells str := cellsOf_append _ _
  rcases hb.2 with ⟨_, hn⟩ | ⟨g, cap, cur, rfl, hbg, hg, hnc, hcm, hcs, htake⟩
  · omega
  have hcs' : cur.size = cap := by simpa using hcs
  by_cases hroom : l.length + str.size ≤ cap
  · have hr := Lib.run_append_room_string (P := Try.prog) w 25 9 ty 5 i0 Try.underlying25 Try.underlying9 hi hz1 g l.length cap cur hg str hroom (by omega)
    refine ⟨_, _, hr, ⟨by simp [hcell, hsl], .inr ⟨g, cap, _, ?_, hbg, setRow_heap w g cur _ _ _ hg, ?_, hcm, ?_, ?_⟩⟩, ⟨⟨rfl, rfl, rfl, by simp [World.setRow], fun k _ hk => setRow_other w g k _ (fun e => hk (by simp [Value.ownBlock, e]))⟩, .inl rfl⟩⟩
    · simp
    · simp; exact hroom
    · simp [hsl]; omega
    · have ht' : cur.toList.take l.length = cellsOf l := by simpa using htake
      rw [ht', hcell]
      simp only [List.length_append, Nat.mul_one, size_toList]
      rw [← hcl]
      exact List.take_left
  · have holds : ∀ j u, (cellsOf l)[j]? = some u → w.cell? ((⟨g, 0, none⟩ : Addr).add j) = some u := World.ownsRow.cells hb (g := g) rfl
    have hr := Lib.run_append_grow_string (P := Try.prog) w 25 9 ty 5 i0 _ Try.underlying25 Try.underlying9 hi hz0 ⟨g, 0, none⟩ l.length cap (cellsOf l) (by rw [hz1]; simp) holds str (by omega) (by omega) (by rw [hz2]; exact growslice_fits (by omega) (by omega))
    have hge := grownCap_ge w (l.length + str.size) cap 5
    have hgm : grownCap w (l.length + str.size) cap 5 ≤ maxLen := grownCap_le_maxLen w (l.length + str.size) cap 5 (by unfold maxLen; omega)
    refine ⟨_, _, hr, ⟨by simp [hcell, hsl], .inr ⟨w.heap.size, _, _, ?_, hbase, heap_alloc_new w.drew _, ?_, hgm, ?_, ?_⟩⟩, ⟨⟨rfl, rfl, rfl, by simp, fun k hk _ => Below.heap_alloc w.drew _ k hk⟩, .inr ⟨_, rfl, Nat.le_refl _⟩⟩⟩
    · simp
    · simp; exact hge
    · simp [hsl, size_zeroCells, Value.cells]; omega
    · rw [hcell]
      simp only [Array.toList_append, List.length_append, Nat.mul_one, size_toList]
      rw [← hcl]
      exact List.take_left

theorem wp_put_str {o : Oper} {a : Act} {K : Act → World → Prop} {Q : Exit → Act → World → Prop} {w : World} {base : Nat} {v : Value} {l : List UInt8} (s x : Operand)
    (ho : o.op = .call { callee := .builtin .append, args := #[s, x], argTypes := #[25, 9] }) (hb : Buf w base v l) (hbase : base ≤ w.heap.size) (str : ByteArray) (h0 : 0 < l.length) (hl : l.length + str.size ≤ 1000000)
    (hs : a.eval s = v) (hx : a.eval x = .string str)
    (h : ∀ v' w', Buf w' base v' (l ++ str.data.toList) → Onto w v w' v' → K (a.put o.dst v') w') : o.wp Try.prog a w K Q := by
  obtain ⟨v', w', hr, h1, h2⟩ := run_str o.type hb hbase str h0 hl
  unfold Oper.wp execOp
  simp only [ho, resolve, invoke, builtin, Sem.run_bind, Sem.run_pure, Result.andThen_ok, List.map_toArray, List.map_cons, List.map_nil, hs, hx, hr]
  exact h v' w' h1 h2
theorem put_str {ops : Array Oper} {rest : List Oper} {o : Oper} {a : Act} {Q : Exit → Act → World → Prop} {w : World} {base : Nat} {v : Value} {l : List UInt8} (hgd : o.guard = none) (s x : Operand)
    (ho : o.op = .call { callee := .builtin .append, args := #[s, x], argTypes := #[25, 9] }) (hb : Buf w base v l) (hbase : base ≤ w.heap.size) (str : ByteArray) (h0 : 0 < l.length) (hl : l.length + str.size ≤ 1000000)
    (hs : a.eval s = v) (hx : a.eval x = .string str)
    (h : ∀ v' w', Buf w' base v' (l ++ str.data.toList) → Onto w v w' v' → wpList Try.prog ops Q rest (a.put o.dst v') w') : wpList Try.prog ops Q (o :: rest) a w :=
  wpList_plain hgd fun K hK => wp_put_str s x ho hb hbase str h0 hl hs hx fun v' w' h1 h2 => hK _ _ (h v' w' h1 h2)
theorem step_put_str {ops : Array Oper} {o : Oper} {a : Act} {K : Act → World → Prop} {Q : Exit → Act → World → Prop} {E : Prop} {w : World} {base : Nat} {v : Value} {l : List UInt8} (hgd : o.guard = none) (s x : Operand)
    (ho : o.op = .call { callee := .builtin .append, args := #[s, x], argTypes := #[25, 9] }) (hb : Buf w base v l) (hbase : base ≤ w.heap.size) (str : ByteArray) (h0 : 0 < l.length) (hl : l.length + str.size ≤ 1000000)
    (hs : a.eval s = v) (hx : a.eval x = .string str)
    (h : ∀ v' w', Buf w' base v' (l ++ str.data.toList) → Onto w v w' v' → K (a.put o.dst v') w') : if Region.wanted o (yielded ops a.tmps) = true then Oper.wp Try.prog o a w K Q else E := by
  have hw : Region.wanted o (yielded ops a.tmps) = true := by simp [Region.wanted, hgd]
  rw [if_pos hw]
  exact wp_put_str s x ho hb hbase str h0 hl hs hx h

theorem be_step {size s n : Nat} (h0 : 0 < s) (hs : s ≤ size) : (be size n).take (size - (s - 1)) = (be size n).take (size - s) ++ [UInt8.ofNat (n / 2 ^ (8 * (s - 1)) % 256)] := by
  have hg : ∀ (k m : Nat) (h : m < k), (be k n)[m]'(by simp; exact h) = UInt8.ofNat (n / 256 ^ (k - 1 - m) % 256) := by
    intro k
    induction k with
    | zero => intro m h; omega
    | succ k ih =>
      intro m h
      cases m with
      | zero => simp [be]
      | succ m =>
        simp only [be, List.getElem_cons_succ]
        rw [ih m (by omega), show k + 1 - 1 - (m + 1) = k - 1 - m by omega]
  rw [show size - (s - 1) = (size - s) + 1 by omega, List.take_succ_eq_append_getElem (by simp; omega), hg size (size - s) (by omega)]
  rw [show size - 1 - (size - s) = s - 1 by omega, show (256 : Nat) = 2 ^ 8 from rfl, ← Nat.pow_mul]

def putRel (v0 : Value) (base : Nat) (l : List UInt8) (n size : Nat) (W : World) (m : Nat) (a' : Act) (w' : World) : Prop :=
  ∃ (s : Nat) (v : Value) (u7 u8 u9 u10 u11 u12 u13 u14 u15 u16 u17 u18 u19 : Value), Onto W v0 w' v ∧ a' = { tmps := #[v, .int .u64 n, .int .i64 s, undef, undef, undef, .slice none 0 0, u7, u8, u9, u10, u11, u12, u13, u14, u15, u16, u17, u18, u19], defers := [] } ∧ s ≤ size ∧ s = m ∧ Buf w' base v (l ++ (be size n).take (size - s))

set_option maxRecDepth 100000 in
set_option maxHeartbeats 4000000 in
theorem putNum_any (base : Nat) (v : Value) (l : List UInt8) (n size : Nat) (hn : n < 18446744073709551616) (hsz : size ≤ 8) (w : World) (hb : Buf w base v l) (hbase : base ≤ w.heap.size) (hl : l.length ≤ 100000) :
    Calls Try.prog 38 #[v, .int .u64 n, .int .i64 size] w fun e w' => ∃ v', e = .returned v' ∧ Buf w' base v' (l ++ be size n) ∧ Onto w v w' v' := by
  have HN := Lib.hid hn
  clear hn
  go_enter Try.func38, Try.ntmps38
  go_wp2
  refine wp_scope_ghost 0 (putRel v base l n size w) rfl ?_ ?_
  · intro H hb'
    go_wp2
    go_step3
    rename_i hK
    refine hK _ _ (hb' size _ _ ⟨size, v, ?_⟩)
    repeat apply Exists.intro
    exact ⟨Onto.refl _ _, rfl, Nat.le_refl _, rfl, by simpa using hb⟩
  · rintro m a' w' ⟨s, v1, u7, u8, u9, u10, u11, u12, u13, u14, u15, u16, u17, u18, u19, hon, rfl, hs, rfl, hbuf⟩ H hH
    by_cases h0 : 0 < s
    · have HB := Lib.hid hbuf
      have HS := Lib.hid (be_step (n := n) h0 hs)
      clear hbuf
      have hle : (l ++ (be size n).take (size - s)).length ≤ 1000000 := by simp; omega
      go_wp2_with (at_builtin; refine put_one rfl (.tmp 11) (.tmp 17) rfl HB.out (Nat.le_trans hbase hon.grew.size) hle (UInt8.ofNat (n / 2 ^ (8 * (s - 1)) % 256)) (by simp) rfl _ rfl rfl ?_; intro v2 w2 hb2 hon2; have HB2 := Lib.hid hb2; clear hb2)
      go_step3
      refine ⟨rfl, hH (s - 1) _ _ (by omega) ⟨s - 1, v2, ?_⟩⟩
      repeat apply Exists.intro
      refine ⟨hon.trans hon2, ?_, by omega, rfl, ?_⟩
      · rw [show ((s - 1 : Nat) : Int) = (s : Int) - 1 by omega]
      · rw [HS.out, ← List.append_assoc]; exact HB2.out
    · go_wp2
      simp only [Exit.jump]
      go_ret
      obtain rfl : s = 0 := by omega
      rw [Nat.sub_zero, List.take_of_length_le (by simp)] at hbuf
      exact ⟨_, rfl, hbuf, hon⟩

/-! ### over what is there -/
/-- block g is just these cells, of bytes. -/
def Row8 (w : World) (g : Nat) (cs : List Value) : Prop := w.heap[g]? = some (.cells cs.toArray 5 (0, 0))

theorem lay_one {ops : Array Oper} {rest : List Oper} {o : Oper} {a : Act} {Q : Exit → Act → World → Prop} {w : World} {g n cap : Nat} {cs : List Value} {z : Int} (hgd : o.guard = none) (s x : Operand)
    (ho : o.op = .call { callee := .builtin .append, args := #[s, x], argTypes := #[25, 25] }) (hb : Row8 w g cs) (hn : n < cap) (hc : cap ≤ cs.length)
    (hs : a.eval s = .slice (some ⟨g, 0, none⟩) n cap) (hx : a.eval x = .slice (some ⟨w.heap.size, 0, none⟩) 1 1)
    (h : ∀ w', Row8 w' g (cs.take n ++ [.int .u8 z] ++ cs.drop (n + 1)) → w.grownBy w' (some g) → wpList Try.prog ops Q rest (a.put o.dst (.slice (some ⟨g, 0, none⟩) (n + 1) cap)) w') :
    wpList Try.prog ops Q (o :: rest) a (w.alloc (.cells #[.int .u8 z] 5)) := by
  obtain ⟨i0, hi, hz0, hz1, hz2⟩ := info_parts u8_info
  have hlt : g < w.heap.size := (Array.getElem?_eq_some_iff.1 hb).1
  have hg : (w.alloc (.cells #[.int .u8 z] 5)).heap[g]? = some (.cells cs.toArray 5 (0, 0)) := (Below.heap_alloc w _ g hlt).trans hb
  have hr := run_append_room (P := Try.prog) (w.alloc (.cells #[.int .u8 z] 5)) 25 o.type 5 i0 Try.underlying25 hi g n cap cs.toArray hg ⟨w.heap.size, 0, none⟩ 1 1 [.int .u8 z] (by simp [hz1]) (cell_one_new _ _ _) (by simp [Value.oneCell']) (by omega) (by rw [hz1]; simp; omega)
  refine wpList_plain hgd fun K hK => ?_
  unfold Oper.wp execOp
  simp only [ho, resolve, invoke, builtin, Sem.run_bind, Sem.run_pure, Result.andThen_ok, List.map_toArray, List.map_cons, List.map_nil, hs, hx, hr]
  refine hK _ _ (h _ ?_ ?_)
  · unfold Row8
    rw [setRow_heap _ _ _ _ _ _ hg]
    simp [hz1]
  · refine ⟨rfl, rfl, rfl, by simp [World.setRow], fun k hk hne => ?_⟩
    rw [setRow_other _ _ _ _ (fun e => hne (by rw [e]))]
    exact Below.heap_alloc w _ k hk

def layRel (g cap start : Nat) (cs : List Value) (n size : Nat) (W : World) (m : Nat) (a' : Act) (w' : World) : Prop :=
  W.grownBy w' (some g) ∧ ∃ (s : Nat) (u7 u8 u9 u10 u11 u12 u13 u14 u15 u16 u17 u18 u19 : Value), a' = { tmps := #[.slice (some ⟨g, 0, none⟩) (start + (size - s) : Nat) cap, .int .u64 n, .int .i64 s, undef, undef, undef, .slice none 0 0, u7, u8, u9, u10, u11, u12, u13, u14, u15, u16, u17, u18, u19], defers := [] } ∧ s ≤ size ∧ s = m ∧
    Row8 w' g (cs.take start ++ cellsOf ((be size n).take (size - s)) ++ cs.drop (start + (size - s)))

theorem lay_step {cs bs : List Value} {start k : Nat} {u : Value} (hb : bs.length = k) (hk : start + k < cs.length) :
    (cs.take start ++ bs ++ cs.drop (start + k)).take (start + k) ++ [u] ++ (cs.take start ++ bs ++ cs.drop (start + k)).drop (start + k + 1) = cs.take start ++ (bs ++ [u]) ++ cs.drop (start + (k + 1)) := by
  have hl : (cs.take start ++ bs).length = start + k := by simp; omega
  have hd : (cs.take start ++ bs ++ cs.drop (start + k)).drop (start + k + 1) = cs.drop (start + (k + 1)) := by
    rw [List.drop_append, List.drop_eq_nil_of_le (by omega), hl, List.drop_drop, List.nil_append]
    congr 1
    omega
  rw [List.take_left' hl, hd]
  simp [List.append_assoc]

set_option maxRecDepth 100000 in
set_option maxHeartbeats 4000000 in
theorem putNum_in (g cap start : Nat) (cs : List Value) (n size : Nat) (hn : n < 18446744073709551616) (hsz : size ≤ 8) (w : World) (hb : Row8 w g cs) (hc : cap = cs.length) (hfit : start + size ≤ cap) (hl : cap ≤ maxLen) :
    Calls Try.prog 38 #[.slice (some ⟨g, 0, none⟩) start cap, .int .u64 n, .int .i64 size] w fun e w' => ∃ v', e = .returned v' ∧ Row8 w' g (cs.take start ++ cellsOf (be size n) ++ cs.drop (start + size)) ∧ w.grownBy w' (some g) := by
  have HN := Lib.hid hn
  have HC := Lib.hid hc
  have HL := Lib.hid hl
  clear hn hc hl
  go_enter Try.func38, Try.ntmps38
  go_wp2
  refine wp_scope_ghost 0 (layRel g cap start cs n size w) rfl ?_ ?_
  · intro H hb'
    go_wp2
    go_step3
    rename_i hK
    refine hK _ _ (hb' size _ _ ⟨GrownBy.refl _ _, size, ?_⟩)
    repeat apply Exists.intro
    refine ⟨?_, Nat.le_refl _, rfl, ?_⟩
    · rw [Nat.sub_self, Nat.add_zero]
    · rw [Nat.sub_self, Nat.add_zero, List.take_zero]
      simpa [cellsOf] using hb
  · rintro m a' w' ⟨hbel, s, u7, u8, u9, u10, u11, u12, u13, u14, u15, u16, u17, u18, u19, rfl, hs, rfl, hbuf⟩ H hH
    by_cases h0 : 0 < s
    · have HB := Lib.hid hbuf
      have HS := Lib.hid (be_step (n := n) h0 hs)
      clear hbuf
      obtain ⟨k, hk⟩ : ∃ k, k = start + (size - s) := ⟨_, rfl⟩
      rw [← hk]
      have hkc : k < cap := by omega
      have HK := Lib.hid hk
      clear hk
      have hle : cap ≤ (cs.take start ++ cellsOf ((be size n).take (size - s)) ++ cs.drop (start + (size - s))).length := by
        have := HC.out
        simp
        omega
      have HLE := Lib.hid hle
      clear hle
      go_wp2_with (at_builtin; refine lay_one rfl (.tmp 11) (.tmp 17) rfl HB.out hkc HLE.out rfl rfl ?_; intro w2 hb2 hg2; have HB2 := Lib.hid hb2; clear hb2)
      go_step3
      refine ⟨rfl, hH (s - 1) _ _ (by omega) ⟨GrownBy.trans hbel hg2, s - 1, ?_⟩⟩
      repeat apply Exists.intro
      refine ⟨?_, by omega, rfl, ?_⟩
      · have := HK.out
        rw [show ((s - 1 : Nat) : Int) = (s : Int) - 1 by omega, show start + (size - (s - 1)) = k + 1 by omega]
      · have h2 := HB2.out
        have hk := HK.out
        subst hk
        rw [lay_step (by simp) (by have := HC.out; omega)] at h2
        rw [HS.out, cellsOf_append, show size - (s - 1) = size - s + 1 by omega]
        have he : (cellsOf [UInt8.ofNat (n / 2 ^ (8 * (s - 1)) % 256)]) = [.int .u8 ((n : Int) / 2 ^ (8 * (s - 1)) % 256)] := by
          simp [cellsOf]
        rw [he]
        exact h2
    · go_wp2
      simp only [Exit.jump]
      go_ret
      obtain rfl : s = 0 := by omega
      rw [Nat.sub_zero, List.take_of_length_le (show (be size n).length ≤ size by simp)] at hbuf
      exact ⟨_, rfl, hbuf, hbel⟩

end Go.Proofs.Ytcjlbohgonagdaa
