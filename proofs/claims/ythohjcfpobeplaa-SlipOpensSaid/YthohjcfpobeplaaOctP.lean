/-
  package octet's PutText, walked: behind a slice of the call's own, and over what is there.
-/
import Derived.Test.YthohjcfpobeplaaOctN
import Derived.Lib.AppendStr
import Derived.Deep.AppendLies
import Derived.OwnWalk
namespace Go.Proofs.Ythohjcfpobeplaa
open Go.RowKit
set_option linter.unusedVariables false

/-- a string's bytes more. -/
theorem run_str {w : World} {base : Nat} {v : Value} {l : List UInt8} (ty : TypeId) (hb : Buf w base v l) (hbase : base ≤ w.heap.size) (str : ByteArray) (h0 : 0 < l.length) (hl : l.length + str.size ≤ 1000000) :
    ∃ v' w', (Builtin.append_ #[123, 9] ty #[v, .string str]).run Try.prog w = .ok v' w' ∧ Buf w' base v' (l ++ str.data.toList) ∧ Onto w v w' v' := by
  obtain ⟨i0, hi, hz0, hz1, hz2⟩ := info_parts u8_info
  have hsl : (Lib.strCells str).length = str.size := Lib.strCells_length str
  have hcl : (cellsOf l ++ Lib.strCells str).length = l.length + str.size := by simp [hsl]
  have hcell : cellsOf (l ++ str.data.toList) = cellsOf l ++ Lib.strCells str := cellsOf_append _ _
  rcases hb.2 with ⟨_, hn⟩ | ⟨g, cap, cur, rfl, hbg, hg, hnc, hcm, hcs, htake⟩
  · omega
  have hcs' : cur.size = cap := by simpa using hcs
  by_cases hroom : l.length + str.size ≤ cap
  · have hr := Lib.run_append_room_string (P := Try.prog) w 123 9 ty 5 i0 Try.underlying123 Try.underlying9 hi hz1 g l.length cap cur hg str hroom (by omega)
    refine ⟨_, _, hr, ⟨by simp [hcell, hsl], .inr ⟨g, cap, _, ?_, hbg, setRow_heap w g cur _ _ _ hg, ?_, hcm, ?_, ?_⟩⟩, ⟨⟨rfl, rfl, rfl, by simp [World.setRow], fun k _ hk => setRow_other w g k _ (fun e => hk (by simp [Value.ownBlock, e]))⟩, .inl rfl⟩⟩
    · simp
    · simp; exact hroom
    · simp [hsl]; omega
    · have ht' : cur.toList.take l.length = cellsOf l := by simpa using htake
      rw [ht', hcell]
      simp only [List.length_append, Nat.mul_one, size_toList]
      rw [← hcl]
      exact List.take_left
  · have holds : ∀ j u, (cellsOf l)[j]? = some u → w.cell? ((⟨g, 0, none⟩ : Addr).add j) = some u := World.ownsRow.cells hb (g := g) rfl
    have hr := Lib.run_append_grow_string (P := Try.prog) w 123 9 ty 5 i0 _ Try.underlying123 Try.underlying9 hi hz0 ⟨g, 0, none⟩ l.length cap (cellsOf l) (by rw [hz1]; simp) holds str (by omega) (by omega) (by rw [hz2]; exact growslice_fits (by omega) (by omega))
    have hge := grownCap_ge w (l.length + str.size) cap 5
    have hgm : grownCap w (l.length + str.size) cap 5 ≤ maxLen := grownCap_le_maxLen w (l.length + str.size) cap 5 (by unfold maxLen; omega)
    refine ⟨_, _, hr, ⟨by simp [hcell, hsl], .inr ⟨w.heap.size, _, _, ?_, hbase, heap_alloc_new w.drew _, ?_, hgm, ?_, ?_⟩⟩, ⟨⟨rfl, rfl, rfl, by simp, fun k hk _ => Below.heap_alloc w.drew _ k hk⟩, .inr ⟨_, rfl, Nat.le_refl _⟩⟩⟩
    · simp
    · simp; exact hge
    · simp [hsl, size_zeroCells, Value.cells]; omega
    · rw [hcell]
      simp only [Array.toList_append, List.length_append, Nat.mul_one, size_toList]
      rw [← hcl]
      exact List.take_left

theorem wp_put_str {o : Oper} {a : Act} {K : Act → World → Prop} {Q : Exit → Act → World → Prop} {w : World} {base : Nat} {v : Value} {l : List UInt8} (s x : Operand)
    (ho : o.op = .call { callee := .builtin .append, args := #[s, x], argTypes := #[123, 9] }) (hb : Buf w base v l) (hbase : base ≤ w.heap.size) (str : ByteArray) (h0 : 0 < l.length) (hl : l.length + str.size ≤ 1000000)
    (hs : a.eval s = v) (hx : a.eval x = .string str)
    (h : ∀ v' w', Buf w' base v' (l ++ str.data.toList) → Onto w v w' v' → K (a.put o.dst v') w') : o.wp Try.prog a w K Q := by
  obtain ⟨v', w', hr, h1, h2⟩ := run_str o.type hb hbase str h0 hl
  unfold Oper.wp execOp
  simp only [ho, resolve, invoke, builtin, Sem.run_bind, Sem.run_pure, Result.andThen_ok, List.map_toArray, List.map_cons, List.map_nil, hs, hx, hr]
  exact h v' w' h1 h2

theorem put_str {ops : Array Oper} {rest : List Oper} {o : Oper} {a : Act} {Q : Exit → Act → World → Prop} {w : World} {base : Nat} {v : Value} {l : List UInt8} (hgd : o.guard = none) (s x : Operand)
    (ho : o.op = .call { callee := .builtin .append, args := #[s, x], argTypes := #[123, 9] }) (hb : Buf w base v l) (hbase : base ≤ w.heap.size) (str : ByteArray) (h0 : 0 < l.length) (hl : l.length + str.size ≤ 1000000)
    (hs : a.eval s = v) (hx : a.eval x = .string str)
    (h : ∀ v' w', Buf w' base v' (l ++ str.data.toList) → Onto w v w' v' → wpList Try.prog ops Q rest (a.put o.dst v') w') : wpList Try.prog ops Q (o :: rest) a w :=
  wpList_plain hgd fun K hK => wp_put_str s x ho hb hbase str h0 hl hs hx fun v' w' h1 h2 => hK _ _ (h v' w' h1 h2)

theorem step_put_str {ops : Array Oper} {o : Oper} {a : Act} {K : Act → World → Prop} {Q : Exit → Act → World → Prop} {E : Prop} {w : World} {base : Nat} {v : Value} {l : List UInt8} (hgd : o.guard = none) (s x : Operand)
    (ho : o.op = .call { callee := .builtin .append, args := #[s, x], argTypes := #[123, 9] }) (hb : Buf w base v l) (hbase : base ≤ w.heap.size) (str : ByteArray) (h0 : 0 < l.length) (hl : l.length + str.size ≤ 1000000)
    (hs : a.eval s = v) (hx : a.eval x = .string str)
    (h : ∀ v' w', Buf w' base v' (l ++ str.data.toList) → Onto w v w' v' → K (a.put o.dst v') w') : if Region.wanted o (yielded ops a.tmps) = true then Oper.wp Try.prog o a w K Q else E := by
  have hw : Region.wanted o (yielded ops a.tmps) = true := by simp [Region.wanted, hgd]
  rw [if_pos hw]
  exact wp_put_str s x ho hb hbase str h0 hl hs hx h

set_option maxRecDepth 100000 in
set_option maxHeartbeats 4000000 in
theorem putText_any (base : Nat) (v : Value) (l : List UInt8) (s : ByteArray) (size : Nat) (h1 : 1 ≤ size) (hsz : size ≤ 8) (w : World) (hb : Buf w base v l) (hbase : base ≤ w.heap.size) (hl : l.length ≤ 100000) (hs : s.size ≤ 100000) :
    Calls Try.prog 130 #[v, .string s, .int .i64 size] w fun e w' => ∃ v', e = .returned v' ∧ Buf w' base v' (l ++ (be size s.size ++ s.data.toList)) ∧ Onto w v w' v' := by
  have HB := Lib.hid hb
  have hs2 : IntKind.u64.wrap (s.size : Int) = ((s.size : Nat) : Int) := by rw [IntKind.wrap_u64]; omega
  clear hb
  go_enter Try.func130, Try.ntmps130
  go_wp2_with fail
  refine (putNum_any base v l s.size size (by omega) hsz _ HB.out hbase hl).mono ?_
  rintro e w2 ⟨v2, rfl, hb2, hon2⟩
  have HB2 := Lib.hid hb2
  have HO2 := Lib.hid hon2
  have hz2 := hon2.grew.size
  have h0 : 0 < (l ++ be size s.size).length := by simp; omega
  have hl2 : (l ++ be size s.size).length + s.size ≤ 1000000 := by simp; omega
  clear hb2 hon2
  go_wp2_with (at_builtin; refine put_str rfl (.tmp 12) (.tmp 13) rfl HB2.out (Nat.le_trans hbase hz2) s h0 hl2 rfl rfl ?_; intro v3 w3 hb3 hon3; have HB3 := Lib.hid hb3; have HO3 := Lib.hid hon3; clear hb3 hon3)
  go_ret
  have hb3 := HB3.out
  rw [List.append_assoc] at hb3
  exact ⟨_, rfl, hb3, HO2.out.trans HO3.out⟩

end Go.Proofs.Ythohjcfpobeplaa
