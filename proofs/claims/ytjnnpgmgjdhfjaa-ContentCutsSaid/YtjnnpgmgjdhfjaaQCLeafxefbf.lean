/-
  package octet's PutNumber and PutText, walked: behind a slice of the call's own, and over what is there.
  package octet's Reader, walked.
  Frames in memory; frame.May and what it calls, walked (for package content).
  slices.Clone of bytes, hasContent, mayNot, IndexFunc and ContainsFunc over frames, walked.
-/
import Derived.Test.YtjnnpgmgjdhfjaaQOctDxbefc
import Derived.Lib.AppendStr
import Derived.Deep.AppendLies
import Derived.OwnWalk
import Derived.Lib.Bytealg
import Derived.IntWalk
import Derived.Laws.Externs
import Derived.Laws.Bits64b
import Derived.Deep.RegionHeld3
import Derived.Deep.LoopGhost
import Derived.Lib.SliceRun
import Derived.WalkSpells
import Derived.Laws.OwnMore
namespace Go.Proofs.Ytjnnpgmgjdhfjaa
open Go.RowKit
set_option linter.unusedVariables false

/-- a string's bytes more. -/
theorem run_str {w : World} {base : Nat} {v : Value} {l : List UInt8} (ty : TypeId) (hb : Buf w base v l) (hbase : base ≤ w.heap.size) (str : ByteArray) (h0 : 0 < l.length) (hl : l.length + str.size ≤ 1000000) :
    ∃ v' w', (Builtin.append_ #[26, 9] ty #[v, .string str]).run Try.prog w = .ok v' w' ∧ Buf w' base v' (l ++ str.data.toList) ∧ Onto w v w' v' := by
  obtain ⟨i0, hi, hz0, hz1, hz2⟩ := info_parts u8_info
  have hsl : (Lib.strCells str).length = str.size := Lib.strCells_length str
  have hcl : (cellsOf l ++ Lib.strCells str).length = l.length + str.size := by simp [hsl]
  have hcell : cellsOf (l ++ str.data.toList) = cellsOf l ++ Lib.strCells str := cellsOf_append _ _
  rcases hb.2 with ⟨_, hn⟩ | ⟨g, cap, cur, rfl, hbg, hg, hnc, hcm, hcs, htake⟩
  · omega
  have hcs' : cur.size = cap := by simpa using hcs
  by_cases hroom : l.length + str.size ≤ cap
  · have hr := Lib.run_append_room_string (P := Try.prog) w 26 9 ty 5 i0 Try.underlying26 Try.underlying9 hi hz1 g l.length cap cur hg str hroom (by omega)
    refine ⟨_, _, hr, ⟨by simp [hcell, hsl], .inr ⟨g, cap, _, ?_, hbg, setRow_heap w g cur _ _ _ hg, ?_, hcm, ?_, ?_⟩⟩, ⟨⟨rfl, rfl, rfl, by simp [World.setRow], fun k _ hk => setRow_other w g k _ (fun e => hk (by simp [Value.ownBlock, e]))⟩, .inl rfl⟩⟩
    · simp
    · simp; exact hroom
    · simp [hsl]; omega
    · have ht' : cur.toList.take l.length = cellsOf l := by simpa using htake
      rw [ht', hcell]
      simp only [List.length_append, Nat.mul_one, size_toList]
      rw [← hcl]
      exact List.take_left
  · have holds : ∀ j u, (cellsOf l)[j]? = some u → w.cell? ((⟨g, 0, none⟩ : Addr).add j) = some u := World.ownsRow.cells hb (g := g) rfl
    have hr := Lib.run_append_grow_string (P := Try.prog) w 26 9 ty 5 i0 _ Try.underlying26 Try.underlying9 hi hz0 ⟨g, 0, none⟩ l.length cap (cellsOf l) (by rw [hz1]; simp) holds str (by omega) (by omega) (by rw [hz2]; exact growslice_fits (by omega) (by omega))
    have hge := grownCap_ge w (l.length + str.size) cap 5
    have hgm : grownCap w (l.length + str.size) cap 5 ≤ maxLen := grownCap_le_maxLen w (l.length + str.size) cap 5 (by unfold maxLen; omega)
    refine ⟨_, _, hr, ⟨by simp [hcell, hsl], .inr ⟨w.heap.size, _, _, ?_, hbase, heap_alloc_new w.drew _, ?_, hgm, ?_, ?_⟩⟩, ⟨⟨rfl, rfl, rfl, by simp, fun k hk _ => Below.heap_alloc w.drew _ k hk⟩, .inr ⟨_, rfl, Nat.le_refl _⟩⟩⟩
    · simp
    · simp; exact hge
    · simp [hsl, size_zeroCells, Value.cells]; omega
    · rw [hcell]
      simp only [Array.toList_append, List.length_append, Nat.mul_one, size_toList]
      rw [← hcl]
      exact List.take_left

theorem wp_put_str {o : Oper} {a : Act} {K : Act → World → Prop} {Q : Exit → Act → World → Prop} {w : World} {base : Nat} {v : Value} {l : List UInt8} (s x : Operand)
    (ho : o.op = .call { callee := .builtin .append, args := #[s, x], argTypes := #[26, 9] }) (hb : Buf w base v l) (hbase : base ≤ w.heap.size) (str : ByteArray) (h0 : 0 < l.length) (hl : l.length + str.size ≤ 1000000)
    (hs : a.eval s = v) (hx : a.eval x = .string str)
    (h : ∀ v' w', Buf w' base v' (l ++ str.data.toList) → Onto w v w' v' → K (a.put o.dst v') w') : o.wp Try.prog a w K Q := by
  obtain ⟨v', w', hr, h1, h2⟩ := run_str o.type hb hbase str h0 hl
  unfold Oper.wp execOp
  simp only [ho, resolve, invoke, builtin, Sem.run_bind, Sem.run_pure, Result.andThen_ok, List.map_toArray, List.map_cons, List.map_nil, hs, hx, hr]
  exact h v' w' h1 h2

theorem put_str {ops : Array Oper} {rest : List Oper} {o : Oper} {a : Act} {Q : Exit → Act → World → Prop} {w : World} {base : Nat} {v : Value} {l : List UInt8} (hgd : o.guard = none) (s x : Operand)
    (ho : o.op = .call { callee := .builtin .append, args := #[s, x], argTypes := #[26, 9] }) (hb : Buf w base v l) (hbase : base ≤ w.heap.size) (str : ByteArray) (h0 : 0 < l.length) (hl : l.length + str.size ≤ 1000000)
    (hs : a.eval s = v) (hx : a.eval x = .string str)
    (h : ∀ v' w', Buf w' base v' (l ++ str.data.toList) → Onto w v w' v' → wpList Try.prog ops Q rest (a.put o.dst v') w') : wpList Try.prog ops Q (o :: rest) a w :=
  wpList_plain hgd fun K hK => wp_put_str s x ho hb hbase str h0 hl hs hx fun v' w' h1 h2 => hK _ _ (h v' w' h1 h2)

theorem step_put_str {ops : Array Oper} {o : Oper} {a : Act} {K : Act → World → Prop} {Q : Exit → Act → World → Prop} {E : Prop} {w : World} {base : Nat} {v : Value} {l : List UInt8} (hgd : o.guard = none) (s x : Operand)
    (ho : o.op = .call { callee := .builtin .append, args := #[s, x], argTypes := #[26, 9] }) (hb : Buf w base v l) (hbase : base ≤ w.heap.size) (str : ByteArray) (h0 : 0 < l.length) (hl : l.length + str.size ≤ 1000000)
    (hs : a.eval s = v) (hx : a.eval x = .string str)
    (h : ∀ v' w', Buf w' base v' (l ++ str.data.toList) → Onto w v w' v' → K (a.put o.dst v') w') : if Region.wanted o (yielded ops a.tmps) = true then Oper.wp Try.prog o a w K Q else E := by
  have hw : Region.wanted o (yielded ops a.tmps) = true := by simp [Region.wanted, hgd]
  rw [if_pos hw]
  exact wp_put_str s x ho hb hbase str h0 hl hs hx h

def putRel (v0 : Value) (base : Nat) (l : List UInt8) (n size : Nat) (W : World) (m : Nat) (a' : Act) (w' : World) : Prop :=
  ∃ (s : Nat) (v : Value) (u7 u8 u9 u10 u11 u12 u13 u14 u15 u16 u17 u18 u19 : Value), Onto W v0 w' v ∧ a' = { tmps := #[v, .int .u64 n, .int .i64 s, undef, undef, undef, .slice none 0 0, u7, u8, u9, u10, u11, u12, u13, u14, u15, u16, u17, u18, u19], defers := [] } ∧ s ≤ size ∧ s = m ∧ Buf w' base v (l ++ (be size n).take (size - s))

set_option maxRecDepth 100000 in
set_option maxHeartbeats 4000000 in
theorem putNum_any (base : Nat) (v : Value) (l : List UInt8) (n size : Nat) (hn : n < 18446744073709551616) (hsz : size ≤ 8) (w : World) (hb : Buf w base v l) (hbase : base ≤ w.heap.size) (hl : l.length ≤ 100000) :
    Calls Try.prog 21 #[v, .int .u64 n, .int .i64 size] w fun e w' => ∃ v', e = .returned v' ∧ Buf w' base v' (l ++ be size n) ∧ Onto w v w' v' := by
  have HN := Lib.hid hn
  clear hn
  go_enter Try.func21, Try.ntmps21
  go_wp2
  refine wp_scope_ghost 0 (putRel v base l n size w) rfl ?_ ?_
  · intro H hb'
    go_wp2
    go_step3
    rename_i hK
    refine hK _ _ (hb' size _ _ ⟨size, v, ?_⟩)
    repeat apply Exists.intro
    exact ⟨Onto.refl _ _, rfl, Nat.le_refl _, rfl, by simpa using hb⟩
  · rintro m a' w' ⟨s, v1, u7, u8, u9, u10, u11, u12, u13, u14, u15, u16, u17, u18, u19, hon, rfl, hs, rfl, hbuf⟩ H hH
    by_cases h0 : 0 < s
    · have HB := Lib.hid hbuf
      have HS := Lib.hid (be_step (n := n) h0 hs)
      clear hbuf
      have hle : (l ++ (be size n).take (size - s)).length ≤ 1000000 := by simp; omega
      go_wp2_with (at_builtin; refine put_one rfl (.tmp 11) (.tmp 17) rfl HB.out (Nat.le_trans hbase hon.grew.size) hle (UInt8.ofNat (n / 2 ^ (8 * (s - 1)) % 256)) (by simp) rfl _ rfl rfl ?_; intro v2 w2 hb2 hon2; have HB2 := Lib.hid hb2; clear hb2)
      go_step3
      refine ⟨rfl, hH (s - 1) _ _ (by omega) ⟨s - 1, v2, ?_⟩⟩
      repeat apply Exists.intro
      refine ⟨hon.trans hon2, ?_, by omega, rfl, ?_⟩
      · rw [show ((s - 1 : Nat) : Int) = (s : Int) - 1 by omega]
      · rw [HS.out, ← List.append_assoc]; exact HB2.out
    · go_wp2
      simp only [Exit.jump]
      go_ret
      obtain rfl : s = 0 := by omega
      rw [Nat.sub_zero, List.take_of_length_le (by simp)] at hbuf
      exact ⟨_, rfl, hbuf, hon⟩

/-- block g is just these cells, of bytes. -/
def Row8 (w : World) (g : Nat) (cs : List Value) : Prop := w.heap[g]? = some (.cells cs.toArray 5 (0, 0))

theorem lay_one {ops : Array Oper} {rest : List Oper} {o : Oper} {a : Act} {Q : Exit → Act → World → Prop} {w : World} {g n cap : Nat} {cs : List Value} {z : Int} (hgd : o.guard = none) (s x : Operand)
    (ho : o.op = .call { callee := .builtin .append, args := #[s, x], argTypes := #[26, 26] }) (hb : Row8 w g cs) (hn : n < cap) (hc : cap ≤ cs.length)
    (hs : a.eval s = .slice (some ⟨g, 0, none⟩) n cap) (hx : a.eval x = .slice (some ⟨w.heap.size, 0, none⟩) 1 1)
    (h : ∀ w', Row8 w' g (cs.take n ++ [.int .u8 z] ++ cs.drop (n + 1)) → w.grownBy w' (some g) → wpList Try.prog ops Q rest (a.put o.dst (.slice (some ⟨g, 0, none⟩) (n + 1) cap)) w') :
    wpList Try.prog ops Q (o :: rest) a (w.alloc (.cells #[.int .u8 z] 5)) := by
  obtain ⟨i0, hi, hz0, hz1, hz2⟩ := info_parts u8_info
  have hlt : g < w.heap.size := (Array.getElem?_eq_some_iff.1 hb).1
  have hg : (w.alloc (.cells #[.int .u8 z] 5)).heap[g]? = some (.cells cs.toArray 5 (0, 0)) := (Below.heap_alloc w _ g hlt).trans hb
  have hr := run_append_room (P := Try.prog) (w.alloc (.cells #[.int .u8 z] 5)) 26 o.type 5 i0 Try.underlying26 hi g n cap cs.toArray hg ⟨w.heap.size, 0, none⟩ 1 1 [.int .u8 z] (by simp [hz1]) (cell_one_new _ _ _) (by simp [Value.oneCell']) (by omega) (by rw [hz1]; simp; omega)
  refine wpList_plain hgd fun K hK => ?_
  unfold Oper.wp execOp
  simp only [ho, resolve, invoke, builtin, Sem.run_bind, Sem.run_pure, Result.andThen_ok, List.map_toArray, List.map_cons, List.map_nil, hs, hx, hr]
  refine hK _ _ (h _ ?_ ?_)
  · unfold Row8
    rw [setRow_heap _ _ _ _ _ _ hg]
    simp [hz1]
  · refine ⟨rfl, rfl, rfl, by simp [World.setRow], fun k hk hne => ?_⟩
    rw [setRow_other _ _ _ _ (fun e => hne (by rw [e]))]
    exact Below.heap_alloc w _ k hk

def layRel (g cap start : Nat) (cs : List Value) (n size : Nat) (W : World) (m : Nat) (a' : Act) (w' : World) : Prop :=
  W.grownBy w' (some g) ∧ ∃ (s : Nat) (u7 u8 u9 u10 u11 u12 u13 u14 u15 u16 u17 u18 u19 : Value), a' = { tmps := #[.slice (some ⟨g, 0, none⟩) (start + (size - s) : Nat) cap, .int .u64 n, .int .i64 s, undef, undef, undef, .slice none 0 0, u7, u8, u9, u10, u11, u12, u13, u14, u15, u16, u17, u18, u19], defers := [] } ∧ s ≤ size ∧ s = m ∧
    Row8 w' g (cs.take start ++ cellsOf ((be size n).take (size - s)) ++ cs.drop (start + (size - s)))

theorem lay_step {cs bs : List Value} {start k : Nat} {u : Value} (hb : bs.length = k) (hk : start + k < cs.length) :
    (cs.take start ++ bs ++ cs.drop (start + k)).take (start + k) ++ [u] ++ (cs.take start ++ bs ++ cs.drop (start + k)).drop (start + k + 1) = cs.take start ++ (bs ++ [u]) ++ cs.drop (start + (k + 1)) := by
  have hl : (cs.take start ++ bs).length = start + k := by simp; omega
  have hd : (cs.take start ++ bs ++ cs.drop (start + k)).drop (start + k + 1) = cs.drop (start + (k + 1)) := by
    rw [List.drop_append, List.drop_eq_nil_of_le (by omega), hl, List.drop_drop, List.nil_append]
    congr 1
    omega
  rw [List.take_left' hl, hd]
  simp [List.append_assoc]

set_option maxRecDepth 100000 in
set_option maxHeartbeats 4000000 in
theorem putNum_in (g cap start : Nat) (cs : List Value) (n size : Nat) (hn : n < 18446744073709551616) (hsz : size ≤ 8) (w : World) (hb : Row8 w g cs) (hc : cap = cs.length) (hfit : start + size ≤ cap) (hl : cap ≤ maxLen) :
    Calls Try.prog 21 #[.slice (some ⟨g, 0, none⟩) start cap, .int .u64 n, .int .i64 size] w fun e w' => ∃ v', e = .returned v' ∧ Row8 w' g (cs.take start ++ cellsOf (be size n) ++ cs.drop (start + size)) ∧ w.grownBy w' (some g) := by
  have HN := Lib.hid hn
  have HC := Lib.hid hc
  have HL := Lib.hid hl
  clear hn hc hl
  go_enter Try.func21, Try.ntmps21
  go_wp2
  refine wp_scope_ghost 0 (layRel g cap start cs n size w) rfl ?_ ?_
  · intro H hb'
    go_wp2
    go_step3
    rename_i hK
    refine hK _ _ (hb' size _ _ ⟨GrownBy.refl _ _, size, ?_⟩)
    repeat apply Exists.intro
    refine ⟨?_, Nat.le_refl _, rfl, ?_⟩
    · rw [Nat.sub_self, Nat.add_zero]
    · rw [Nat.sub_self, Nat.add_zero, List.take_zero]
      simpa [cellsOf] using hb
  · rintro m a' w' ⟨hbel, s, u7, u8, u9, u10, u11, u12, u13, u14, u15, u16, u17, u18, u19, rfl, hs, rfl, hbuf⟩ H hH
    by_cases h0 : 0 < s
    · have HB := Lib.hid hbuf
      have HS := Lib.hid (be_step (n := n) h0 hs)
      clear hbuf
      obtain ⟨k, hk⟩ : ∃ k, k = start + (size - s) := ⟨_, rfl⟩
      rw [← hk]
      have hkc : k < cap := by omega
      have HK := Lib.hid hk
      clear hk
      have hle : cap ≤ (cs.take start ++ cellsOf ((be size n).take (size - s)) ++ cs.drop (start + (size - s))).length := by
        have := HC.out
        simp
        omega
      have HLE := Lib.hid hle
      clear hle
      go_wp2_with (at_builtin; refine lay_one rfl (.tmp 11) (.tmp 17) rfl HB.out hkc HLE.out rfl rfl ?_; intro w2 hb2 hg2; have HB2 := Lib.hid hb2; clear hb2)
      go_step3
      refine ⟨rfl, hH (s - 1) _ _ (by omega) ⟨GrownBy.trans hbel hg2, s - 1, ?_⟩⟩
      repeat apply Exists.intro
      refine ⟨?_, by omega, rfl, ?_⟩
      · have := HK.out
        rw [show ((s - 1 : Nat) : Int) = (s : Int) - 1 by omega, show start + (size - (s - 1)) = k + 1 by omega]
      · have h2 := HB2.out
        have hk := HK.out
        subst hk
        rw [lay_step (by simp) (by have := HC.out; omega)] at h2
        rw [HS.out, cellsOf_append, show size - (s - 1) = size - s + 1 by omega]
        have he : (cellsOf [UInt8.ofNat (n / 2 ^ (8 * (s - 1)) % 256)]) = [.int .u8 ((n : Int) / 2 ^ (8 * (s - 1)) % 256)] := by
          simp [cellsOf]
        rw [he]
        exact h2
    · go_wp2
      simp only [Exit.jump]
      go_ret
      obtain rfl : s = 0 := by omega
      rw [Nat.sub_zero, List.take_of_length_le (show (be size n).length ≤ size by simp)] at hbuf
      exact ⟨_, rfl, hbuf, hbel⟩

set_option maxRecDepth 100000 in
set_option maxHeartbeats 4000000 in
theorem putText_any (base : Nat) (v : Value) (l : List UInt8) (s : ByteArray) (size : Nat) (h1 : 1 ≤ size) (hsz : size ≤ 8) (w : World) (hb : Buf w base v l) (hbase : base ≤ w.heap.size) (hl : l.length ≤ 100000) (hs : s.size ≤ 100000) :
    Calls Try.prog 57 #[v, .string s, .int .i64 size] w fun e w' => ∃ v', e = .returned v' ∧ Buf w' base v' (l ++ (be size s.size ++ s.data.toList)) ∧ Onto w v w' v' := by
  have HB := Lib.hid hb
  have hs2 : IntKind.u64.wrap (s.size : Int) = ((s.size : Nat) : Int) := by rw [IntKind.wrap_u64]; omega
  clear hb
  go_enter Try.func57, Try.ntmps57
  go_wp2_with fail
  refine (putNum_any base v l s.size size (by omega) hsz _ HB.out hbase hl).mono ?_
  rintro e w2 ⟨v2, rfl, hb2, hon2⟩
  have HB2 := Lib.hid hb2
  have HO2 := Lib.hid hon2
  have hz2 := hon2.grew.size
  have h0 : 0 < (l ++ be size s.size).length := by simp; omega
  have hl2 : (l ++ be size s.size).length + s.size ≤ 1000000 := by simp; omega
  clear hb2 hon2
  go_wp2_with (at_builtin; refine put_str rfl (.tmp 12) (.tmp 13) rfl HB2.out (Nat.le_trans hbase hz2) s h0 hl2 rfl rfl ?_; intro v3 w3 hb3 hon3; have HB3 := Lib.hid hb3; have HO3 := Lib.hid hon3; clear hb3 hon3)
  go_ret
  have hb3 := HB3.out
  rw [List.append_assoc] at hb3
  exact ⟨_, rfl, hb3, HO2.out.trans HO3.out⟩

end Go.Proofs.Ytjnnpgmgjdhfjaa

namespace Go.Proofs.Ytjnnpgmgjdhfjaa
open Go.RowKit
set_option linter.unusedVariables false

variable {T : TypeId} {B : Nat}
/-- the reader (of type T, that holds it first) in block g: what is left, and whether it is bad. -/
def Rd (T : TypeId) (B : Nat) (w : World) (g : Nat) (l : List UInt8) (bad : Bool) : Prop := ∃ v, w.heap[g]? = some (.cells #[v, .bool bad] T (0, 0)) ∧ BytesIn B w v l

theorem rd_ne {v : Value} {a : Option Addr} {n c : Nat} (hv : v = .slice a n c) (bad : Bool) : ∀ (i : Nat) (m : Int), (#[v, .bool bad] : Array Value)[i]? ≠ some (.int .u8 m) := by
  intro i m
  subst hv
  match i with
  | 0 => simp
  | 1 => simp
  | i + 2 => simp

def TakeP (T : TypeId) (B : Nat) (g n : Nat) (l : List UInt8) (bad : Bool) (w : World) (e : Ending) (w' : World) : Prop :=
  ∃ v, e = .returned v ∧ BytesIn B w' v (takeP n l).1 ∧ Rd T B w' g (takeP n l).2.1 (bad || (takeP n l).2.2) ∧ w.grownBy w' (some g)

set_option maxRecDepth 100000 in
set_option maxHeartbeats 4000000 in
theorem take_any (g n : Nat) (hn : n < 18446744073709551616) (l : List UInt8) (bad : Bool) (w : World) (hr : Rd T B w g l bad) :
    Calls Try.prog 75 #[.pointer (some ⟨g, 0, none⟩), .int .u64 n] w (TakeP T B g n l bad w) := by
  obtain ⟨v, hg, a, cap, rfl, hlc, hcm, hat⟩ := hr
  have c0 : w.cell? ⟨g, 0, none⟩ = some (.slice a l.length cap) := by rw [cell_of_row w _ _ _ _ _ hg]; rfl
  have c1 : w.cell? ⟨g, 1, none⟩ = some (.bool bad) := by rw [cell_of_row w _ _ _ _ _ hg]; rfl
  have f0 : w.frozen? ⟨g, 0, none⟩ = false := by simp [World.frozen?, hg]
  have f1 : w.frozen? ⟨g, 1, none⟩ = false := by simp [World.frozen?, hg]
  unfold maxLen at hcm
  have hw : IntKind.u64.wrap (l.length : Int) = ((l.length : Nat) : Int) := by rw [IntKind.wrap_u64]; omega
  have HAT := Lib.hid hat
  have HG := Lib.hid hg
  have HN := Lib.hid hn
  clear hat hg hn
  by_cases h : l.length < n
  · go_enter Try.func75, Try.ntmps75
    go_wp2
    go_ret
    have hg1 := set_heap (set_heap HG.out 0 (.slice none 0 0)) 1 (.bool true)
    have hp : takeP n l = ([], [], true) := by unfold takeP; rw [if_pos h]
    refine ⟨_, rfl, ?_, ⟨.slice none 0 0, ?_, ?_⟩, GrownBy.trans (set_grown _ _ _ _) (set_grown _ _ _ _)⟩
    · rw [hp]; exact BytesIn.nil _
    · rw [hg1, hp]; simp
    · rw [hp]; exact BytesIn.nil _
  · have i0 : (0 : Int) ≤ (n : Int) := by omega
    have i1 : (n : Int) ≤ (cap : Int) := by omega
    have i2 : (n : Int) ≤ (l.length : Int) := by omega
    have hp : takeP n l = (l.take n, l.drop n, false) := by unfold takeP; rw [if_neg h]
    have HP := Lib.hid hp
    clear hp
    have hl1 : (l.take n).length = n := by simp; omega
    have hl2 : (l.drop n).length = l.length - n := by simp
    have HL1 := Lib.hid hl1
    have HL2 := Lib.hid hl2
    clear hl1 hl2
    have hat : ∀ u, BytesAt B (w.setCell ⟨g, 0, none⟩ u) a l := fun u => HAT.out.other HG.out (rd_ne rfl bad) (set_grown _ _ _ _)
    have HA := Lib.hid hat
    clear hat
    by_cases hcn : cap = n
    · subst hcn
      go_enter Try.func75, Try.ntmps75
      go_wp2
      go_ret
      have hp := HP.out
      have hl1 := HL1.out
      have hl2 := HL2.out
      refine ⟨_, rfl, ?_, ⟨.slice a 0 0, ?_, ?_⟩, set_grown _ _ _ _⟩
      · rw [hp]; show BytesIn _ _ _ (l.take _); exact ⟨a, cap, by rw [hl1]; rfl, by omega, by unfold maxLen; omega, (HA.out _).take cap⟩
      · rw [set_heap HG.out, hp]; simp
      · rw [hp]; show BytesIn _ _ _ (l.drop _); exact ⟨a, 0, by rw [hl2, show l.length - cap = 0 by omega], by omega, by unfold maxLen; omega, fun h0 => by omega⟩
    · go_enter Try.func75, Try.ntmps75
      go_wp2
      go_ret
      have hp := HP.out
      have hl1 := HL1.out
      have hl2 := HL2.out
      refine ⟨_, rfl, ?_, ⟨.slice (a.map (·.add n)) (l.length - n) (cap - n), ?_, ?_⟩, set_grown _ _ _ _⟩
      · rw [hp]; show BytesIn _ _ _ (l.take _); exact ⟨a, cap, by rw [hl1]; rfl, by omega, by unfold maxLen; omega, (HA.out _).take n⟩
      · rw [set_heap HG.out, hp]; simp
      · rw [hp]
        show BytesIn _ _ _ (l.drop n)
        refine ⟨_, cap - n, by rw [hl2], by omega, by unfold maxLen; omega, fun h0 => ?_⟩
        obtain ⟨b, o, rfl, _, hc⟩ := HAT.out (by omega)
        rw [Option.map_some, add_at]
        exact BytesAt.drop (HA.out _) n h0

theorem or_byte64 (m : Nat) (c : UInt8) (hm : m < 72057594037927936) : bits .or .u64 (IntKind.u64.wrap ((m : Int) * 256)) (IntKind.u64.wrap (c.toNat : Int)) = ((m * 256 + c.toNat : Nat) : Int) := by
  have hc : c.toNat < 256 := c.toNat_lt
  rw [show IntKind.u64.wrap ((m : Int) * 256) = ((m * 256 : Nat) : Int) by rw [IntKind.wrap_u64]; omega, show IntKind.u64.wrap (c.toNat : Int) = ((c.toNat : Nat) : Int) by rw [IntKind.wrap_u64]; omega]
  rw [bits_or_u64_nat _ _ (by omega) (by omega)]
  congr 1
  rw [show m * 256 = m <<< 8 by rw [Nat.shiftLeft_eq], ← Nat.shiftLeft_add_eq_or_of_lt (by omega)]

def numRel (T : TypeId) (B : Nat) (w : World) (g k : Nat) (l : List UInt8) (bad : Bool) (m : Nat) (a' : Act) (w' : World) : Prop :=
  (Rd T B w' g (numP k l).2.1 (bad || (numP k l).2.2) ∧ w.grownBy w' (some g)) ∧ ∃ (a : Option Addr) (c : Nat) (dn rs : List UInt8) (u7 u8 u9 u10 u11 u12 u13 u14 u15 u16 u17 u18 u19 u20 u21 u22 u23 : Value), a' = { tmps := #[.pointer (some ⟨g, 0, none⟩), .int .i64 k, undef, undef, .int .u64 0, .slice a rs.length c, .int .u64 (de dn : Nat), u7, u8, u9, u10, u11, u12, u13, u14, u15, u16, u17, u18, u19, u20, u21, u22, u23], defers := [] } ∧
    m = rs.length ∧ (takeP k l).1 = dn ++ rs ∧ rs.length ≤ c ∧ c ≤ maxLen ∧ BytesAt B w' a rs

set_option maxRecDepth 100000 in
set_option maxHeartbeats 4000000 in
theorem number_any (g k : Nat) (hk : k ≤ 8) (l : List UInt8) (bad : Bool) (w : World) (hr : Rd T B w g l bad) :
    Calls Try.prog 65 #[.pointer (some ⟨g, 0, none⟩), .int .i64 k] w fun e w' => e = .returned (.int .u64 (numP k l).1) ∧ Rd T B w' g (numP k l).2.1 (bad || (numP k l).2.2) ∧ w.grownBy w' (some g) := by
  have HR := Lib.hid hr
  clear hr
  have htl : (takeP k l).1.length ≤ 8 := by
    unfold takeP; split
    · simp
    · simp; omega
  go_enter Try.func65, Try.ntmps65
  go_wp2
  refine wp_scope_ghost 0 (numRel T B w g k l bad) rfl ?_ ?_
  · intro H hb'
    have HBK := Lib.hid hb'
    clear hb'
    go_wp2_with fail
    refine (take_any g k (by omega) l bad _ HR.out).mono ?_
    rintro e w1 ⟨v1, rfl, ⟨a1, c1, rfl, hlc1, hcm1, hat1⟩, hr1, hg1⟩
    have HR1 := Lib.hid hr1
    have HA1 := Lib.hid hat1
    have HG1 := Lib.hid hg1
    clear hr1 hat1 hg1
    go_wp2_with fail
    go_step3
    rename_i hK
    refine hK _ _ (HBK.out (takeP k l).1.length _ _ ⟨⟨HR1.out, HG1.out⟩, a1, c1, [], (takeP k l).1, ?_⟩)
    repeat apply Exists.intro
    exact ⟨rfl, rfl, rfl, hlc1, hcm1, HA1.out⟩
  · rintro m a' w' ⟨⟨hr1, hg1⟩, a, c, dn, rs, u7, u8, u9, u10, u11, u12, u13, u14, u15, u16, u17, u18, u19, u20, u21, u22, u23, rfl, rfl, hds, hrc, hcm, hat⟩ H hH
    have HR1 := Lib.hid hr1
    have HG1 := Lib.hid hg1
    have HDS := Lib.hid hds
    have HA := Lib.hid hat
    unfold maxLen at hcm
    have hl8 : dn.length + rs.length ≤ 8 := by rw [hds] at htl; simpa using htl
    clear hr1 hg1 hds hat
    cases rs with
    | nil =>
      simp only [List.length_nil] at *
      go_wp2
      simp only [Exit.jump]
      go_ret
      have hds := HDS.out
      rw [List.append_nil] at hds
      exact ⟨by rw [show (numP k l).1 = de (takeP k l).1 from rfl, hds]; rfl, HR1.out, HG1.out⟩
    | cons x r =>
      obtain ⟨b, o, rfl, _, hc⟩ := HA.out (by simp)
      have h0 := hc 0 (by simp)
      simp only [Nat.add_zero, List.getElem_cons_zero] at h0
      have hdl := de_lt dn
      simp only [List.length_cons] at *
      clear hc
      have hm56 : de dn < 72057594037927936 := Nat.lt_of_lt_of_le hdl (by
        have : dn.length ≤ 7 := by omega
        exact (show (256 : Nat) ^ dn.length ≤ 256 ^ 7 from Nat.pow_le_pow_right (by decide) this))
      have HO := Lib.hid (or_byte64 (de dn) x hm56)
      have HDN := Lib.hid (de_snoc dn x)
      clear hdl hm56
      by_cases hc1 : c = 1
      · subst hc1
        obtain rfl : r = [] := List.eq_nil_of_length_eq_zero (by omega)
        go_wp2
        go_step3
        refine ⟨rfl, hH 0 _ _ (by simp) ⟨⟨HR1.out, HG1.out⟩, some ⟨b, o, none⟩, 0, dn ++ [x], [], ?_⟩⟩
        repeat apply Exists.intro
        refine ⟨?_, rfl, by rw [HDS.out]; simp, by simp, by simp [maxLen], fun h => by simp at h⟩
        rw [HDN.out, ← HO.out]
        rfl
      · go_wp2
        go_step3
        refine ⟨rfl, hH r.length _ _ (by omega) ⟨⟨HR1.out, HG1.out⟩, some ⟨b, o + 1, none⟩, c - 1, dn ++ [x], r, ?_⟩⟩
        repeat apply Exists.intro
        refine ⟨?_, rfl, by rw [HDS.out]; simp, by omega, by unfold maxLen; omega, by simpa using BytesAt.drop HA.out 1⟩
        rw [HDN.out, ← HO.out]

theorem numP_lt64 (k : Nat) (hk : k ≤ 8) (l : List UInt8) : (numP k l).1 < 18446744073709551616 := by
  have h := de_lt (takeP k l).1
  have h8 : (takeP k l).1.length ≤ 8 := by
    unfold takeP; split
    · simp
    · simp; omega
  exact Nat.lt_of_lt_of_le h (show (256 : Nat) ^ (takeP k l).1.length ≤ 256 ^ 8 from Nat.pow_le_pow_right (by decide) h8)

set_option maxRecDepth 100000 in
set_option maxHeartbeats 4000000 in
theorem counted_any (g k : Nat) (hk : k ≤ 8) (l : List UInt8) (bad : Bool) (w : World) (hr : Rd T B w g l bad) :
    Calls Try.prog 66 #[.pointer (some ⟨g, 0, none⟩), .int .i64 k] w fun e w' => ∃ v, e = .returned v ∧ BytesIn B w' v (cntP k l).1 ∧ Rd T B w' g (cntP k l).2.1 (bad || (cntP k l).2.2) ∧ w.grownBy w' (some g) := by
  have HR := Lib.hid hr
  clear hr
  go_enter Try.func66, Try.ntmps66
  go_wp2_with fail
  refine (number_any g k hk l bad _ HR.out).mono ?_
  rintro e w1 ⟨rfl, hr1, hg1⟩
  have HR1 := Lib.hid hr1
  have HG1 := Lib.hid hg1
  clear hr1 hg1
  go_wp2_with fail
  refine (take_any g _ (numP_lt64 k hk l) _ _ _ HR1.out).mono ?_
  rintro e w2 ⟨v2, rfl, hb2, hr2, hg2⟩
  have HB2 := Lib.hid hb2
  have HR2 := Lib.hid hr2
  have HG2 := Lib.hid (GrownBy.trans HG1.out hg2)
  clear hb2 hr2 hg2
  go_wp2_with fail
  go_ret
  refine ⟨_, rfl, HB2.out, ?_, HG2.out⟩
  have := HR2.out
  rw [Bool.or_assoc] at this
  exact this

theorem num1_lt (l : List UInt8) : (numP 1 l).1 < 256 := by
  have h := de_lt (takeP 1 l).1
  have h1 : (takeP 1 l).1.length ≤ 1 := by
    unfold takeP; split
    · simp
    · simp; omega
  exact Nat.lt_of_lt_of_le h (show (256 : Nat) ^ (takeP 1 l).1.length ≤ 256 ^ 1 from Nat.pow_le_pow_right (by decide) h1)

theorem Rd.lt {w : World} {g : Nat} {l : List UInt8} {bad : Bool} (h : Rd T B w g l bad) : g < w.heap.size := by
  obtain ⟨v, h, _⟩ := h
  exact (Array.getElem?_eq_some_iff.1 h).1

theorem Rd.alloc {w : World} {g : Nat} {l : List UInt8} {bad : Bool} (h : Rd T B w g l bad) (o : Obj) : Rd T B (w.alloc o) g l bad := by
  have hg := h.lt
  obtain ⟨v, h, a, cap, hv, h1, h2, h3⟩ := h
  exact ⟨v, (Below.heap_alloc w _ g hg).trans h, a, cap, hv, h1, h2, h3.below ((Below.refl _ _).alloc (Nat.le_refl _) _)⟩

theorem cells4 {w : World} {g : Nat} {k n s v : Value} {t : TypeId} (h : w.heap[g]? = some (.cells #[k, n, s, v] t (0, 0))) :
    (w.cell? ⟨g, 0, none⟩ = some k ∧ w.cell? ⟨g, 1, none⟩ = some n ∧ w.cell? ⟨g, 2, none⟩ = some s ∧ w.cell? ⟨g, 3, none⟩ = some v) ∧ w.frozen? ⟨g, 0, none⟩ = false ∧ w.frozen? ⟨g, 1, none⟩ = false ∧ w.frozen? ⟨g, 2, none⟩ = false ∧ w.frozen? ⟨g, 3, none⟩ = false := by
  refine ⟨⟨?_, ?_, ?_, ?_⟩, ?_, ?_, ?_, ?_⟩
  all_goals first | (rw [cell_of_row w _ _ _ _ _ h]; rfl) | simp [World.frozen?, h]

/-- two boxes, one made at the beginning and one later, behind a call that wrote block g alone. -/
theorem two_boxes {w w1 w2 : World} {g : Nat} {o1 o2 : Obj} (hg : g < w.heap.size) (h1 : (w.alloc o1).grownBy w1 (some g)) (h2 : (w1.alloc o2).grownBy w2 (some g)) :
    w2.heap[w.heap.size]? = some o1 ∧ w2.heap[w1.heap.size]? = some o2 ∧ w.heap.size < w1.heap.size ∧ w1.heap.size < w2.heap.size ∧ w.grownBy w2 (some g) := by
  have s1 := h1.size
  have s2 := h2.size
  simp at s1 s2
  refine ⟨?_, ?_, by omega, by omega, ?_⟩
  · rw [h2.block _ (by simp; omega) (by intro e; cases e; omega), Below.heap_alloc w1 _ _ (by omega), h1.block _ (by simp) (by intro e; cases e; omega)]
    exact heap_alloc_new w _
  · rw [h2.block _ (by simp) (by intro e; cases e; omega)]
    exact heap_alloc_new w1 _
  · refine ⟨h2.os.trans h1.os, h2.tape.trans h1.tape, h2.output.trans h1.output, by omega, fun k hk hne => ?_⟩
    rw [h2.block k (by simp; omega) hne, Below.heap_alloc w1 _ _ (by omega), h1.block k (by simp; omega) hne, Below.heap_alloc w _ _ hk]

theorem set_later {w w2 : World} {g b i : Nat} {u : Value} (h : w.grownBy w2 (some g)) (hb : w.heap.size ≤ b) : w.grownBy (w2.setCell ⟨b, i, none⟩ u) (some g) :=
  ⟨h.os, h.tape, h.output, by simpa [World.setCell] using h.size, fun k hk hne => (Below.heap_setCell w2 ⟨b, i, none⟩ u k (by simp; omega)).trans (h.block k hk hne)⟩

/-- stores into two boxes leave a reader as it was. -/
theorem Rd.stores {w w' : World} {g A C : Nat} {l : List UInt8} {bad : Bool} {ca cb : Array Value} {ta tb : TypeId} {fa fb : Nat × Nat} (h : Rd T B w g l bad) (hA : w.heap[A]? = some (.cells ca ta fa)) (hB : w.heap[C]? = some (.cells cb tb fb))
    (na : ∀ (i : Nat) (n : Int), ca[i]? ≠ some (.int .u8 n)) (nb : ∀ (i : Nat) (n : Int), cb[i]? ≠ some (.int .u8 n)) (hk : ∀ b, b ≠ A → b ≠ C → w'.heap[b]? = w.heap[b]?) (gA : g ≠ A) (gB : g ≠ C) : Rd T B w' g l bad := by
  obtain ⟨v, h, a, cap, hv, h1, h2, h3⟩ := h
  refine ⟨v, (hk g gA gB).trans h, a, cap, hv, h1, h2, fun h0 => ?_⟩
  obtain ⟨b, o, ha, hbB, hc⟩ := h3 h0
  have e1 : b ≠ A := by
    rintro rfl
    have := hc 0 h0
    rw [cell_of_row w _ _ _ _ _ hA] at this
    exact na _ _ this
  have e2 : b ≠ C := by
    rintro rfl
    have := hc 0 h0
    rw [cell_of_row w _ _ _ _ _ hB] at this
    exact nb _ _ this
  exact ⟨b, o, ha, hbB, fun i hi => (World.cell?_of_block (w := w) (a := ⟨b, o + i, none⟩) (hk b e1 e2)).trans (hc i hi)⟩

theorem num_lt (k : Nat) (l : List UInt8) : (numP k l).1 < 256 ^ k := by
  have h := de_lt (takeP k l).1
  have h1 : (takeP k l).1.length ≤ k := by
    unfold takeP; split
    · simp
    · simp; omega
  exact Nat.lt_of_lt_of_le h (Nat.pow_le_pow_right (by decide) h1)

theorem Rd.frame {w w' : World} {g : Nat} {l : List UInt8} {bad : Bool} (h : Rd T B w g l bad) (hk : ∀ b, b < B → w'.heap[b]? = w.heap[b]?) (hg : w'.heap[g]? = w.heap[g]?) : Rd T B w' g l bad := by
  obtain ⟨v, h, a, cap, hv, h1, h2, h3⟩ := h
  refine ⟨v, hg.trans h, a, cap, hv, h1, h2, fun h0 => ?_⟩
  obtain ⟨b, o, ha, hbB, hc⟩ := h3 h0
  exact ⟨b, o, ha, hbB, fun i hi => (World.cell?_of_block (w := w) (a := ⟨b, o + i, none⟩) (hk b hbB)).trans (hc i hi)⟩

end Go.Proofs.Ytjnnpgmgjdhfjaa

namespace Go.Proofs.Ytjnnpgmgjdhfjaa
open Go.RowKit
set_option linter.unusedVariables false
variable {B : Nat}

/-- a frame as plain data. -/
structure Fr where
  kind : Int
  chan : Int
  data : List UInt8

def FitsN (k n m : Int) : Prop := (k = 8 ∧ n = 0) ∨ (¬ k = 8 ∧ 0 ≤ n ∧ n ≤ m)

def KindOk (k : Int) : Prop := k = 1 ∨ k = 2 ∨ k = 3 ∨ k = 8

def MayN (k c : Int) (n : Nat) : Prop := KindOk k ∧ FitsN k c 65535 ∧ FitsN k n 4096

def MayF (f : Fr) : Prop := MayN f.kind f.chan f.data.length

theorem fits_any (k n m : Int) (w : World) : Calls Try.prog 73 #[.int .i64 k, .int .i64 n, .int .i64 m] w (SaysW (FitsN k n m) w) := by
  by_cases h8 : k = 8
  · subst h8
    go_enter Try.func73, Try.ntmps73
    go_wp2_with fail
    go_ret
    exact ⟨_, by simp [FitsN], rfl, rfl⟩
  · have hb : (k == 8) = false := by simpa using h8
    by_cases h0 : 0 ≤ n
    · go_enter Try.func73, Try.ntmps73
      go_wp2_with fail
      go_ret
      exact ⟨_, by simp [FitsN, h8, h0], rfl, rfl⟩
    · go_enter Try.func73, Try.ntmps73
      go_wp2_with fail
      go_ret
      exact ⟨_, by simp [FitsN, h8]; omega, rfl, rfl⟩

theorem chan_any (k n : Int) (w : World) : Calls Try.prog 61 #[.int .i64 k, .int .i64 n] w (SaysW (FitsN k n 65535) w) := by
  go_enter Try.func61, Try.ntmps61
  go_wp2_with fail
  refine (fits_any k n 65535 _).mono ?_
  rintro e w' ⟨r, hr, rfl, rfl⟩
  go_wp2_with fail
  go_ret
  exact ⟨r, hr, rfl, rfl⟩

theorem length_any (k n : Int) (w : World) : Calls Try.prog 62 #[.int .i64 k, .int .i64 n] w (SaysW (FitsN k n 4096) w) := by
  go_enter Try.func62, Try.ntmps62
  go_wp2_with fail
  refine (fits_any k n 4096 _).mono ?_
  rintro e w' ⟨r, hr, rfl, rfl⟩
  go_wp2_with fail
  go_ret
  exact ⟨r, hr, rfl, rfl⟩

theorem frKind_any (k : Int) (w : World) : Calls Try.prog 60 #[.int .i64 k] w (SaysW (KindOk k) w) := by
  by_cases h1 : k = 1
  · subst h1
    go_enter Try.func60, Try.ntmps60
    go_wp2_with fail
    go_ret
    exact ⟨_, by simp [KindOk], rfl, rfl⟩
  by_cases h2 : k = 2
  · subst h2
    go_enter Try.func60, Try.ntmps60
    go_wp2_with fail
    go_ret
    exact ⟨_, by simp [KindOk], rfl, rfl⟩
  by_cases h3 : k = 3
  · subst h3
    go_enter Try.func60, Try.ntmps60
    go_wp2_with fail
    go_ret
    exact ⟨_, by simp [KindOk], rfl, rfl⟩
  by_cases h8 : k = 8
  · subst h8
    go_enter Try.func60, Try.ntmps60
    go_wp2_with fail
    go_ret
    exact ⟨_, by simp [KindOk], rfl, rfl⟩
  have b1 : (k == 1) = false := by simpa using h1
  have b2 : (k == 2) = false := by simpa using h2
  have b3 : (k == 3) = false := by simpa using h3
  have b8 : (k == 8) = false := by simpa using h8
  go_enter Try.func60, Try.ntmps60
  go_wp2_with fail
  go_ret
  exact ⟨_, by simp [KindOk, h1, h2, h3, h8], rfl, rfl⟩

theorem frMay_any (k c : Int) (a : Option Addr) (n cap : Nat) (w : World) : Calls Try.prog 40 #[.agg #[.int .i64 k, .int .i64 c, .slice a n cap]] w (SaysB (MayN k c n) w) := by
  go_enter Try.func40, Try.ntmps40
  go_wp2_with fail
  refine (frKind_any k _).mono ?_
  rintro e w' ⟨r, hr, rfl, rfl⟩
  have HR := Lib.hid hr
  clear hr
  cases r
  · go_wp2_with fail
    go_ret
    refine ⟨false, ?_, rfl, (Below.refl _ _).alloc (Nat.le_refl _) _⟩
    unfold MayN
    rw [← HR.out]
    simp
  go_wp2_with fail
  refine (chan_any k c _).mono ?_
  rintro e w' ⟨r, hr, rfl, rfl⟩
  have HR2 := Lib.hid hr
  clear hr
  cases r
  · go_wp2_with fail
    go_ret
    refine ⟨false, ?_, rfl, (Below.refl _ _).alloc (Nat.le_refl _) _⟩
    unfold MayN
    rw [← HR2.out]
    simp
  go_wp2_with fail
  refine (length_any k n _).mono ?_
  rintro e w' ⟨r, hr, rfl, rfl⟩
  have HR3 := Lib.hid hr
  clear hr
  go_wp2_with fail
  go_ret
  refine ⟨r, ?_, rfl, (Below.refl _ _).alloc (Nat.le_refl _) _⟩
  unfold MayN
  rw [← HR.out, ← HR2.out, ← HR3.out]
  simp

/-! ### own -/

theorem BytesAt.under {B : Nat} {w w' : World} {a : Option Addr} {l : List UInt8} (h : BytesAt B w a l) (hb : Below B w w') : BytesAt B w' a l := by
  intro h0
  obtain ⟨b, o, rfl, hbB, hc⟩ := h h0
  exact ⟨b, o, rfl, hbB, fun i hi => (hb.cell (p := ⟨b, o + i, none⟩) hbB).trans (hc i hi)⟩

theorem BytesAt.mono {B B' : Nat} {w : World} {a : Option Addr} {l : List UInt8} (h : BytesAt B w a l) (hb : B ≤ B') : BytesAt B' w a l := by
  intro h0
  obtain ⟨b, o, rfl, hbB, hc⟩ := h h0
  exact ⟨b, o, rfl, Nat.lt_of_lt_of_le hbB hb, hc⟩

theorem cells3 {w : World} {g : Nat} {k n s : Value} {t : TypeId} {fr : Nat × Nat} (h : w.heap[g]? = some (.cells #[k, n, s] t fr)) :
    w.cell? ⟨g, 0, none⟩ = some k ∧ w.cell? ⟨g, 1, none⟩ = some n ∧ w.cell? ⟨g, 2, none⟩ = some s := by
  refine ⟨?_, ?_, ?_⟩
  all_goals (rw [cell_of_row w _ _ _ _ _ h]; rfl)

theorem Buf.mono {w : World} {base base' : Nat} {v : Value} {l : List UInt8} (h : Buf w base v l) (hb : base' ≤ base) : Buf w base' v l := by
  refine ⟨h.1, ?_⟩
  rcases h.2 with h1 | ⟨g, cap, cur, hv, hbg, r⟩
  · exact .inl h1
  · exact .inr ⟨g, cap, cur, hv, by omega, r⟩

abbrev FZ := Fr × (Option Addr × Nat)

def fzc (z : FZ) : List Value := [.int .i64 z.1.kind, .int .i64 z.1.chan, .slice z.2.1 z.1.data.length z.2.2]

@[simp] theorem fzc_length (z : FZ) : (fzc z).length = 3 := rfl

theorem fzcs_length (zs : List FZ) : (zs.flatMap fzc).length = zs.length * 3 := by
  induction zs with
  | nil => rfl
  | cons z r ih => rw [List.flatMap_cons, List.length_append, ih, fzc_length, List.length_cons]; omega

theorem fzcs_get (zs : List FZ) : ∀ (i r : Nat) (h : i < zs.length) (hr : r < 3), (zs.flatMap fzc)[i * 3 + r]? = (fzc zs[i])[r]? := by
  induction zs with
  | nil => intro i r h; simp at h
  | cons z s ih =>
    intro i r h hr
    cases i with
    | zero =>
      rw [List.flatMap_cons, Nat.zero_mul, Nat.zero_add, List.getElem?_append_left (by simpa using hr)]
      rfl
    | succ i =>
      rw [List.flatMap_cons, List.getElem?_append_right (by simp; omega), fzc_length, show (i + 1) * 3 + r - 3 = i * 3 + r by omega]
      exact ih i r (by simpa using h) hr

def BytesOff (row : Option Nat) (w : World) (a : Option Addr) (l : List UInt8) : Prop := 0 < l.length → ∃ b o, a = some ⟨b, o, none⟩ ∧ b < w.heap.size ∧ row ≠ some b ∧ ∀ (i : Nat) (h : i < l.length), w.cell? ⟨b, o + i, none⟩ = some (.int .u8 l[i].toNat)

theorem BytesOff.at {row : Option Nat} {w : World} {a : Option Addr} {l : List UInt8} (h : BytesOff row w a l) : BytesAt w.heap.size w a l := by
  intro h0
  obtain ⟨b, o, ha, hb, _, hc⟩ := h h0
  exact ⟨b, o, ha, hb, hc⟩

theorem BytesOff.grown {row row' : Option Nat} {w w' : World} {a : Option Addr} {l : List UInt8} (h : BytesOff row w a l) (hg : w.grownBy w' row) (hr : ∀ g, row' = some g → row = some g ∨ w.heap.size ≤ g) : BytesOff row' w' a l := by
  intro h0
  obtain ⟨b, o, ha, hb, hne, hc⟩ := h h0
  refine ⟨b, o, ha, Nat.lt_of_lt_of_le hb hg.size, fun e => ?_, fun i hi => (World.cell?_of_block (w := w) (a := ⟨b, o + i, none⟩) (hg.block b hb (Ne.symm hne))).trans (hc i hi)⟩
  rcases hr b e with h1 | h1
  · exact hne h1
  · omega

theorem BytesOff.below {row : Option Nat} {w w' : World} {a : Option Addr} {l : List UInt8} (h : BytesOff row w a l) (hb : Below w.heap.size w w') : BytesOff row w' a l := by
  intro h0
  obtain ⟨b, o, ha, hlt, hne, hc⟩ := h h0
  exact ⟨b, o, ha, Nat.lt_of_lt_of_le hlt hb.size, hne, fun i hi => (hb.cell (p := ⟨b, o + i, none⟩) hlt).trans (hc i hi)⟩
structure FZOk (row : Option Nat) (w : World) (z : FZ) : Prop where
  dat : BytesOff row w z.2.1 z.1.data
  len : z.1.data.length ≤ z.2.2
  max : z.2.2 ≤ maxLen

/-- these frames, in a slice at a. -/
structure FrsAt (w : World) (a : Option Addr) (cap : Nat) (l : List Fr) : Prop where
  len : l.length ≤ cap
  max : cap ≤ maxLen
  get : ∀ (i : Nat) (h : i < l.length), ∃ b o da dc, a = some ⟨b, o, none⟩ ∧ b < w.heap.size ∧ w.cell? ⟨b, o + i * 3, none⟩ = some (.int .i64 l[i].kind) ∧ w.cell? ⟨b, o + i * 3 + 1, none⟩ = some (.int .i64 l[i].chan) ∧ w.cell? ⟨b, o + i * 3 + 2, none⟩ = some (.slice da l[i].data.length dc) ∧
    l[i].data.length ≤ dc ∧ dc ≤ maxLen ∧ BytesAt w.heap.size w da l[i].data

theorem FrsAt.below {w w' : World} {a : Option Addr} {cap : Nat} {l : List Fr} (h : FrsAt w a cap l) (hb : Below w.heap.size w w') : FrsAt w' a cap l := by
  refine ⟨h.len, h.max, fun i hi => ?_⟩
  obtain ⟨b, o, da, dc, ha, hlt, h0, h1, h2, h3, h4, h5⟩ := h.get i hi
  exact ⟨b, o, da, dc, ha, Nat.lt_of_lt_of_le hlt hb.size, (hb.cell hlt).trans h0, (hb.cell hlt).trans h1, (hb.cell hlt).trans h2, h3, h4, (h5.below hb).mono hb.size⟩

theorem frsAt_row {w : World} {base : Nat} {lv : Value} {zs : List FZ} (h : w.ownsRow base 36 3 lv zs.length (zs.flatMap fzc)) (hz : ∀ z ∈ zs, FZOk lv.ownBlock w z) :
    ∃ a cap, lv = .slice a (zs.map (·.1)).length cap ∧ FrsAt w a cap (zs.map (·.1)) := by
  rcases h.2 with ⟨rfl, hn⟩ | ⟨g, cap, cur, rfl, hbg, hg, hnc, hcm, hcs, htake⟩
  · obtain rfl : zs = [] := List.eq_nil_of_length_eq_zero hn
    exact ⟨none, 0, rfl, by simp, by simp [maxLen], fun i hi => by simp at hi⟩
  · refine ⟨some ⟨g, 0, none⟩, cap, by simp, by simpa using hnc, hcm, fun i hi => ?_⟩
    have hi' : i < zs.length := by simpa using hi
    have hc : ∀ r, r < 3 → w.cell? ⟨g, 0 + i * 3 + r, none⟩ = (fzc zs[i])[r]? := by
      intro r hr
      rw [← fzcs_get zs i r hi' hr, Nat.zero_add]
      have hlt : i * 3 + r < zs.length * 3 := by omega
      rw [cell_of_row w _ _ _ _ _ hg, ← htake, List.getElem?_take, if_pos hlt, Array.getElem?_toList]
    have hzi := hz _ (List.getElem_mem hi')
    refine ⟨g, 0, zs[i].2.1, zs[i].2.2, rfl, (Array.getElem?_eq_some_iff.1 hg).1, ?_, ?_, ?_, ?_, hzi.max, ?_⟩
    · rw [List.getElem_map]; exact hc 0 (by omega)
    · rw [List.getElem_map]; exact hc 1 (by omega)
    · rw [List.getElem_map]; exact hc 2 (by omega)
    · rw [List.getElem_map]; exact hzi.len
    · rw [List.getElem_map]; exact hzi.dat.at

theorem frame_info : (Try.prog.info? 36).map (fun i => (i.zero, i.size, i.bytes)) = some (some (.agg #[.int .i64 0, .int .i64 0, .slice none 0 0]), 3, 40) := by kernel_rfl

theorem put_frame {ops : Array Oper} {rest : List Oper} {o : Oper} {a : Act} {Q : Exit → Act → World → Prop} {w : World} {base : Nat} {v : Value} {zs : List FZ} {cs : Array Value} (z : FZ) (hgd : o.guard = none) (s x : Operand)
    (ho : o.op = .call { callee := .builtin .append, args := #[s, x], argTypes := #[30, 30] }) (hb : w.ownsRow base 36 3 v zs.length (zs.flatMap fzc)) (hbase : base ≤ w.heap.size) (hl : zs.length ≤ 1000000000) (hcs : cs = (fzc z).toArray)
    (hs : a.eval s = v) (H : Nat) (hH : w.heap.size = H) (hx : a.eval x = .slice (some ⟨H, 0, none⟩) 1 1)
    (h : ∀ g cap w', w'.ownsRow base 36 3 (.slice (some ⟨g, 0, none⟩) (zs.length + 1) cap) (zs ++ [z]).length ((zs ++ [z]).flatMap fzc) → w.grownBy w' v.ownBlock → (v.ownBlock = some g ∨ w.heap.size ≤ g) →
      wpList Try.prog ops Q rest (a.put o.dst (.slice (some ⟨g, 0, none⟩) (zs.length + 1) cap)) w') :
    wpList Try.prog ops Q (o :: rest) a (w.alloc (.cells cs 36)) := by
  subst hcs
  subst hH
  obtain ⟨i0, hi, hz0, hz1, hz2⟩ := info_parts frame_info
  have hb' := World.ownsRow.alloc hb (.cells (fzc z).toArray 36)
  have hone : ∀ u ∈ fzc z, u.oneCell' = true := by
    intro u hu
    simp only [fzc, List.mem_cons, List.not_mem_nil, or_false] at hu
    rcases hu with rfl | rfl | rfl <;> rfl
  refine wpList_append_lies _ hgd s x 30 ho base 36 i0 _ 3 40 Try.underlying30 hi hz0 hz1 hz2 rfl (by decide) v zs.length (zs.flatMap fzc) hs hb' ⟨w.heap.size, 0, none⟩ 1 1 (fzc z) hx (by simp) (World.news_of_block (heap_alloc_new w _)) hone (by decide) (by unfold maxLen; omega) (by omega) (by simp; omega) _ rfl ?_
  intro g cap w' hown hg hat hlt
  refine h g cap w' ?_ (alloc_before hg) ?_
  · rw [List.length_append, List.flatMap_append]
    simpa using hown
  · rcases hat with h1 | h1
    · exact .inl h1
    · exact .inr (by simp at h1; omega)

theorem BytesAt.dropm {w : World} {a : Option Addr} {l : List UInt8} (h : BytesAt B w a l) (k : Nat) (hk : k < l.length) : BytesAt B w (a.map (·.add k)) (l.drop k) := by
  intro h0
  obtain ⟨b, o, rfl, _, hc⟩ := h (by omega)
  rw [Option.map_some, add_at]
  exact BytesAt.drop h k h0

theorem World.ownsRow.below1 {w w' : World} {base : Nat} {t : TypeId} {n k : Nat} {v : Value} {xs : List Value} (h : w.ownsRow base t n v k xs) (hb : Below w.heap.size w w') : w'.ownsRow base t n v k xs := by
  refine ⟨h.1, ?_⟩
  rcases h.2 with h1 | ⟨g, cap, cur, hv, hbg, hg, r⟩
  · exact .inl h1
  · exact .inr ⟨g, cap, cur, hv, hbg, (hb.block g (Array.getElem?_eq_some_iff.1 hg).1).trans hg, r⟩

theorem own_form {w : World} {base : Nat} {lv : Value} {zs : List FZ} (h : w.ownsRow base 36 3 lv zs.length (zs.flatMap fzc)) : ∃ a c, lv = .slice a zs.length c := by
  rcases h.2 with ⟨rfl, hn⟩ | ⟨g, cap, cur, rfl, _⟩
  · exact ⟨none, 0, by rw [hn]⟩
  · exact ⟨_, _, rfl⟩

end Go.Proofs.Ytjnnpgmgjdhfjaa

namespace Go.Proofs.Ytjnnpgmgjdhfjaa
open Go.RowKit
set_option linter.unusedVariables false
variable {B : Nat}

theorem Buf.form2 {w : World} {base : Nat} {v : Value} {l : List UInt8} (h : Buf w base v l) : ∃ (N : Nat) (a : Option Addr) (c : Nat), N = l.length ∧ v = .slice a N c ∧ N ≤ c ∧ c ≤ maxLen := by
  obtain ⟨a, c, h1, h2, h3⟩ := h.form
  exact ⟨_, a, c, rfl, h1, h2, h3⟩
set_option maxRecDepth 100000 in
/-- a copy of bytes: the call's own. -/
theorem clone_any (a : Option Addr) (cap : Nat) (l : List UInt8) (hl : l.length ≤ cap) (hcap : cap ≤ maxLen) (hl9 : l.length ≤ 1000000) (w : World) (hat : BytesAt B w a l) :
    Calls Try.prog 33 #[.slice a l.length cap] w fun e w' => ∃ v, e = .returned v ∧ Buf w' w.heap.size v l ∧ Below w.heap.size w w' := by
  cases a with
  | none =>
    obtain rfl : l = [] := by
      cases l with
      | nil => rfl
      | cons c r => obtain ⟨b, o, h, _⟩ := hat (by simp); cases h
    have hnil : (binOp .eql 26 (.slice none 0 cap) (.slice none 0 0)).run Try.prog w = .ok (.bool true) w := Lib.run_eql_slice_nil w 26 5 none 0 cap 0 0 Try.underlying26
    go_enter Try.func33, Try.ntmps33
    go_wp2_with fail
    go_ret
    exact ⟨_, rfl, Buf.nil _ _, Below.refl _ _⟩
  | some x =>
    have hb0 : Below w.heap.size w (w.alloc (.cells #[] 5)) := (Below.refl _ _).alloc (Nat.le_refl _) _
    have HB0 := Lib.hid hb0
    have HAT := Lib.hid (hat.below hb0)
    have hown : Buf (w.alloc (.cells #[] 5)) w.heap.size (.slice (some ⟨w.heap.size, 0, none⟩) 0 0) [] := World.ownsRow_lit w #[] 0 (Nat.le_refl _) (by decide) (by simp)
    have HOWN := Lib.hid hown
    clear hat hb0 hown
    have hnil : (binOp .eql 26 (.slice (some x) l.length cap) (.slice none 0 0)).run Try.prog w = .ok (.bool false) w := Lib.run_eql_slice_nil w 26 5 (some x) l.length cap 0 0 Try.underlying26
    go_enter Try.func33, Try.ntmps33
    go_wp2_with (at_builtin; refine put_bytes (base := w.heap.size) (l := []) (m := l) rfl (.tmp 5) (.tmp 6) rfl HOWN.out HB0.out.size HAT.out (by simp; omega) rfl rfl rfl ?_; intro v2 w2 hb2 hon2; have HB2 := Lib.hid hb2; have HBEL2 := Lib.hid (HB0.out.trans (hon2.below HOWN.out HB0.out.size)); clear hb2 hon2)
    go_ret
    exact ⟨_, rfl, HB2.out, HBEL2.out⟩

/-- calls that a header and a body follow. -/
def Has (id : Int) : Prop := id = 6040 ∨ id = 6050 ∨ id = 6060 ∨ id = 6071
theorem has_any (id : Int) (w : World) : Calls Try.prog 35 #[.int .i64 id] w (SaysW (Has id) w) := by
  by_cases h1 : id = 6040
  · subst h1
    go_enter Try.func35, Try.ntmps35
    go_wp2_with fail
    go_ret
    exact ⟨_, by simp [Has], rfl, rfl⟩
  by_cases h2 : id = 6050
  · subst h2
    go_enter Try.func35, Try.ntmps35
    go_wp2_with fail
    go_ret
    exact ⟨_, by simp [Has], rfl, rfl⟩
  by_cases h3 : id = 6060
  · subst h3
    go_enter Try.func35, Try.ntmps35
    go_wp2_with fail
    go_ret
    exact ⟨_, by simp [Has], rfl, rfl⟩
  by_cases h8 : id = 6071
  · subst h8
    go_enter Try.func35, Try.ntmps35
    go_wp2_with fail
    go_ret
    exact ⟨_, by simp [Has], rfl, rfl⟩
  have b1 : (id == 6040) = false := by simpa using h1
  have b2 : (id == 6050) = false := by simpa using h2
  have b3 : (id == 6060) = false := by simpa using h3
  have b8 : (id == 6071) = false := by simpa using h8
  go_enter Try.func35, Try.ntmps35
  go_wp2_with fail
  go_ret
  exact ⟨_, by simp [Has, h1, h2, h3, h8], rfl, rfl⟩

theorem mayNot_any (k c : Int) (a : Option Addr) (n cap : Nat) (w : World) : Calls Try.prog 24 #[.agg #[.int .i64 k, .int .i64 c, .slice a n cap]] w (SaysB (¬ MayN k c n) w) := by
  have hb0 : Below w.heap.size w (w.alloc (.cells #[.int .i64 k, .int .i64 c, .slice a n cap] 36)) := (Below.refl _ _).alloc (Nat.le_refl _) _
  have HB0 := Lib.hid hb0
  clear hb0
  go_enter Try.func24, Try.ntmps24
  go_wp2_with fail
  refine (frMay_any k c a n cap _).mono ?_
  rintro e w' ⟨r, hr, rfl, hb⟩
  have HR := Lib.hid hr
  have HB := Lib.hid (HB0.out.trans (hb.mono HB0.out.size))
  clear hr hb
  go_wp2_with fail
  go_ret
  exact ⟨!r, by rw [← HR.out]; cases r <;> simp, rfl, HB.out⟩

def idxRel (w : World) (l : List Fr) (m : Nat) (v : Value) (wr : World) : Prop :=
  ∃ i : Nat, i ≤ l.length ∧ v = .int .i64 i ∧ m = l.length - i ∧ Below w.heap.size w wr

set_option maxRecDepth 100000 in
set_option maxHeartbeats 4000000 in
/-- of frames that may be none is found. -/
theorem idx_any (a : Option Addr) (cap : Nat) (l : List Fr) (w : World) (hf : FrsAt w a cap l) (hok : ∀ f ∈ l, MayF f) :
    Calls Try.prog 39 #[.slice a l.length cap, .func (.func 24) #[] #[]] w fun e w' => e = .returned (.int .i64 (-1)) ∧ Below w.heap.size w w' := by
  have HF := Lib.hid hf
  have HOK := Lib.hid hok
  have hcap := hf.max
  have hlen := hf.len
  unfold maxLen at hcap
  clear hf hok
  go_enter Try.func39, Try.ntmps39
  go_wp2_with fail
  go_loopg [8] l.length (idxRel w l)
  case atStart => exact ⟨0, Nat.zero_le _, rfl, rfl, Below.refl _ _⟩
  case round =>
    obtain ⟨i, hi, rfl, rfl, hb⟩ := hrel
    have HB := Lib.hid hb
    clear hb
    by_cases hlt : i < l.length
    · have hlti : (i : Int) < (l.length : Int) := by omega
      have h0i : (0 : Int) ≤ (i : Int) := by omega
      obtain ⟨b, o, da, dc, rfl, hbw, c0, c1, c2, hdl, hdm, hdat⟩ := (HF.out.below HB.out).get i hlt
      have hcall := mayNot_any l[i].kind l[i].chan da l[i].data.length dc wr
      have HCALL := Lib.hid hcall
      have HMAY := Lib.hid (HOK.out l[i] (List.getElem_mem hlt))
      clear hcall hdat hdl hdm
      go_wp2_with fail
      refine HCALL.out.mono ?_
      rintro e w2 ⟨r, hr, rfl, hb2⟩
      obtain rfl : r = false := by
        cases r
        · rfl
        · exact absurd HMAY.out (hr.1 rfl)
      have HB2 := Lib.hid (HB.out.trans (hb2.mono HB.out.size))
      clear hr hb2
      go_wp2_with fail
      go_roundg (l.length - (i + 1))
      case measure => omega
      case rel => exact ⟨i + 1, by omega, by simp, rfl, HB2.out⟩
    · obtain rfl : i = l.length := by omega
      go_wp2_with fail
      go_ret
      exact ⟨rfl, HB.out⟩

theorem contains_any (a : Option Addr) (cap : Nat) (l : List Fr) (w : World) (hf : FrsAt w a cap l) (hok : ∀ f ∈ l, MayF f) :
    Calls Try.prog 23 #[.slice a l.length cap, .func (.func 24) #[] #[]] w fun e w' => e = .returned (.bool false) ∧ Below w.heap.size w w' := by
  have HC := Lib.hid (idx_any a cap l w hf hok)
  clear hf hok
  go_enter Try.func23, Try.ntmps23
  go_wp2_with fail
  refine HC.out.mono ?_
  rintro e w' ⟨rfl, hb⟩
  have HB := Lib.hid hb
  clear hb
  go_wp2_with fail
  go_ret
  exact ⟨rfl, HB.out⟩

end Go.Proofs.Ytjnnpgmgjdhfjaa
