/-
  package octet's PutNumber, walked: behind a slice of the call's own, and over what is there.
-/
import Derived.Test.YthohjcfpobeplaaOctD
import Derived.Test.YthohjcfpobeplaaScope
import Derived.Lib.AppendStr
import Derived.Deep.AppendLies
import Derived.OwnWalk
namespace Go.Proofs.Ythohjcfpobeplaa
open Go.RowKit
set_option linter.unusedVariables false

def putRel (v0 : Value) (base : Nat) (l : List UInt8) (n size : Nat) (W : World) (m : Nat) (a' : Act) (w' : World) : Prop :=
  ∃ (s : Nat) (v : Value) (u7 u8 u9 u10 u11 u12 u13 u14 u15 u16 u17 u18 u19 : Value), Onto W v0 w' v ∧ a' = { tmps := #[v, .int .u64 n, .int .i64 s, undef, undef, undef, .slice none 0 0, u7, u8, u9, u10, u11, u12, u13, u14, u15, u16, u17, u18, u19], defers := [] } ∧ s ≤ size ∧ s = m ∧ Buf w' base v (l ++ (be size n).take (size - s))

set_option maxRecDepth 100000 in
set_option maxHeartbeats 4000000 in
theorem putNum_any (base : Nat) (v : Value) (l : List UInt8) (n size : Nat) (hn : n < 18446744073709551616) (hsz : size ≤ 8) (w : World) (hb : Buf w base v l) (hbase : base ≤ w.heap.size) (hl : l.length ≤ 100000) :
    Calls Try.prog 117 #[v, .int .u64 n, .int .i64 size] w fun e w' => ∃ v', e = .returned v' ∧ Buf w' base v' (l ++ be size n) ∧ Onto w v w' v' := by
  have HN := Lib.hid hn
  clear hn
  go_enter Try.func117, Try.ntmps117
  go_wp2
  refine wp_scope_ghost 0 (putRel v base l n size w) rfl ?_ ?_
  · intro H hb'
    go_wp2
    go_step3
    rename_i hK
    refine hK _ _ (hb' size _ _ ⟨size, v, ?_⟩)
    repeat apply Exists.intro
    exact ⟨Onto.refl _ _, rfl, Nat.le_refl _, rfl, by simpa using hb⟩
  · rintro m a' w' ⟨s, v1, u7, u8, u9, u10, u11, u12, u13, u14, u15, u16, u17, u18, u19, hon, rfl, hs, rfl, hbuf⟩ H hH
    by_cases h0 : 0 < s
    · have HB := Lib.hid hbuf
      have HS := Lib.hid (be_step (n := n) h0 hs)
      clear hbuf
      have hle : (l ++ (be size n).take (size - s)).length ≤ 1000000 := by simp; omega
      go_wp2_with (at_builtin; refine put_one rfl (.tmp 11) (.tmp 17) rfl HB.out (Nat.le_trans hbase hon.grew.size) hle (UInt8.ofNat (n / 2 ^ (8 * (s - 1)) % 256)) (by simp) rfl _ rfl rfl ?_; intro v2 w2 hb2 hon2; have HB2 := Lib.hid hb2; clear hb2)
      go_step3
      refine ⟨rfl, hH (s - 1) _ _ (by omega) ⟨s - 1, v2, ?_⟩⟩
      repeat apply Exists.intro
      refine ⟨hon.trans hon2, ?_, by omega, rfl, ?_⟩
      · rw [show ((s - 1 : Nat) : Int) = (s : Int) - 1 by omega]
      · rw [HS.out, ← List.append_assoc]; exact HB2.out
    · go_wp2
      simp only [Exit.jump]
      go_ret
      obtain rfl : s = 0 := by omega
      rw [Nat.sub_zero, List.take_of_length_le (by simp)] at hbuf
      exact ⟨_, rfl, hbuf, hon⟩

/-- block g is just these cells, of bytes. -/
def Row8 (w : World) (g : Nat) (cs : List Value) : Prop := w.heap[g]? = some (.cells cs.toArray 5 (0, 0))

theorem lay_one {ops : Array Oper} {rest : List Oper} {o : Oper} {a : Act} {Q : Exit → Act → World → Prop} {w : World} {g n cap : Nat} {cs : List Value} {z : Int} (hgd : o.guard = none) (s x : Operand)
    (ho : o.op = .call { callee := .builtin .append, args := #[s, x], argTypes := #[123, 123] }) (hb : Row8 w g cs) (hn : n < cap) (hc : cap ≤ cs.length)
    (hs : a.eval s = .slice (some ⟨g, 0, none⟩) n cap) (hx : a.eval x = .slice (some ⟨w.heap.size, 0, none⟩) 1 1)
    (h : ∀ w', Row8 w' g (cs.take n ++ [.int .u8 z] ++ cs.drop (n + 1)) → w.grownBy w' (some g) → wpList Try.prog ops Q rest (a.put o.dst (.slice (some ⟨g, 0, none⟩) (n + 1) cap)) w') :
    wpList Try.prog ops Q (o :: rest) a (w.alloc (.cells #[.int .u8 z] 5)) := by
  obtain ⟨i0, hi, hz0, hz1, hz2⟩ := info_parts u8_info
  have hlt : g < w.heap.size := (Array.getElem?_eq_some_iff.1 hb).1
  have hg : (w.alloc (.cells #[.int .u8 z] 5)).heap[g]? = some (.cells cs.toArray 5 (0, 0)) := (Below.heap_alloc w _ g hlt).trans hb
  have hr := run_append_room (P := Try.prog) (w.alloc (.cells #[.int .u8 z] 5)) 123 o.type 5 i0 Try.underlying123 hi g n cap cs.toArray hg ⟨w.heap.size, 0, none⟩ 1 1 [.int .u8 z] (by simp [hz1]) (cell_one_new _ _ _) (by simp [Value.oneCell']) (by omega) (by rw [hz1]; simp; omega)
  refine wpList_plain hgd fun K hK => ?_
  unfold Oper.wp execOp
  simp only [ho, resolve, invoke, builtin, Sem.run_bind, Sem.run_pure, Result.andThen_ok, List.map_toArray, List.map_cons, List.map_nil, hs, hx, hr]
  refine hK _ _ (h _ ?_ ?_)
  · unfold Row8
    rw [setRow_heap _ _ _ _ _ _ hg]
    simp [hz1]
  · refine ⟨rfl, rfl, rfl, by simp [World.setRow], fun k hk hne => ?_⟩
    rw [setRow_other _ _ _ _ (fun e => hne (by rw [e]))]
    exact Below.heap_alloc w _ k hk

def layRel (g cap start : Nat) (cs : List Value) (n size : Nat) (W : World) (m : Nat) (a' : Act) (w' : World) : Prop :=
  W.grownBy w' (some g) ∧ ∃ (s : Nat) (u7 u8 u9 u10 u11 u12 u13 u14 u15 u16 u17 u18 u19 : Value), a' = { tmps := #[.slice (some ⟨g, 0, none⟩) (start + (size - s) : Nat) cap, .int .u64 n, .int .i64 s, undef, undef, undef, .slice none 0 0, u7, u8, u9, u10, u11, u12, u13, u14, u15, u16, u17, u18, u19], defers := [] } ∧ s ≤ size ∧ s = m ∧
    Row8 w' g (cs.take start ++ cellsOf ((be size n).take (size - s)) ++ cs.drop (start + (size - s)))

theorem lay_step {cs bs : List Value} {start k : Nat} {u : Value} (hb : bs.length = k) (hk : start + k < cs.length) :
    (cs.take start ++ bs ++ cs.drop (start + k)).take (start + k) ++ [u] ++ (cs.take start ++ bs ++ cs.drop (start + k)).drop (start + k + 1) = cs.take start ++ (bs ++ [u]) ++ cs.drop (start + (k + 1)) := by
  have hl : (cs.take start ++ bs).length = start + k := by simp; omega
  have hd : (cs.take start ++ bs ++ cs.drop (start + k)).drop (start + k + 1) = cs.drop (start + (k + 1)) := by
    rw [List.drop_append, List.drop_eq_nil_of_le (by omega), hl, List.drop_drop, List.nil_append]
    congr 1
    omega
  rw [List.take_left' hl, hd]
  simp [List.append_assoc]

set_option maxRecDepth 100000 in
set_option maxHeartbeats 4000000 in
theorem putNum_in (g cap start : Nat) (cs : List Value) (n size : Nat) (hn : n < 18446744073709551616) (hsz : size ≤ 8) (w : World) (hb : Row8 w g cs) (hc : cap = cs.length) (hfit : start + size ≤ cap) (hl : cap ≤ maxLen) :
    Calls Try.prog 117 #[.slice (some ⟨g, 0, none⟩) start cap, .int .u64 n, .int .i64 size] w fun e w' => ∃ v', e = .returned v' ∧ Row8 w' g (cs.take start ++ cellsOf (be size n) ++ cs.drop (start + size)) ∧ w.grownBy w' (some g) := by
  have HN := Lib.hid hn
  have HC := Lib.hid hc
  have HL := Lib.hid hl
  clear hn hc hl
  go_enter Try.func117, Try.ntmps117
  go_wp2
  refine wp_scope_ghost 0 (layRel g cap start cs n size w) rfl ?_ ?_
  · intro H hb'
    go_wp2
    go_step3
    rename_i hK
    refine hK _ _ (hb' size _ _ ⟨GrownBy.refl _ _, size, ?_⟩)
    repeat apply Exists.intro
    refine ⟨?_, Nat.le_refl _, rfl, ?_⟩
    · rw [Nat.sub_self, Nat.add_zero]
    · rw [Nat.sub_self, Nat.add_zero, List.take_zero]
      simpa [cellsOf] using hb
  · rintro m a' w' ⟨hbel, s, u7, u8, u9, u10, u11, u12, u13, u14, u15, u16, u17, u18, u19, rfl, hs, rfl, hbuf⟩ H hH
    by_cases h0 : 0 < s
    · have HB := Lib.hid hbuf
      have HS := Lib.hid (be_step (n := n) h0 hs)
      clear hbuf
      obtain ⟨k, hk⟩ : ∃ k, k = start + (size - s) := ⟨_, rfl⟩
      rw [← hk]
      have hkc : k < cap := by omega
      have HK := Lib.hid hk
      clear hk
      have hle : cap ≤ (cs.take start ++ cellsOf ((be size n).take (size - s)) ++ cs.drop (start + (size - s))).length := by
        have := HC.out
        simp
        omega
      have HLE := Lib.hid hle
      clear hle
      go_wp2_with (at_builtin; refine lay_one rfl (.tmp 11) (.tmp 17) rfl HB.out hkc HLE.out rfl rfl ?_; intro w2 hb2 hg2; have HB2 := Lib.hid hb2; clear hb2)
      go_step3
      refine ⟨rfl, hH (s - 1) _ _ (by omega) ⟨GrownBy.trans hbel hg2, s - 1, ?_⟩⟩
      repeat apply Exists.intro
      refine ⟨?_, by omega, rfl, ?_⟩
      · have := HK.out
        rw [show ((s - 1 : Nat) : Int) = (s : Int) - 1 by omega, show start + (size - (s - 1)) = k + 1 by omega]
      · have h2 := HB2.out
        have hk := HK.out
        subst hk
        rw [lay_step (by simp) (by have := HC.out; omega)] at h2
        rw [HS.out, cellsOf_append, show size - (s - 1) = size - s + 1 by omega]
        have he : (cellsOf [UInt8.ofNat (n / 2 ^ (8 * (s - 1)) % 256)]) = [.int .u8 ((n : Int) / 2 ^ (8 * (s - 1)) % 256)] := by
          simp [cellsOf]
        rw [he]
        exact h2
    · go_wp2
      simp only [Exit.jump]
      go_ret
      obtain rfl : s = 0 := by omega
      rw [Nat.sub_zero, List.take_of_length_le (show (be size n).length ≤ size by simp)] at hbuf
      exact ⟨_, rfl, hbuf, hbel⟩

end Go.Proofs.Ythohjcfpobeplaa
