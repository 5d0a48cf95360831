/-
  package value's reader: take, number, counted, kind, walked.
-/
import Derived.Test.YtcjlbohgonagdaaBuf
import Derived.Lib.Bytealg
import Derived.IntWalk
import Derived.Laws.Externs
import Derived.Laws.Bits64b
namespace Go.Proofs.Ytcjlbohgonagdaa
open Go.RowKit
set_option linter.unusedVariables false

variable {B : Nat}
/-- a slice of these bytes, in a block below B. -/
def BytesAt (B : Nat) (w : World) (a : Option Addr) (l : List UInt8) : Prop := 0 < l.length → ∃ b o, a = some ⟨b, o, none⟩ ∧ b < B ∧ ∀ (i : Nat) (h : i < l.length), w.cell? ⟨b, o + i, none⟩ = some (.int .u8 l[i].toNat)
def BytesIn (B : Nat) (w : World) (v : Value) (l : List UInt8) : Prop := ∃ a cap, v = .slice a l.length cap ∧ l.length ≤ cap ∧ cap ≤ maxLen ∧ BytesAt B w a l
theorem BytesAt.keep {w w' : World} {a : Option Addr} {l : List UInt8} (h : BytesAt B w a l) (hk : ∀ b, a.map (·.block) = some b → w'.heap[b]? = w.heap[b]?) : BytesAt B w' a l := by
  intro h0
  obtain ⟨b, o, rfl, hbB, hc⟩ := h h0
  exact ⟨b, o, rfl, hbB, fun i hi => (World.cell?_of_block (w := w) (a := ⟨b, o + i, none⟩) (hk b rfl)).trans (hc i hi)⟩
theorem BytesAt.below {w w' : World} {a : Option Addr} {l : List UInt8} (h : BytesAt B w a l) (hb : Below w.heap.size w w') : BytesAt B w' a l := by
  intro h0
  obtain ⟨b, o, rfl, hbB, hc⟩ := h h0
  exact ⟨b, o, rfl, hbB, fun i hi => (hb.cell (p := ⟨b, o + i, none⟩) (lt_of_cell (hc i hi))).trans (hc i hi)⟩
theorem BytesIn.below {w w' : World} {v : Value} {l : List UInt8} (h : BytesIn B w v l) (hb : Below w.heap.size w w') : BytesIn B w' v l := by
  obtain ⟨a, cap, hv, h1, h2, h3⟩ := h
  exact ⟨a, cap, hv, h1, h2, h3.below hb⟩
theorem BytesIn.nil (w : World) : BytesIn B w (.slice none 0 0) [] := ⟨none, 0, rfl, by simp, by simp [maxLen], fun h => by simp at h⟩
/-- another block than the bytes' was written. -/
theorem BytesAt.other {w w' : World} {a : Option Addr} {l : List UInt8} {g : Nat} {cs : Array Value} {t : TypeId} {fr : Nat × Nat} (h : BytesAt B w a l) (hg : w.heap[g]? = some (.cells cs t fr)) (hne : ∀ (i : Nat) (n : Int), cs[i]? ≠ some (.int .u8 n))
    (hb : w.grownBy w' (some g)) : BytesAt B w' a l := by
  intro h0
  obtain ⟨b, o, rfl, hbB, hc⟩ := h h0
  refine ⟨b, o, rfl, hbB, fun i hi => ?_⟩
  have hlt := lt_of_cell (hc i hi)
  have hbg : b ≠ g := by
    rintro rfl
    have := hc i hi
    rw [cell_of_row w _ _ _ _ _ hg] at this
    exact hne _ _ this
  exact (World.cell?_of_block (w := w) (a := ⟨b, o + i, none⟩) (hb.block b hlt (fun e => hbg (by cases e; rfl)))).trans (hc i hi)
theorem BytesAt.take {w : World} {a : Option Addr} {l : List UInt8} (h : BytesAt B w a l) (k : Nat) : BytesAt B w a (l.take k) := by
  intro h0
  simp only [List.length_take] at h0
  obtain ⟨b, o, rfl, hbB, hc⟩ := h (by omega)
  exact ⟨b, o, rfl, hbB, fun i hi => by simp only [List.length_take] at hi; rw [List.getElem_take]; exact hc i (by omega)⟩
theorem BytesAt.drop {w : World} {b o : Nat} {l : List UInt8} (h : BytesAt B w (some ⟨b, o, none⟩) l) (k : Nat) : BytesAt B w (some ⟨b, o + k, none⟩) (l.drop k) := by
  intro h0
  simp only [List.length_drop] at h0
  obtain ⟨b', o', he, hbB, hc⟩ := h (by omega)
  cases he
  exact ⟨b, o + k, rfl, hbB, fun i hi => by simp only [List.length_drop] at hi; rw [List.getElem_drop, Nat.add_assoc]; exact hc (k + i) (by omega)⟩
theorem Buf.bytes {w : World} {base : Nat} {v : Value} {l : List UInt8} (h : Buf w base v l) : BytesIn w.heap.size w v l := by
  rcases h.2 with ⟨rfl, hn⟩ | ⟨g, cap, cur, rfl, hbg, hg, hnc, hcm, hcs, htake⟩
  · obtain rfl : l = [] := List.eq_nil_of_length_eq_zero hn
    exact BytesIn.nil w
  · refine ⟨_, cap, rfl, hnc, hcm, fun _ => ⟨g, 0, rfl, (Array.getElem?_eq_some_iff.1 hg).1, fun i hi => ?_⟩⟩
    rw [Nat.zero_add, cell_of_row w _ _ _ _ _ hg]
    have : cur.toList[i]? = (cellsOf l)[i]? := by rw [← htake, List.getElem?_take, if_pos (by omega)]
    rw [← Array.getElem?_toList, this]
    simp [cellsOf, List.getElem?_eq_getElem hi]

/-- the reader in block g: what is left, and whether it is bad. -/
def Rd (B : Nat) (w : World) (g : Nat) (l : List UInt8) (bad : Bool) : Prop := ∃ v, w.heap[g]? = some (.cells #[v, .bool bad] 53 (0, 0)) ∧ BytesIn B w v l

theorem rd_ne {v : Value} {a : Option Addr} {n c : Nat} (hv : v = .slice a n c) (bad : Bool) : ∀ (i : Nat) (m : Int), (#[v, .bool bad] : Array Value)[i]? ≠ some (.int .u8 m) := by
  intro i m
  subst hv
  match i with
  | 0 => simp
  | 1 => simp
  | i + 2 => simp

theorem set_heap {w : World} {g : Nat} {cs : Array Value} {t : TypeId} {fr : Nat × Nat} (h : w.heap[g]? = some (.cells cs t fr)) (i : Nat) (u : Value) : (w.setCell ⟨g, i, none⟩ u).heap[g]? = some (.cells (cs.setIfInBounds i u) t fr) := by
  simp [World.setCell, Array.getElem?_modify, h]
theorem set_grown (w : World) (g i : Nat) (u : Value) : w.grownBy (w.setCell ⟨g, i, none⟩ u) (some g) :=
  ⟨rfl, rfl, rfl, by simp [World.setCell], fun k _ hk => Below.heap_setCell w ⟨g, i, none⟩ u k (fun e => hk (by rw [e]))⟩

def TakeP (B : Nat) (g n : Nat) (l : List UInt8) (bad : Bool) (w : World) (e : Ending) (w' : World) : Prop :=
  ∃ v, e = .returned v ∧ BytesIn B w' v (takeP n l).1 ∧ Rd B w' g (takeP n l).2.1 (bad || (takeP n l).2.2) ∧ w.grownBy w' (some g)

set_option maxRecDepth 100000 in
set_option maxHeartbeats 4000000 in
theorem take_any (g n : Nat) (hn : n < 18446744073709551616) (l : List UInt8) (bad : Bool) (w : World) (hr : Rd B w g l bad) :
    Calls Try.prog 50 #[.pointer (some ⟨g, 0, none⟩), .int .u64 n] w (TakeP B g n l bad w) := by
  obtain ⟨v, hg, a, cap, rfl, hlc, hcm, hat⟩ := hr
  have c0 : w.cell? ⟨g, 0, none⟩ = some (.slice a l.length cap) := by rw [cell_of_row w _ _ _ _ _ hg]; rfl
  have c1 : w.cell? ⟨g, 1, none⟩ = some (.bool bad) := by rw [cell_of_row w _ _ _ _ _ hg]; rfl
  have f0 : w.frozen? ⟨g, 0, none⟩ = false := by simp [World.frozen?, hg]
  have f1 : w.frozen? ⟨g, 1, none⟩ = false := by simp [World.frozen?, hg]
  unfold maxLen at hcm
  have hw : IntKind.u64.wrap (l.length : Int) = ((l.length : Nat) : Int) := by rw [IntKind.wrap_u64]; omega
  have HAT := Lib.hid hat
  have HG := Lib.hid hg
  have HN := Lib.hid hn
  clear hat hg hn
  by_cases h : l.length < n
  · go_enter Try.func50, Try.ntmps50
    go_wp2
    go_ret
    have hg1 := set_heap (set_heap HG.out 0 (.slice none 0 0)) 1 (.bool true)
    have hp : takeP n l = ([], [], true) := by unfold takeP; rw [if_pos h]
    refine ⟨_, rfl, ?_, ⟨.slice none 0 0, ?_, ?_⟩, GrownBy.trans (set_grown _ _ _ _) (set_grown _ _ _ _)⟩
    · rw [hp]; exact BytesIn.nil _
    · rw [hg1, hp]; simp
    · rw [hp]; exact BytesIn.nil _
  · have i0 : (0 : Int) ≤ (n : Int) := by omega
    have i1 : (n : Int) ≤ (cap : Int) := by omega
    have i2 : (n : Int) ≤ (l.length : Int) := by omega
    have hp : takeP n l = (l.take n, l.drop n, false) := by unfold takeP; rw [if_neg h]
    have HP := Lib.hid hp
    clear hp
    have hl1 : (l.take n).length = n := by simp; omega
    have hl2 : (l.drop n).length = l.length - n := by simp
    have HL1 := Lib.hid hl1
    have HL2 := Lib.hid hl2
    clear hl1 hl2
    have hat : ∀ u, BytesAt B (w.setCell ⟨g, 0, none⟩ u) a l := fun u => HAT.out.other HG.out (rd_ne rfl bad) (set_grown _ _ _ _)
    have HA := Lib.hid hat
    clear hat
    by_cases hcn : cap = n
    · subst hcn
      go_enter Try.func50, Try.ntmps50
      go_wp2
      go_ret
      have hp := HP.out
      have hl1 := HL1.out
      have hl2 := HL2.out
      refine ⟨_, rfl, ?_, ⟨.slice a 0 0, ?_, ?_⟩, set_grown _ _ _ _⟩
      · rw [hp]; show BytesIn _ _ _ (l.take _); exact ⟨a, cap, by rw [hl1]; rfl, by omega, by unfold maxLen; omega, (HA.out _).take cap⟩
      · rw [set_heap HG.out, hp]; simp
      · rw [hp]; show BytesIn _ _ _ (l.drop _); exact ⟨a, 0, by rw [hl2, show l.length - cap = 0 by omega], by omega, by unfold maxLen; omega, fun h0 => by omega⟩
    · go_enter Try.func50, Try.ntmps50
      go_wp2
      go_ret
      have hp := HP.out
      have hl1 := HL1.out
      have hl2 := HL2.out
      refine ⟨_, rfl, ?_, ⟨.slice (a.map (·.add n)) (l.length - n) (cap - n), ?_, ?_⟩, set_grown _ _ _ _⟩
      · rw [hp]; show BytesIn _ _ _ (l.take _); exact ⟨a, cap, by rw [hl1]; rfl, by omega, by unfold maxLen; omega, (HA.out _).take n⟩
      · rw [set_heap HG.out, hp]; simp
      · rw [hp]
        show BytesIn _ _ _ (l.drop n)
        refine ⟨_, cap - n, by rw [hl2], by omega, by unfold maxLen; omega, fun h0 => ?_⟩
        obtain ⟨b, o, rfl, _, hc⟩ := HAT.out (by omega)
        rw [Option.map_some, add_at]
        exact BytesAt.drop (HA.out _) n h0

theorem or_byte (m : Nat) (c : UInt8) (hm : m < 72057594037927936) : bits .or .u64 (IntKind.u64.wrap ((m : Int) * 256)) (IntKind.u64.wrap (c.toNat : Int)) = ((m * 256 + c.toNat : Nat) : Int) := by
  have hc : c.toNat < 256 := c.toNat_lt
  rw [show IntKind.u64.wrap ((m : Int) * 256) = ((m * 256 : Nat) : Int) by rw [IntKind.wrap_u64]; omega, show IntKind.u64.wrap (c.toNat : Int) = ((c.toNat : Nat) : Int) by rw [IntKind.wrap_u64]; omega]
  rw [bits_or_u64_nat _ _ (by omega) (by omega)]
  congr 1
  rw [show m * 256 = m <<< 8 by rw [Nat.shiftLeft_eq], ← Nat.shiftLeft_add_eq_or_of_lt (by omega)]

def numRel (B : Nat) (w : World) (g k : Nat) (l : List UInt8) (bad : Bool) (m : Nat) (a' : Act) (w' : World) : Prop :=
  (Rd B w' g (numP k l).2.1 (bad || (numP k l).2.2) ∧ w.grownBy w' (some g)) ∧ ∃ (a : Option Addr) (c : Nat) (dn rs : List UInt8) (u7 u8 u9 u10 u11 u12 u13 u14 u15 u16 u17 u18 u19 u20 u21 u22 : Value), a' = { tmps := #[.pointer (some ⟨g, 0, none⟩), .int .u64 k, undef, undef, .int .u64 0, .slice a rs.length c, .int .u64 (de dn : Nat), u7, u8, u9, u10, u11, u12, u13, u14, u15, u16, u17, u18, u19, u20, u21, u22], defers := [] } ∧
    m = rs.length ∧ (takeP k l).1 = dn ++ rs ∧ rs.length ≤ c ∧ c ≤ maxLen ∧ BytesAt B w' a rs

set_option maxRecDepth 100000 in
set_option maxHeartbeats 4000000 in
theorem number_any (g k : Nat) (hk : k ≤ 8) (l : List UInt8) (bad : Bool) (w : World) (hr : Rd B w g l bad) :
    Calls Try.prog 49 #[.pointer (some ⟨g, 0, none⟩), .int .u64 k] w fun e w' => e = .returned (.int .u64 (numP k l).1) ∧ Rd B w' g (numP k l).2.1 (bad || (numP k l).2.2) ∧ w.grownBy w' (some g) := by
  have HR := Lib.hid hr
  clear hr
  have htl : (takeP k l).1.length ≤ 8 := by
    unfold takeP; split
    · simp
    · simp; omega
  go_enter Try.func49, Try.ntmps49
  go_wp2
  refine wp_scope_ghost 0 (numRel B w g k l bad) rfl ?_ ?_
  · intro H hb'
    have HBK := Lib.hid hb'
    clear hb'
    go_wp2_with fail
    refine (take_any g k (by omega) l bad _ HR.out).mono ?_
    rintro e w1 ⟨v1, rfl, ⟨a1, c1, rfl, hlc1, hcm1, hat1⟩, hr1, hg1⟩
    have HR1 := Lib.hid hr1
    have HA1 := Lib.hid hat1
    have HG1 := Lib.hid hg1
    clear hr1 hat1 hg1
    go_wp2_with fail
    go_step3
    rename_i hK
    refine hK _ _ (HBK.out (takeP k l).1.length _ _ ⟨⟨HR1.out, HG1.out⟩, a1, c1, [], (takeP k l).1, ?_⟩)
    repeat apply Exists.intro
    exact ⟨rfl, rfl, rfl, hlc1, hcm1, HA1.out⟩
  · rintro m a' w' ⟨⟨hr1, hg1⟩, a, c, dn, rs, u7, u8, u9, u10, u11, u12, u13, u14, u15, u16, u17, u18, u19, u20, u21, u22, rfl, rfl, hds, hrc, hcm, hat⟩ H hH
    have HR1 := Lib.hid hr1
    have HG1 := Lib.hid hg1
    have HDS := Lib.hid hds
    have HA := Lib.hid hat
    unfold maxLen at hcm
    have hl8 : dn.length + rs.length ≤ 8 := by rw [hds] at htl; simpa using htl
    clear hr1 hg1 hds hat
    cases rs with
    | nil =>
      simp only [List.length_nil] at *
      go_wp2
      simp only [Exit.jump]
      go_ret
      have hds := HDS.out
      rw [List.append_nil] at hds
      exact ⟨by rw [show (numP k l).1 = de (takeP k l).1 from rfl, hds]; rfl, HR1.out, HG1.out⟩
    | cons x r =>
      obtain ⟨b, o, rfl, _, hc⟩ := HA.out (by simp)
      have h0 := hc 0 (by simp)
      simp only [Nat.add_zero, List.getElem_cons_zero] at h0
      have hdl := de_lt dn
      simp only [List.length_cons] at *
      clear hc
      have hm56 : de dn < 72057594037927936 := Nat.lt_of_lt_of_le hdl (by
        have : dn.length ≤ 7 := by omega
        exact (show (256 : Nat) ^ dn.length ≤ 256 ^ 7 from Nat.pow_le_pow_right (by decide) this))
      have HO := Lib.hid (or_byte (de dn) x hm56)
      have HDN := Lib.hid (de_snoc dn x)
      clear hdl hm56
      by_cases hc1 : c = 1
      · subst hc1
        obtain rfl : r = [] := List.eq_nil_of_length_eq_zero (by omega)
        go_wp2
        go_step3
        refine ⟨rfl, hH 0 _ _ (by simp) ⟨⟨HR1.out, HG1.out⟩, some ⟨b, o, none⟩, 0, dn ++ [x], [], ?_⟩⟩
        repeat apply Exists.intro
        refine ⟨?_, rfl, by rw [HDS.out]; simp, by simp, by simp [maxLen], fun h => by simp at h⟩
        rw [HDN.out, ← HO.out]
        rfl
      · go_wp2
        go_step3
        refine ⟨rfl, hH r.length _ _ (by omega) ⟨⟨HR1.out, HG1.out⟩, some ⟨b, o + 1, none⟩, c - 1, dn ++ [x], r, ?_⟩⟩
        repeat apply Exists.intro
        refine ⟨?_, rfl, by rw [HDS.out]; simp, by omega, by unfold maxLen; omega, by simpa using BytesAt.drop HA.out 1⟩
        rw [HDN.out, ← HO.out]

theorem numP_lt64 (k : Nat) (hk : k ≤ 8) (l : List UInt8) : (numP k l).1 < 18446744073709551616 := by
  have h := de_lt (takeP k l).1
  have h8 : (takeP k l).1.length ≤ 8 := by
    unfold takeP; split
    · simp
    · simp; omega
  exact Nat.lt_of_lt_of_le h (show (256 : Nat) ^ (takeP k l).1.length ≤ 256 ^ 8 from Nat.pow_le_pow_right (by decide) h8)

set_option maxRecDepth 100000 in
set_option maxHeartbeats 4000000 in
theorem counted_any (g k : Nat) (hk : k ≤ 8) (l : List UInt8) (bad : Bool) (w : World) (hr : Rd B w g l bad) :
    Calls Try.prog 40 #[.pointer (some ⟨g, 0, none⟩), .int .u64 k] w fun e w' => ∃ v, e = .returned v ∧ BytesIn B w' v (cntP k l).1 ∧ Rd B w' g (cntP k l).2.1 (bad || (cntP k l).2.2) ∧ w.grownBy w' (some g) := by
  have HR := Lib.hid hr
  clear hr
  go_enter Try.func40, Try.ntmps40
  go_wp2_with fail
  refine (number_any g k hk l bad _ HR.out).mono ?_
  rintro e w1 ⟨rfl, hr1, hg1⟩
  have HR1 := Lib.hid hr1
  have HG1 := Lib.hid hg1
  clear hr1 hg1
  go_wp2_with fail
  refine (take_any g _ (numP_lt64 k hk l) _ _ _ HR1.out).mono ?_
  rintro e w2 ⟨v2, rfl, hb2, hr2, hg2⟩
  have HB2 := Lib.hid hb2
  have HR2 := Lib.hid hr2
  have HG2 := Lib.hid (GrownBy.trans HG1.out hg2)
  clear hb2 hr2 hg2
  go_wp2_with fail
  go_ret
  refine ⟨_, rfl, HB2.out, ?_, HG2.out⟩
  have := HR2.out
  rw [Bool.or_assoc] at this
  exact this

/-- which of the letters a byte is. -/
theorem kindOf_index (c : UInt8) : Lib.indexByte [86, 116, 73, 108, 83, 70] c = kindOf c.toNat := by
  have h : ∀ i : Fin 256, Lib.indexByte [86, 116, 73, 108, 83, 70] (UInt8.ofNat i.val) = kindOf i.val := by decide +kernel
  have := h ⟨c.toNat, c.toNat_lt⟩
  simpa using this

set_option maxRecDepth 100000 in
set_option maxHeartbeats 4000000 in
theorem index3_any (c : UInt8) (w : World) :
    Calls Try.prog 54 #[.string ⟨#[86, 116, 73, 108, 83, 70]⟩, .int .u8 c.toNat] w fun e w' => e = .returned (.int .i64 (kindOf c.toNat)) ∧ w = w' := by
  go_enter Try.func54, Try.ntmps54
  go_wp2_with fail
  rw [run_callFunc_extern Try.func55 (by kernel_rfl) (by kernel_rfl) (by kernel_rfl) (e := Extern.BytealgIndexByte.indexByte) (by kernel_rfl), Lib.run_indexByteString]
  simp only [Result.andThen]
  rw [Oper.upon_value]
  go_wp2_with fail
  go_ret
  refine ⟨?_, rfl⟩
  have h := kindOf_index c
  rw [← h]
  simp

set_option maxHeartbeats 1000000 in
theorem index2_any (c : UInt8) (w : World) :
    Calls Try.prog 53 #[.string ⟨#[86, 116, 73, 108, 83, 70]⟩, .int .u8 c.toNat] w fun e w' => e = .returned (.int .i64 (kindOf c.toNat)) ∧ w = w' := by
  go_enter Try.func53, Try.ntmps53
  go_wp2_with fail
  refine (index3_any c _).mono ?_
  rintro e w1 ⟨rfl, rfl⟩
  go_wp2_with fail
  go_ret
  exact ⟨rfl, rfl⟩

theorem num1_lt (l : List UInt8) : (numP 1 l).1 < 256 := by
  have h := de_lt (takeP 1 l).1
  have h1 : (takeP 1 l).1.length ≤ 1 := by
    unfold takeP; split
    · simp
    · simp; omega
  exact Nat.lt_of_lt_of_le h (show (256 : Nat) ^ (takeP 1 l).1.length ≤ 256 ^ 1 from Nat.pow_le_pow_right (by decide) h1)

set_option maxRecDepth 100000 in
set_option maxHeartbeats 4000000 in
theorem kind_any (g : Nat) (l : List UInt8) (bad : Bool) (w : World) (hr : Rd B w g l bad) :
    Calls Try.prog 51 #[.pointer (some ⟨g, 0, none⟩)] w fun e w' => e = .returned (.int .i64 (kindOf (numP 1 l).1)) ∧ Rd B w' g (numP 1 l).2.1 (bad || (numP 1 l).2.2) ∧ w.grownBy w' (some g) := by
  have HR := Lib.hid hr
  clear hr
  have h256 := num1_lt l
  have hw : IntKind.u8.wrap ((numP 1 l).1 : Int) = (((UInt8.ofNat (numP 1 l).1).toNat : Nat) : Int) := by
    rw [IntKind.wrap_u8, UInt8.toNat_ofNat']; omega
  have he : (UInt8.ofNat (numP 1 l).1).toNat = (numP 1 l).1 := by rw [UInt8.toNat_ofNat']; omega
  have H256 := Lib.hid h256
  clear he h256
  go_enter Try.func51, Try.ntmps51
  go_wp2_with fail
  refine (number_any g 1 (by decide) l bad _ HR.out).mono ?_
  rintro e w1 ⟨rfl, hr1, hg1⟩
  have HR1 := Lib.hid hr1
  have HG1 := Lib.hid hg1
  clear hr1 hg1
  go_wp2_with fail
  refine (index2_any (UInt8.ofNat (numP 1 l).1) _).mono ?_
  rintro e w2 ⟨rfl, rfl⟩
  go_wp2_with fail
  go_ret
  exact ⟨by rw [Nat.mod_eq_of_lt H256.out]; rfl, HR1.out, HG1.out⟩

end Go.Proofs.Ytcjlbohgonagdaa
