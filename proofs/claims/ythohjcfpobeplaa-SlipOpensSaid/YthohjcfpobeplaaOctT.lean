/-
  package octet's Reader, walked.
-/
import Derived.Test.YthohjcfpobeplaaOctD
import Derived.Test.YthohjcfpobeplaaScope
import Derived.Lib.Bytealg
import Derived.IntWalk
import Derived.Laws.Externs
import Derived.Laws.Bits64b
namespace Go.Proofs.Ythohjcfpobeplaa
open Go.RowKit
set_option linter.unusedVariables false

variable {T : TypeId} {B : Nat}
/-- the reader (of type T, that holds it first) in block g: what is left, and whether it is bad. -/
def Rd (T : TypeId) (B : Nat) (w : World) (g : Nat) (l : List UInt8) (bad : Bool) : Prop := ∃ v, w.heap[g]? = some (.cells #[v, .bool bad] T (0, 0)) ∧ BytesIn B w v l

theorem rd_ne {v : Value} {a : Option Addr} {n c : Nat} (hv : v = .slice a n c) (bad : Bool) : ∀ (i : Nat) (m : Int), (#[v, .bool bad] : Array Value)[i]? ≠ some (.int .u8 m) := by
  intro i m
  subst hv
  match i with
  | 0 => simp
  | 1 => simp
  | i + 2 => simp

def TakeP (T : TypeId) (B : Nat) (g n : Nat) (l : List UInt8) (bad : Bool) (w : World) (e : Ending) (w' : World) : Prop :=
  ∃ v, e = .returned v ∧ BytesIn B w' v (takeP n l).1 ∧ Rd T B w' g (takeP n l).2.1 (bad || (takeP n l).2.2) ∧ w.grownBy w' (some g)

set_option maxRecDepth 100000 in
set_option maxHeartbeats 4000000 in
theorem take_any (g n : Nat) (hn : n < 18446744073709551616) (l : List UInt8) (bad : Bool) (w : World) (hr : Rd T B w g l bad) :
    Calls Try.prog 136 #[.pointer (some ⟨g, 0, none⟩), .int .u64 n] w (TakeP T B g n l bad w) := by
  obtain ⟨v, hg, a, cap, rfl, hlc, hcm, hat⟩ := hr
  have c0 : w.cell? ⟨g, 0, none⟩ = some (.slice a l.length cap) := by rw [cell_of_row w _ _ _ _ _ hg]; rfl
  have c1 : w.cell? ⟨g, 1, none⟩ = some (.bool bad) := by rw [cell_of_row w _ _ _ _ _ hg]; rfl
  have f0 : w.frozen? ⟨g, 0, none⟩ = false := by simp [World.frozen?, hg]
  have f1 : w.frozen? ⟨g, 1, none⟩ = false := by simp [World.frozen?, hg]
  unfold maxLen at hcm
  have hw : IntKind.u64.wrap (l.length : Int) = ((l.length : Nat) : Int) := by rw [IntKind.wrap_u64]; omega
  have HAT := Lib.hid hat
  have HG := Lib.hid hg
  have HN := Lib.hid hn
  clear hat hg hn
  by_cases h : l.length < n
  · go_enter Try.func136, Try.ntmps136
    go_wp2
    go_ret
    have hg1 := set_heap (set_heap HG.out 0 (.slice none 0 0)) 1 (.bool true)
    have hp : takeP n l = ([], [], true) := by unfold takeP; rw [if_pos h]
    refine ⟨_, rfl, ?_, ⟨.slice none 0 0, ?_, ?_⟩, GrownBy.trans (set_grown _ _ _ _) (set_grown _ _ _ _)⟩
    · rw [hp]; exact BytesIn.nil _
    · rw [hg1, hp]; simp
    · rw [hp]; exact BytesIn.nil _
  · have i0 : (0 : Int) ≤ (n : Int) := by omega
    have i1 : (n : Int) ≤ (cap : Int) := by omega
    have i2 : (n : Int) ≤ (l.length : Int) := by omega
    have hp : takeP n l = (l.take n, l.drop n, false) := by unfold takeP; rw [if_neg h]
    have HP := Lib.hid hp
    clear hp
    have hl1 : (l.take n).length = n := by simp; omega
    have hl2 : (l.drop n).length = l.length - n := by simp
    have HL1 := Lib.hid hl1
    have HL2 := Lib.hid hl2
    clear hl1 hl2
    have hat : ∀ u, BytesAt B (w.setCell ⟨g, 0, none⟩ u) a l := fun u => HAT.out.other HG.out (rd_ne rfl bad) (set_grown _ _ _ _)
    have HA := Lib.hid hat
    clear hat
    by_cases hcn : cap = n
    · subst hcn
      go_enter Try.func136, Try.ntmps136
      go_wp2
      go_ret
      have hp := HP.out
      have hl1 := HL1.out
      have hl2 := HL2.out
      refine ⟨_, rfl, ?_, ⟨.slice a 0 0, ?_, ?_⟩, set_grown _ _ _ _⟩
      · rw [hp]; show BytesIn _ _ _ (l.take _); exact ⟨a, cap, by rw [hl1]; rfl, by omega, by unfold maxLen; omega, (HA.out _).take cap⟩
      · rw [set_heap HG.out, hp]; simp
      · rw [hp]; show BytesIn _ _ _ (l.drop _); exact ⟨a, 0, by rw [hl2, show l.length - cap = 0 by omega], by omega, by unfold maxLen; omega, fun h0 => by omega⟩
    · go_enter Try.func136, Try.ntmps136
      go_wp2
      go_ret
      have hp := HP.out
      have hl1 := HL1.out
      have hl2 := HL2.out
      refine ⟨_, rfl, ?_, ⟨.slice (a.map (·.add n)) (l.length - n) (cap - n), ?_, ?_⟩, set_grown _ _ _ _⟩
      · rw [hp]; show BytesIn _ _ _ (l.take _); exact ⟨a, cap, by rw [hl1]; rfl, by omega, by unfold maxLen; omega, (HA.out _).take n⟩
      · rw [set_heap HG.out, hp]; simp
      · rw [hp]
        show BytesIn _ _ _ (l.drop n)
        refine ⟨_, cap - n, by rw [hl2], by omega, by unfold maxLen; omega, fun h0 => ?_⟩
        obtain ⟨b, o, rfl, _, hc⟩ := HAT.out (by omega)
        rw [Option.map_some, add_at]
        exact BytesAt.drop (HA.out _) n h0

theorem or_byte64 (m : Nat) (c : UInt8) (hm : m < 72057594037927936) : bits .or .u64 (IntKind.u64.wrap ((m : Int) * 256)) (IntKind.u64.wrap (c.toNat : Int)) = ((m * 256 + c.toNat : Nat) : Int) := by
  have hc : c.toNat < 256 := c.toNat_lt
  rw [show IntKind.u64.wrap ((m : Int) * 256) = ((m * 256 : Nat) : Int) by rw [IntKind.wrap_u64]; omega, show IntKind.u64.wrap (c.toNat : Int) = ((c.toNat : Nat) : Int) by rw [IntKind.wrap_u64]; omega]
  rw [bits_or_u64_nat _ _ (by omega) (by omega)]
  congr 1
  rw [show m * 256 = m <<< 8 by rw [Nat.shiftLeft_eq], ← Nat.shiftLeft_add_eq_or_of_lt (by omega)]

def numRel (T : TypeId) (B : Nat) (w : World) (g k : Nat) (l : List UInt8) (bad : Bool) (m : Nat) (a' : Act) (w' : World) : Prop :=
  (Rd T B w' g (numP k l).2.1 (bad || (numP k l).2.2) ∧ w.grownBy w' (some g)) ∧ ∃ (a : Option Addr) (c : Nat) (dn rs : List UInt8) (u7 u8 u9 u10 u11 u12 u13 u14 u15 u16 u17 u18 u19 u20 u21 u22 u23 : Value), a' = { tmps := #[.pointer (some ⟨g, 0, none⟩), .int .i64 k, undef, undef, .int .u64 0, .slice a rs.length c, .int .u64 (de dn : Nat), u7, u8, u9, u10, u11, u12, u13, u14, u15, u16, u17, u18, u19, u20, u21, u22, u23], defers := [] } ∧
    m = rs.length ∧ (takeP k l).1 = dn ++ rs ∧ rs.length ≤ c ∧ c ≤ maxLen ∧ BytesAt B w' a rs

set_option maxRecDepth 100000 in
set_option maxHeartbeats 4000000 in
theorem number_any (g k : Nat) (hk : k ≤ 8) (l : List UInt8) (bad : Bool) (w : World) (hr : Rd T B w g l bad) :
    Calls Try.prog 132 #[.pointer (some ⟨g, 0, none⟩), .int .i64 k] w fun e w' => e = .returned (.int .u64 (numP k l).1) ∧ Rd T B w' g (numP k l).2.1 (bad || (numP k l).2.2) ∧ w.grownBy w' (some g) := by
  have HR := Lib.hid hr
  clear hr
  have htl : (takeP k l).1.length ≤ 8 := by
    unfold takeP; split
    · simp
    · simp; omega
  go_enter Try.func132, Try.ntmps132
  go_wp2
  refine wp_scope_ghost 0 (numRel T B w g k l bad) rfl ?_ ?_
  · intro H hb'
    have HBK := Lib.hid hb'
    clear hb'
    go_wp2_with fail
    refine (take_any g k (by omega) l bad _ HR.out).mono ?_
    rintro e w1 ⟨v1, rfl, ⟨a1, c1, rfl, hlc1, hcm1, hat1⟩, hr1, hg1⟩
    have HR1 := Lib.hid hr1
    have HA1 := Lib.hid hat1
    have HG1 := Lib.hid hg1
    clear hr1 hat1 hg1
    go_wp2_with fail
    go_step3
    rename_i hK
    refine hK _ _ (HBK.out (takeP k l).1.length _ _ ⟨⟨HR1.out, HG1.out⟩, a1, c1, [], (takeP k l).1, ?_⟩)
    repeat apply Exists.intro
    exact ⟨rfl, rfl, rfl, hlc1, hcm1, HA1.out⟩
  · rintro m a' w' ⟨⟨hr1, hg1⟩, a, c, dn, rs, u7, u8, u9, u10, u11, u12, u13, u14, u15, u16, u17, u18, u19, u20, u21, u22, u23, rfl, rfl, hds, hrc, hcm, hat⟩ H hH
    have HR1 := Lib.hid hr1
    have HG1 := Lib.hid hg1
    have HDS := Lib.hid hds
    have HA := Lib.hid hat
    unfold maxLen at hcm
    have hl8 : dn.length + rs.length ≤ 8 := by rw [hds] at htl; simpa using htl
    clear hr1 hg1 hds hat
    cases rs with
    | nil =>
      simp only [List.length_nil] at *
      go_wp2
      simp only [Exit.jump]
      go_ret
      have hds := HDS.out
      rw [List.append_nil] at hds
      exact ⟨by rw [show (numP k l).1 = de (takeP k l).1 from rfl, hds]; rfl, HR1.out, HG1.out⟩
    | cons x r =>
      obtain ⟨b, o, rfl, _, hc⟩ := HA.out (by simp)
      have h0 := hc 0 (by simp)
      simp only [Nat.add_zero, List.getElem_cons_zero] at h0
      have hdl := de_lt dn
      simp only [List.length_cons] at *
      clear hc
      have hm56 : de dn < 72057594037927936 := Nat.lt_of_lt_of_le hdl (by
        have : dn.length ≤ 7 := by omega
        exact (show (256 : Nat) ^ dn.length ≤ 256 ^ 7 from Nat.pow_le_pow_right (by decide) this))
      have HO := Lib.hid (or_byte64 (de dn) x hm56)
      have HDN := Lib.hid (de_snoc dn x)
      clear hdl hm56
      by_cases hc1 : c = 1
      · subst hc1
        obtain rfl : r = [] := List.eq_nil_of_length_eq_zero (by omega)
        go_wp2
        go_step3
        refine ⟨rfl, hH 0 _ _ (by simp) ⟨⟨HR1.out, HG1.out⟩, some ⟨b, o, none⟩, 0, dn ++ [x], [], ?_⟩⟩
        repeat apply Exists.intro
        refine ⟨?_, rfl, by rw [HDS.out]; simp, by simp, by simp [maxLen], fun h => by simp at h⟩
        rw [HDN.out, ← HO.out]
        rfl
      · go_wp2
        go_step3
        refine ⟨rfl, hH r.length _ _ (by omega) ⟨⟨HR1.out, HG1.out⟩, some ⟨b, o + 1, none⟩, c - 1, dn ++ [x], r, ?_⟩⟩
        repeat apply Exists.intro
        refine ⟨?_, rfl, by rw [HDS.out]; simp, by omega, by unfold maxLen; omega, by simpa using BytesAt.drop HA.out 1⟩
        rw [HDN.out, ← HO.out]

theorem numP_lt64 (k : Nat) (hk : k ≤ 8) (l : List UInt8) : (numP k l).1 < 18446744073709551616 := by
  have h := de_lt (takeP k l).1
  have h8 : (takeP k l).1.length ≤ 8 := by
    unfold takeP; split
    · simp
    · simp; omega
  exact Nat.lt_of_lt_of_le h (show (256 : Nat) ^ (takeP k l).1.length ≤ 256 ^ 8 from Nat.pow_le_pow_right (by decide) h8)

theorem num1_lt (l : List UInt8) : (numP 1 l).1 < 256 := by
  have h := de_lt (takeP 1 l).1
  have h1 : (takeP 1 l).1.length ≤ 1 := by
    unfold takeP; split
    · simp
    · simp; omega
  exact Nat.lt_of_lt_of_le h (show (256 : Nat) ^ (takeP 1 l).1.length ≤ 256 ^ 1 from Nat.pow_le_pow_right (by decide) h1)

theorem Rd.lt {w : World} {g : Nat} {l : List UInt8} {bad : Bool} (h : Rd T B w g l bad) : g < w.heap.size := by
  obtain ⟨v, h, _⟩ := h
  exact (Array.getElem?_eq_some_iff.1 h).1

theorem Rd.alloc {w : World} {g : Nat} {l : List UInt8} {bad : Bool} (h : Rd T B w g l bad) (o : Obj) : Rd T B (w.alloc o) g l bad := by
  have hg := h.lt
  obtain ⟨v, h, a, cap, hv, h1, h2, h3⟩ := h
  exact ⟨v, (Below.heap_alloc w _ g hg).trans h, a, cap, hv, h1, h2, h3.below ((Below.refl _ _).alloc (Nat.le_refl _) _)⟩

theorem cells4 {w : World} {g : Nat} {k n s v : Value} {t : TypeId} (h : w.heap[g]? = some (.cells #[k, n, s, v] t (0, 0))) :
    (w.cell? ⟨g, 0, none⟩ = some k ∧ w.cell? ⟨g, 1, none⟩ = some n ∧ w.cell? ⟨g, 2, none⟩ = some s ∧ w.cell? ⟨g, 3, none⟩ = some v) ∧ w.frozen? ⟨g, 0, none⟩ = false ∧ w.frozen? ⟨g, 1, none⟩ = false ∧ w.frozen? ⟨g, 2, none⟩ = false ∧ w.frozen? ⟨g, 3, none⟩ = false := by
  refine ⟨⟨?_, ?_, ?_, ?_⟩, ?_, ?_, ?_, ?_⟩
  all_goals first | (rw [cell_of_row w _ _ _ _ _ h]; rfl) | simp [World.frozen?, h]

/-- two boxes, one made at the beginning and one later, behind a call that wrote block g alone. -/
theorem two_boxes {w w1 w2 : World} {g : Nat} {o1 o2 : Obj} (hg : g < w.heap.size) (h1 : (w.alloc o1).grownBy w1 (some g)) (h2 : (w1.alloc o2).grownBy w2 (some g)) :
    w2.heap[w.heap.size]? = some o1 ∧ w2.heap[w1.heap.size]? = some o2 ∧ w.heap.size < w1.heap.size ∧ w1.heap.size < w2.heap.size ∧ w.grownBy w2 (some g) := by
  have s1 := h1.size
  have s2 := h2.size
  simp at s1 s2
  refine ⟨?_, ?_, by omega, by omega, ?_⟩
  · rw [h2.block _ (by simp; omega) (by intro e; cases e; omega), Below.heap_alloc w1 _ _ (by omega), h1.block _ (by simp) (by intro e; cases e; omega)]
    exact heap_alloc_new w _
  · rw [h2.block _ (by simp) (by intro e; cases e; omega)]
    exact heap_alloc_new w1 _
  · refine ⟨h2.os.trans h1.os, h2.tape.trans h1.tape, h2.output.trans h1.output, by omega, fun k hk hne => ?_⟩
    rw [h2.block k (by simp; omega) hne, Below.heap_alloc w1 _ _ (by omega), h1.block k (by simp; omega) hne, Below.heap_alloc w _ _ hk]

theorem set_later {w w2 : World} {g b i : Nat} {u : Value} (h : w.grownBy w2 (some g)) (hb : w.heap.size ≤ b) : w.grownBy (w2.setCell ⟨b, i, none⟩ u) (some g) :=
  ⟨h.os, h.tape, h.output, by simpa [World.setCell] using h.size, fun k hk hne => (Below.heap_setCell w2 ⟨b, i, none⟩ u k (by simp; omega)).trans (h.block k hk hne)⟩

/-- stores into two boxes leave a reader as it was. -/
theorem Rd.stores {w w' : World} {g A C : Nat} {l : List UInt8} {bad : Bool} {ca cb : Array Value} {ta tb : TypeId} {fa fb : Nat × Nat} (h : Rd T B w g l bad) (hA : w.heap[A]? = some (.cells ca ta fa)) (hB : w.heap[C]? = some (.cells cb tb fb))
    (na : ∀ (i : Nat) (n : Int), ca[i]? ≠ some (.int .u8 n)) (nb : ∀ (i : Nat) (n : Int), cb[i]? ≠ some (.int .u8 n)) (hk : ∀ b, b ≠ A → b ≠ C → w'.heap[b]? = w.heap[b]?) (gA : g ≠ A) (gB : g ≠ C) : Rd T B w' g l bad := by
  obtain ⟨v, h, a, cap, hv, h1, h2, h3⟩ := h
  refine ⟨v, (hk g gA gB).trans h, a, cap, hv, h1, h2, fun h0 => ?_⟩
  obtain ⟨b, o, ha, hbB, hc⟩ := h3 h0
  have e1 : b ≠ A := by
    rintro rfl
    have := hc 0 h0
    rw [cell_of_row w _ _ _ _ _ hA] at this
    exact na _ _ this
  have e2 : b ≠ C := by
    rintro rfl
    have := hc 0 h0
    rw [cell_of_row w _ _ _ _ _ hB] at this
    exact nb _ _ this
  exact ⟨b, o, ha, hbB, fun i hi => (World.cell?_of_block (w := w) (a := ⟨b, o + i, none⟩) (hk b e1 e2)).trans (hc i hi)⟩

theorem num_lt (k : Nat) (l : List UInt8) : (numP k l).1 < 256 ^ k := by
  have h := de_lt (takeP k l).1
  have h1 : (takeP k l).1.length ≤ k := by
    unfold takeP; split
    · simp
    · simp; omega
  exact Nat.lt_of_lt_of_le h (Nat.pow_le_pow_right (by decide) h1)

theorem Rd.frame {w w' : World} {g : Nat} {l : List UInt8} {bad : Bool} (h : Rd T B w g l bad) (hk : ∀ b, b < B → w'.heap[b]? = w.heap[b]?) (hg : w'.heap[g]? = w.heap[g]?) : Rd T B w' g l bad := by
  obtain ⟨v, h, a, cap, hv, h1, h2, h3⟩ := h
  refine ⟨v, hg.trans h, a, cap, hv, h1, h2, fun h0 => ?_⟩
  obtain ⟨b, o, ha, hbB, hc⟩ := h3 h0
  exact ⟨b, o, ha, hbB, fun i hi => (World.cell?_of_block (w := w) (a := ⟨b, o + i, none⟩) (hk b hbB)).trans (hc i hi)⟩

end Go.Proofs.Ythohjcfpobeplaa
