/-
  The small functions of package frame, walked: May and what it calls; putNumber; own; the reader's take and number.
-/
import Derived.Test.YtkehhmkhanaecaaBy
import Derived.Test.YtkehhmkhanaecaaScope
import Derived.Deep.RegionHeld3
namespace Go.Proofs.Ytkehhmkhanaecaa
open Go.RowKit
set_option linter.unusedVariables false

/-- a frame as plain data. -/
structure Fr where
  kind : Int
  chan : Int
  data : List UInt8
def FitsN (k n m : Int) : Prop := (k = 8 ∧ n = 0) ∨ (¬ k = 8 ∧ 0 ≤ n ∧ n ≤ m)
def KindOk (k : Int) : Prop := k = 1 ∨ k = 2 ∨ k = 3 ∨ k = 8
def MayN (k c : Int) (n : Nat) : Prop := KindOk k ∧ FitsN k c 65535 ∧ FitsN k n 4096
def MayF (f : Fr) : Prop := MayN f.kind f.chan f.data.length

theorem fits_any (k n m : Int) (w : World) : Calls Try.prog 28 #[.int .i64 k, .int .i64 n, .int .i64 m] w (SaysW (FitsN k n m) w) := by
  by_cases h8 : k = 8
  · subst h8
    go_enter Try.func28, Try.ntmps28
    go_wp2_with fail
    go_ret
    exact ⟨_, by simp [FitsN], rfl, rfl⟩
  · have hb : (k == 8) = false := by simpa using h8
    by_cases h0 : 0 ≤ n
    · go_enter Try.func28, Try.ntmps28
      go_wp2_with fail
      go_ret
      exact ⟨_, by simp [FitsN, h8, h0], rfl, rfl⟩
    · go_enter Try.func28, Try.ntmps28
      go_wp2_with fail
      go_ret
      exact ⟨_, by simp [FitsN, h8]; omega, rfl, rfl⟩
theorem chan_any (k n : Int) (w : World) : Calls Try.prog 21 #[.int .i64 k, .int .i64 n] w (SaysW (FitsN k n 65535) w) := by
  go_enter Try.func21, Try.ntmps21
  go_wp2_with fail
  refine (fits_any k n 65535 _).mono ?_
  rintro e w' ⟨r, hr, rfl, rfl⟩
  go_wp2_with fail
  go_ret
  exact ⟨r, hr, rfl, rfl⟩
theorem length_any (k n : Int) (w : World) : Calls Try.prog 22 #[.int .i64 k, .int .i64 n] w (SaysW (FitsN k n 4096) w) := by
  go_enter Try.func22, Try.ntmps22
  go_wp2_with fail
  refine (fits_any k n 4096 _).mono ?_
  rintro e w' ⟨r, hr, rfl, rfl⟩
  go_wp2_with fail
  go_ret
  exact ⟨r, hr, rfl, rfl⟩
theorem kind_any (k : Int) (w : World) : Calls Try.prog 20 #[.int .i64 k] w (SaysW (KindOk k) w) := by
  by_cases h1 : k = 1
  · subst h1
    go_enter Try.func20, Try.ntmps20
    go_wp2_with fail
    go_ret
    exact ⟨_, by simp [KindOk], rfl, rfl⟩
  by_cases h2 : k = 2
  · subst h2
    go_enter Try.func20, Try.ntmps20
    go_wp2_with fail
    go_ret
    exact ⟨_, by simp [KindOk], rfl, rfl⟩
  by_cases h3 : k = 3
  · subst h3
    go_enter Try.func20, Try.ntmps20
    go_wp2_with fail
    go_ret
    exact ⟨_, by simp [KindOk], rfl, rfl⟩
  by_cases h8 : k = 8
  · subst h8
    go_enter Try.func20, Try.ntmps20
    go_wp2_with fail
    go_ret
    exact ⟨_, by simp [KindOk], rfl, rfl⟩
  have b1 : (k == 1) = false := by simpa using h1
  have b2 : (k == 2) = false := by simpa using h2
  have b3 : (k == 3) = false := by simpa using h3
  have b8 : (k == 8) = false := by simpa using h8
  go_enter Try.func20, Try.ntmps20
  go_wp2_with fail
  go_ret
  exact ⟨_, by simp [KindOk, h1, h2, h3, h8], rfl, rfl⟩

set_option maxHeartbeats 1000000 in
theorem may_any (k c : Int) (a : Option Addr) (n cap : Nat) (w : World) : Calls Try.prog 11 #[.agg #[.int .i64 k, .int .i64 c, .slice a n cap]] w (SaysB (MayN k c n) w) := by
  go_enter Try.func11, Try.ntmps11
  go_wp2_with fail
  refine (kind_any k _).mono ?_
  rintro e w' ⟨r, hr, rfl, rfl⟩
  have HR := Lib.hid hr
  clear hr
  cases r
  · go_wp2_with fail
    go_ret
    refine ⟨false, ?_, rfl, (Below.refl _ _).alloc (Nat.le_refl _) _⟩
    unfold MayN
    rw [← HR.out]
    simp
  go_wp2_with fail
  refine (chan_any k c _).mono ?_
  rintro e w' ⟨r, hr, rfl, rfl⟩
  have HR2 := Lib.hid hr
  clear hr
  cases r
  · go_wp2_with fail
    go_ret
    refine ⟨false, ?_, rfl, (Below.refl _ _).alloc (Nat.le_refl _) _⟩
    unfold MayN
    rw [← HR2.out]
    simp
  go_wp2_with fail
  refine (length_any k n _).mono ?_
  rintro e w' ⟨r, hr, rfl, rfl⟩
  have HR3 := Lib.hid hr
  clear hr
  go_wp2_with fail
  go_ret
  refine ⟨r, ?_, rfl, (Below.refl _ _).alloc (Nat.le_refl _) _⟩
  unfold MayN
  rw [← HR.out, ← HR2.out, ← HR3.out]
  simp

/-! ### numbers written -/
def putRel (v0 : Value) (base : Nat) (l : List UInt8) (n size : Nat) (W : World) (m : Nat) (a' : Act) (w' : World) : Prop :=
  ∃ (s : Nat) (v : Value) (u7 u8 u9 u10 u11 u12 u13 u14 u15 u16 u17 u18 u19 : Value), Onto W v0 w' v ∧ a' = { tmps := #[v, .int .i64 n, .int .i64 s, undef, undef, undef, .slice none 0 0, u7, u8, u9, u10, u11, u12, u13, u14, u15, u16, u17, u18, u19], defers := [] } ∧ s ≤ size ∧ s = m ∧ Buf w' base v (l ++ (be size n).take (size - s))

set_option maxRecDepth 100000 in
set_option maxHeartbeats 4000000 in
theorem putNum_any (base : Nat) (v : Value) (l : List UInt8) (n size : Nat) (hn : n < 9223372036854775808) (hsz : size ≤ 8) (w : World) (hb : Buf w base v l) (hbase : base ≤ w.heap.size) (hl : l.length ≤ 100000) :
    Calls Try.prog 19 #[v, .int .i64 n, .int .i64 size] w fun e w' => ∃ v', e = .returned v' ∧ Buf w' base v' (l ++ be size n) ∧ Onto w v w' v' := by
  have HN := Lib.hid hn
  clear hn
  go_enter Try.func19, Try.ntmps19
  go_wp2
  refine wp_scope_ghost 0 (putRel v base l n size w) rfl ?_ ?_
  · intro H hb'
    go_wp2
    go_step3
    rename_i hK
    refine hK _ _ (hb' size _ _ ⟨size, v, ?_⟩)
    repeat apply Exists.intro
    exact ⟨Onto.refl _ _, rfl, Nat.le_refl _, rfl, by simpa using hb⟩
  · rintro m a' w' ⟨s, v1, u7, u8, u9, u10, u11, u12, u13, u14, u15, u16, u17, u18, u19, hon, rfl, hs, rfl, hbuf⟩ H hH
    by_cases h0 : 0 < s
    · have HB := Lib.hid hbuf
      have HS := Lib.hid (be_step (n := n) h0 hs)
      clear hbuf
      have hle : (l ++ (be size n).take (size - s)).length ≤ 1000000 := by simp; omega
      go_wp2_with (at_builtin; refine put_one rfl (.tmp 11) (.tmp 17) rfl HB.out (Nat.le_trans hbase hon.grew.size) hle (UInt8.ofNat (n / 2 ^ (8 * (s - 1)) % 256)) (by simp) rfl _ rfl rfl ?_; intro v2 w2 hb2 hon2; have HB2 := Lib.hid hb2; clear hb2)
      go_step3
      refine ⟨rfl, hH (s - 1) _ _ (by omega) ⟨s - 1, v2, ?_⟩⟩
      repeat apply Exists.intro
      refine ⟨hon.trans hon2, ?_, by omega, rfl, ?_⟩
      · rw [show ((s - 1 : Nat) : Int) = (s : Int) - 1 by omega]
      · rw [HS.out, ← List.append_assoc]; exact HB2.out
    · go_wp2
      simp only [Exit.jump]
      go_ret
      obtain rfl : s = 0 := by omega
      rw [Nat.sub_zero, List.take_of_length_le (by simp)] at hbuf
      exact ⟨_, rfl, hbuf, hon⟩

/-! ### own -/
set_option maxHeartbeats 1000000 in
theorem own_any (a : Option Addr) (cap B : Nat) (l : List UInt8) (hl : l.length ≤ 100000) (w : World) (h : BytesAt B w a l) :
    Calls Try.prog 26 #[.slice a l.length cap] w fun e w' => ∃ v, e = .returned v ∧ Buf w' w.heap.size v l ∧ Below w.heap.size w w' := by
  have H := Lib.hid h
  clear h
  go_enter Try.func26, Try.ntmps26
  go_wp2_with (at_builtin; refine put_bytes (base := w.heap.size) (l := []) (m := l) rfl (.const (.slice none 0 0)) (.tmp 3) rfl (Buf.nil w _) (Nat.le_refl _) H.out (by simp; omega) rfl rfl rfl ?_; intro v2 w2 hb2 hon2; have HB2 := Lib.hid hb2; have HO2 := Lib.hid hon2; clear hb2 hon2)
  go_ret
  exact ⟨v2, rfl, HB2.out, HO2.out.below (Buf.nil w _) (Nat.le_refl _)⟩

/-! ### the reader -/
variable {B : Nat}
/-- the reader in block g: what is left. -/
def Rd (B : Nat) (w : World) (g : Nat) (l : List UInt8) : Prop := ∃ v, w.heap[g]? = some (.cells #[v] 51 (0, 0)) ∧ BytesIn B w v l
theorem rd_ne {v : Value} {a : Option Addr} {n c : Nat} (hv : v = .slice a n c) : ∀ (i : Nat) (m : Int), (#[v] : Array Value)[i]? ≠ some (.int .u8 m) := by
  intro i m
  subst hv
  match i with
  | 0 => simp
  | i + 1 => simp
theorem Rd.lt {w : World} {g : Nat} {l : List UInt8} (h : Rd B w g l) : g < w.heap.size := by
  obtain ⟨v, h, _⟩ := h
  exact (Array.getElem?_eq_some_iff.1 h).1

set_option maxRecDepth 100000 in
set_option maxHeartbeats 4000000 in
theorem take_short (g n : Nat) (hn : n < 9223372036854775808) (l : List UInt8) (w : World) (hr : Rd B w g l) (h : l.length < n) :
    Calls Try.prog 25 #[.pointer (some ⟨g, 0, none⟩), .int .i64 n] w fun e w' => e = .returned (.tuple #[.slice none 0 0, .bool false]) ∧ w = w' := by
  obtain ⟨v, hg, a, cap, rfl, hlc, hcm, hat⟩ := hr
  have c0 : w.cell? ⟨g, 0, none⟩ = some (.slice a l.length cap) := by rw [cell_of_row w _ _ _ _ _ hg]; rfl
  clear hat hg
  go_enter Try.func25, Try.ntmps25
  go_wp2
  go_ret2
  exact ⟨rfl, rfl⟩

set_option maxRecDepth 100000 in
set_option maxHeartbeats 4000000 in
theorem take_ok (g n : Nat) (l : List UInt8) (w : World) (hr : Rd B w g l) (h : n ≤ l.length) :
    Calls Try.prog 25 #[.pointer (some ⟨g, 0, none⟩), .int .i64 n] w fun e w' => ∃ v, e = .returned (.tuple #[v, .bool true]) ∧ BytesIn B w' v (l.take n) ∧ Rd B w' g (l.drop n) ∧ w.grownBy w' (some g) := by
  obtain ⟨v, hg, a, cap, rfl, hlc, hcm, hat⟩ := hr
  have c0 : w.cell? ⟨g, 0, none⟩ = some (.slice a l.length cap) := by rw [cell_of_row w _ _ _ _ _ hg]; rfl
  have f0 : w.frozen? ⟨g, 0, none⟩ = false := by simp [World.frozen?, hg]
  unfold maxLen at hcm
  have HAT := Lib.hid hat
  have HG := Lib.hid hg
  clear hat hg
  have i0 : (0 : Int) ≤ (n : Int) := by omega
  have i1 : (n : Int) ≤ (cap : Int) := by omega
  have i2 : (n : Int) ≤ (l.length : Int) := by omega
  have hl1 : (l.take n).length = n := by simp; omega
  have hl2 : (l.drop n).length = l.length - n := by simp
  have HL1 := Lib.hid hl1
  have HL2 := Lib.hid hl2
  clear hl1 hl2
  have hat : ∀ u, BytesAt B (w.setCell ⟨g, 0, none⟩ u) a l := fun u => HAT.out.other HG.out (rd_ne rfl) (set_grown _ _ _ _)
  have HA := Lib.hid hat
  clear hat
  by_cases hcn : cap = n
  · subst hcn
    go_enter Try.func25, Try.ntmps25
    go_wp2
    go_ret2
    have hl1 := HL1.out
    have hl2 := HL2.out
    refine ⟨_, rfl, ⟨a, cap, by rw [hl1]; rfl, by omega, by unfold maxLen; omega, (HA.out _).take cap⟩, ⟨.slice a 0 0, ?_, ?_⟩, set_grown _ _ _ _⟩
    · rw [set_heap HG.out]; simp
    · exact ⟨a, 0, by rw [hl2, show l.length - cap = 0 by omega], by omega, by unfold maxLen; omega, fun h0 => by omega⟩
  · go_enter Try.func25, Try.ntmps25
    go_wp2
    go_ret2
    have hl1 := HL1.out
    have hl2 := HL2.out
    refine ⟨_, rfl, ⟨a, cap, by rw [hl1]; rfl, by omega, by unfold maxLen; omega, (HA.out _).take n⟩, ⟨.slice (a.map (·.add n)) (l.length - n) (cap - n), ?_, ?_⟩, set_grown _ _ _ _⟩
    · rw [set_heap HG.out]; simp
    · refine ⟨_, cap - n, by rw [hl2], by omega, by unfold maxLen; omega, fun h0 => ?_⟩
      obtain ⟨b, o, rfl, _, hc⟩ := HAT.out (by omega)
      rw [Option.map_some, add_at]
      exact BytesAt.drop (HA.out _) n h0

def numRel (B : Nat) (w : World) (g k : Nat) (l : List UInt8) (m : Nat) (a' : Act) (w' : World) : Prop :=
  (Rd B w' g (l.drop k) ∧ w.grownBy w' (some g)) ∧ ∃ (a : Option Addr) (c : Nat) (dn rs : List UInt8) (u9 u10 u11 u12 u13 u14 u15 u16 u17 u18 u19 u20 u21 u22 u23 u24 u25 u26 u27 u28 : Value), a' = { tmps := #[.pointer (some ⟨g, 0, none⟩), .int .i64 k, undef, undef, .int .i64 0, .bool false, .slice a m c, .bool true, .int .i64 (de dn : Nat), u9, u10, u11, u12, u13, u14, u15, u16, u17, u18, u19, u20, u21, u22, u23, u24, u25, u26, u27, u28], defers := [] } ∧
    m = rs.length ∧ l.take k = dn ++ rs ∧ rs.length ≤ c ∧ c ≤ maxLen ∧ BytesAt B w' a rs

set_option maxRecDepth 100000 in
set_option maxHeartbeats 4000000 in
theorem number_ok (g k : Nat) (hk : k ≤ 6) (l : List UInt8) (w : World) (hr : Rd B w g l) (h : k ≤ l.length) :
    Calls Try.prog 24 #[.pointer (some ⟨g, 0, none⟩), .int .i64 k] w fun e w' => e = .returned (.tuple #[.int .i64 (de (l.take k)), .bool true]) ∧ Rd B w' g (l.drop k) ∧ w.grownBy w' (some g) := by
  have HR := Lib.hid hr
  clear hr
  have htl : (l.take k).length ≤ 6 := by simp; omega
  go_enter Try.func24, Try.ntmps24
  go_wp2
  refine wp_scope_ghost 0 (numRel B w g k l) rfl ?_ ?_
  · intro H hb'
    have HBK := Lib.hid hb'
    clear hb'
    go_wp2_with fail
    refine (take_ok g k l _ HR.out h).mono ?_
    rintro e w1 ⟨v1, rfl, ⟨a1, c1, rfl, hlc1, hcm1, hat1⟩, hr1, hg1⟩
    have HR1 := Lib.hid hr1
    have HA1 := Lib.hid hat1
    have HG1 := Lib.hid hg1
    clear hr1 hat1 hg1
    go_wp2_with fail
    go_step3
    rename_i hK
    refine hK _ _ (HBK.out k _ _ ⟨⟨HR1.out, HG1.out⟩, a1, c1, [], l.take k, ?_⟩)
    repeat apply Exists.intro
    exact ⟨rfl, by simp; omega, rfl, hlc1, hcm1, HA1.out⟩
  · rintro m a' w' ⟨⟨hr1, hg1⟩, a, c, dn, rs, u9, u10, u11, u12, u13, u14, u15, u16, u17, u18, u19, u20, u21, u22, u23, u24, u25, u26, u27, u28, rfl, rfl, hds, hrc, hcm, hat⟩ H hH
    have HR1 := Lib.hid hr1
    have HG1 := Lib.hid hg1
    have HDS := Lib.hid hds
    have HA := Lib.hid hat
    unfold maxLen at hcm
    have hl8 : dn.length + rs.length ≤ 6 := by rw [hds] at htl; simpa using htl
    clear hr1 hg1 hds hat
    cases rs with
    | nil =>
      simp only [List.length_nil] at *
      go_wp2
      simp only [Exit.jump]
      go_ret2
      have hds := HDS.out
      rw [List.append_nil] at hds
      exact ⟨by rw [hds]; rfl, HR1.out, HG1.out⟩
    | cons x r =>
      obtain ⟨b, o, rfl, _, hc⟩ := HA.out (by simp)
      have h0 := hc 0 (by simp)
      simp only [Nat.add_zero, List.getElem_cons_zero] at h0
      have hdl := de_lt dn
      simp only [List.length_cons] at *
      clear hc
      have hm56 : de dn < 1099511627776 := Nat.lt_of_lt_of_le hdl (by
        have : dn.length ≤ 5 := by omega
        exact (show (256 : Nat) ^ dn.length ≤ 256 ^ 5 from Nat.pow_le_pow_right (by decide) this))
      have HO := Lib.hid (or_byte (de dn) x (by omega))
      have HDN := Lib.hid (de_snoc dn x)
      have hm0 : (0 : Int) ≤ (de dn : Nat) := by omega
      have hm1 : ((de dn : Nat) : Int) < 1099511627776 := by omega
      have hx0 : (0 : Int) ≤ (x.toNat : Nat) := by omega
      have hx1 : ((x.toNat : Nat) : Int) < 256 := by have := x.toNat_lt; omega
      clear hdl hm56
      by_cases hc1 : c = 1
      · subst hc1
        obtain rfl : r = [] := List.eq_nil_of_length_eq_zero (by omega)
        go_wp2
        go_step3
        refine ⟨rfl, hH 0 _ _ (by simp) ⟨⟨HR1.out, HG1.out⟩, some ⟨b, o, none⟩, 0, dn ++ [x], [], ?_⟩⟩
        repeat apply Exists.intro
        refine ⟨?_, rfl, by rw [HDS.out]; simp, by simp, by simp [maxLen], fun h => by simp at h⟩
        rw [HDN.out, ← HO.out]
      · go_wp2
        go_step3
        refine ⟨rfl, hH r.length _ _ (by omega) ⟨⟨HR1.out, HG1.out⟩, some ⟨b, o + 1, none⟩, c - 1, dn ++ [x], r, ?_⟩⟩
        repeat apply Exists.intro
        refine ⟨?_, rfl, by rw [HDS.out]; simp, by omega, by unfold maxLen; omega, by simpa using BytesAt.drop HA.out 1⟩
        rw [HDN.out, ← HO.out]

set_option maxRecDepth 100000 in
set_option maxHeartbeats 4000000 in
theorem number_short (g k : Nat) (hk : k ≤ 6) (l : List UInt8) (w : World) (hr : Rd B w g l) (h : l.length < k) :
    Calls Try.prog 24 #[.pointer (some ⟨g, 0, none⟩), .int .i64 k] w fun e w' => e = .returned (.tuple #[.int .i64 0, .bool false]) ∧ w = w' := by
  have HR := Lib.hid hr
  clear hr
  go_enter Try.func24, Try.ntmps24
  go_wp2
  refine wp_scope_ghost 0 (fun m a' w' => w = w' ∧ m = 0 ∧ ∃ (u9 u10 u11 u12 u13 u14 u15 u16 u17 u18 u19 u20 u21 u22 u23 u24 u25 u26 u27 u28 : Value), a' = { tmps := #[.pointer (some ⟨g, 0, none⟩), .int .i64 k, undef, undef, .int .i64 0, .bool false, .slice none 0 0, .bool false, .int .i64 0, u9, u10, u11, u12, u13, u14, u15, u16, u17, u18, u19, u20, u21, u22, u23, u24, u25, u26, u27, u28], defers := [] }) rfl ?_ ?_
  · intro H hb'
    have HBK := Lib.hid hb'
    clear hb'
    go_wp2_with fail
    refine (take_short g k (by omega) l _ HR.out h).mono ?_
    rintro e w1 ⟨rfl, rfl⟩
    go_wp2_with fail
    go_step3
    rename_i hK
    refine hK _ _ (HBK.out 0 _ _ ⟨rfl, rfl, ?_⟩)
    repeat apply Exists.intro
    rfl
  · rintro m a' w' ⟨rfl, rfl, u9, u10, u11, u12, u13, u14, u15, u16, u17, u18, u19, u20, u21, u22, u23, u24, u25, u26, u27, u28, rfl⟩ H hH
    go_wp2
    simp only [Exit.jump]
    go_ret2
    exact ⟨rfl, rfl⟩

end Go.Proofs.Ytkehhmkhanaecaa
