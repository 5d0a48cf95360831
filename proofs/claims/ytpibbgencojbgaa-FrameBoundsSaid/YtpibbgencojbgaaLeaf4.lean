/-
  The small functions of package frame, walked: May and what it calls; own; octet's Reader in short.
-/
import Derived.Test.YtpibbgencojbgaaBy
import Derived.Test.YtpibbgencojbgaaScope
import Derived.Test.YtpibbgencojbgaaOctP
import Derived.Test.YtpibbgencojbgaaOctR
import Derived.Deep.RegionHeld3
namespace Go.Proofs.Ytpibbgencojbgaa
open Go.RowKit
set_option linter.unusedVariables false

/-- a frame as plain data. -/
structure Fr where
  kind : Int
  chan : Int
  data : List UInt8
def FitsN (k n m : Int) : Prop := (k = 8 ∧ n = 0) ∨ (¬ k = 8 ∧ 0 ≤ n ∧ n ≤ m)
def KindOk (k : Int) : Prop := k = 1 ∨ k = 2 ∨ k = 3 ∨ k = 8
def MayN (k c : Int) (n : Nat) : Prop := KindOk k ∧ FitsN k c 65535 ∧ FitsN k n 4096
def MayF (f : Fr) : Prop := MayN f.kind f.chan f.data.length

theorem fits_any (k n m : Int) (w : World) : Calls Try.prog 74 #[.int .i64 k, .int .i64 n, .int .i64 m] w (SaysW (FitsN k n m) w) := by
  by_cases h8 : k = 8
  · subst h8
    go_enter Try.func74, Try.ntmps74
    go_wp2_with fail
    go_ret
    exact ⟨_, by simp [FitsN], rfl, rfl⟩
  · have hb : (k == 8) = false := by simpa using h8
    by_cases h0 : 0 ≤ n
    · go_enter Try.func74, Try.ntmps74
      go_wp2_with fail
      go_ret
      exact ⟨_, by simp [FitsN, h8, h0], rfl, rfl⟩
    · go_enter Try.func74, Try.ntmps74
      go_wp2_with fail
      go_ret
      exact ⟨_, by simp [FitsN, h8]; omega, rfl, rfl⟩
theorem chan_any (k n : Int) (w : World) : Calls Try.prog 57 #[.int .i64 k, .int .i64 n] w (SaysW (FitsN k n 65535) w) := by
  go_enter Try.func57, Try.ntmps57
  go_wp2_with fail
  refine (fits_any k n 65535 _).mono ?_
  rintro e w' ⟨r, hr, rfl, rfl⟩
  go_wp2_with fail
  go_ret
  exact ⟨r, hr, rfl, rfl⟩
theorem length_any (k n : Int) (w : World) : Calls Try.prog 58 #[.int .i64 k, .int .i64 n] w (SaysW (FitsN k n 4096) w) := by
  go_enter Try.func58, Try.ntmps58
  go_wp2_with fail
  refine (fits_any k n 4096 _).mono ?_
  rintro e w' ⟨r, hr, rfl, rfl⟩
  go_wp2_with fail
  go_ret
  exact ⟨r, hr, rfl, rfl⟩
theorem kind_any (k : Int) (w : World) : Calls Try.prog 56 #[.int .i64 k] w (SaysW (KindOk k) w) := by
  by_cases h1 : k = 1
  · subst h1
    go_enter Try.func56, Try.ntmps56
    go_wp2_with fail
    go_ret
    exact ⟨_, by simp [KindOk], rfl, rfl⟩
  by_cases h2 : k = 2
  · subst h2
    go_enter Try.func56, Try.ntmps56
    go_wp2_with fail
    go_ret
    exact ⟨_, by simp [KindOk], rfl, rfl⟩
  by_cases h3 : k = 3
  · subst h3
    go_enter Try.func56, Try.ntmps56
    go_wp2_with fail
    go_ret
    exact ⟨_, by simp [KindOk], rfl, rfl⟩
  by_cases h8 : k = 8
  · subst h8
    go_enter Try.func56, Try.ntmps56
    go_wp2_with fail
    go_ret
    exact ⟨_, by simp [KindOk], rfl, rfl⟩
  have b1 : (k == 1) = false := by simpa using h1
  have b2 : (k == 2) = false := by simpa using h2
  have b3 : (k == 3) = false := by simpa using h3
  have b8 : (k == 8) = false := by simpa using h8
  go_enter Try.func56, Try.ntmps56
  go_wp2_with fail
  go_ret
  exact ⟨_, by simp [KindOk, h1, h2, h3, h8], rfl, rfl⟩

set_option maxHeartbeats 1000000 in
theorem may_any (k c : Int) (a : Option Addr) (n cap : Nat) (w : World) : Calls Try.prog 31 #[.agg #[.int .i64 k, .int .i64 c, .slice a n cap]] w (SaysB (MayN k c n) w) := by
  go_enter Try.func31, Try.ntmps31
  go_wp2_with fail
  refine (kind_any k _).mono ?_
  rintro e w' ⟨r, hr, rfl, rfl⟩
  have HR := Lib.hid hr
  clear hr
  cases r
  · go_wp2_with fail
    go_ret
    refine ⟨false, ?_, rfl, (Below.refl _ _).alloc (Nat.le_refl _) _⟩
    unfold MayN
    rw [← HR.out]
    simp
  go_wp2_with fail
  refine (chan_any k c _).mono ?_
  rintro e w' ⟨r, hr, rfl, rfl⟩
  have HR2 := Lib.hid hr
  clear hr
  cases r
  · go_wp2_with fail
    go_ret
    refine ⟨false, ?_, rfl, (Below.refl _ _).alloc (Nat.le_refl _) _⟩
    unfold MayN
    rw [← HR2.out]
    simp
  go_wp2_with fail
  refine (length_any k n _).mono ?_
  rintro e w' ⟨r, hr, rfl, rfl⟩
  have HR3 := Lib.hid hr
  clear hr
  go_wp2_with fail
  go_ret
  refine ⟨r, ?_, rfl, (Below.refl _ _).alloc (Nat.le_refl _) _⟩
  unfold MayN
  rw [← HR.out, ← HR2.out, ← HR3.out]
  simp

/-! ### own -/
set_option maxHeartbeats 1000000 in
theorem own_any (a : Option Addr) (cap B : Nat) (l : List UInt8) (hl : l.length ≤ 100000) (w : World) (h : BytesAt B w a l) :
    Calls Try.prog 61 #[.slice a l.length cap] w fun e w' => ∃ v, e = .returned v ∧ Buf w' w.heap.size v l ∧ Below w.heap.size w w' := by
  have H := Lib.hid h
  clear h
  go_enter Try.func61, Try.ntmps61
  go_wp2_with (at_builtin; refine put_bytes (base := w.heap.size) (l := []) (m := l) rfl (.const (.slice none 0 0)) (.tmp 3) rfl (Buf.nil w _) (Nat.le_refl _) H.out (by simp; omega) rfl rfl rfl ?_; intro v2 w2 hb2 hon2; have HB2 := Lib.hid hb2; have HO2 := Lib.hid hon2; clear hb2 hon2)
  go_ret
  exact ⟨v2, rfl, HB2.out, HO2.out.below (Buf.nil w _) (Nat.le_refl _)⟩

/-! ### the reader -/
theorem numF_ok {k : Nat} {l : List UInt8} (h : k ≤ l.length) : numP k l = (de (l.take k), l.drop k, false) := by
  unfold numP takeP
  rw [if_neg (by omega)]
theorem numF_short {k : Nat} {l : List UInt8} (h : l.length < k) : numP k l = (0, [], true) := by
  unfold numP takeP
  rw [if_pos h]
  rfl
theorem Rd.bad {T : TypeId} {B : Nat} {w : World} {g : Nat} {l : List UInt8} {b : Bool} (h : Rd T B w g l b) : w.cell? ⟨g, 1, none⟩ = some (.bool b) := by
  obtain ⟨v, h, _⟩ := h
  rw [cell_of_row w _ _ _ _ _ h]
  rfl
variable {B : Nat}
theorem number_ok (g k : Nat) (hk : k ≤ 8) (l : List UInt8) (w : World) (hr : Rd 72 B w g l false) (h : k ≤ l.length) :
    Calls Try.prog 59 #[.pointer (some ⟨g, 0, none⟩), .int .i64 k] w fun e w' => e = .returned (.int .u64 (de (l.take k) : Nat)) ∧ Rd 72 B w' g (l.drop k) false ∧ w.grownBy w' (some g) := by
  refine (number_any g k hk l false w hr).mono ?_
  rw [numF_ok h]
  exact fun e w' h => h
theorem number_short (g k : Nat) (hk : k ≤ 8) (l : List UInt8) (w : World) (hr : Rd 72 B w g l false) (h : l.length < k) :
    Calls Try.prog 59 #[.pointer (some ⟨g, 0, none⟩), .int .i64 k] w fun e w' => e = .returned (.int .u64 (0 : Nat)) ∧ Rd 72 B w' g [] true ∧ w.grownBy w' (some g) := by
  refine (number_any g k hk l false w hr).mono ?_
  rw [numF_short h]
  exact fun e w' h => h
theorem take_ok (g n : Nat) (hn : n < 18446744073709551616) (l : List UInt8) (w : World) (hr : Rd 72 B w g l false) (h : n ≤ l.length) :
    Calls Try.prog 60 #[.pointer (some ⟨g, 0, none⟩), .int .u64 n] w fun e w' => ∃ v, e = .returned v ∧ BytesIn B w' v (l.take n) ∧ Rd 72 B w' g (l.drop n) false ∧ w.grownBy w' (some g) := by
  have hp : takeP n l = (l.take n, l.drop n, false) := by unfold takeP; rw [if_neg (by omega)]
  refine (take_any g n hn l false w hr).mono ?_
  unfold TakeP
  rw [hp]
  exact fun e w' h => h
theorem take_short (g n : Nat) (hn : n < 18446744073709551616) (l : List UInt8) (w : World) (hr : Rd 72 B w g l false) (h : l.length < n) :
    Calls Try.prog 60 #[.pointer (some ⟨g, 0, none⟩), .int .u64 n] w fun e w' => ∃ v, e = .returned v ∧ BytesIn B w' v [] ∧ Rd 72 B w' g [] true ∧ w.grownBy w' (some g) := by
  have hp : takeP n l = ([], [], true) := by unfold takeP; rw [if_pos h]
  refine (take_any g n hn l false w hr).mono ?_
  unfold TakeP
  rw [hp]
  exact fun e w' h => h

end Go.Proofs.Ytpibbgencojbgaa
