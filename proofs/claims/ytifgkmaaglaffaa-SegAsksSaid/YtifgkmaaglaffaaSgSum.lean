/-
  Sum and mayLength of package seg, the document's Sum and MayBytes, walked.
-/
import Derived.Test.YtifgkmaaglaffaaSgDat
import Derived.Deep.LoopGhost
import Derived.IntWalk
namespace Go.Proofs.Ytifgkmaaglaffaa.Sg
open Go.RowKit
set_option linter.unusedVariables false
variable {B : Nat}

theorem ret_bool {a b : Bool} (h : a = b) : Ending.returned (.bool a) = .returned (.bool b) := by rw [h]
theorem ret_u32 {a b : Int} (h : a = b) : Ending.returned (.int .u32 a) = .returned (.int .u32 b) := by rw [h]
theorem val_u32 {a b : Int} (h : a = b) : Value.int .u32 a = .int .u32 b := by rw [h]

def sumRel (w : World) (l : List UInt8) (m : Nat) (u v k : Value) (wr : World) : Prop :=
  ∃ i : Nat, i ≤ l.length ∧ u = .int .u32 ((sums (l.take i)).1 : Nat) ∧ v = .int .u32 ((sums (l.take i)).2 : Nat) ∧ k = .int .i64 i ∧ m = l.length - i ∧ wr = w

theorem sums_next {l : List UInt8} {i : Nat} (h : i < l.length) : sums (l.take (i + 1)) = sx (sums (l.take i)) l[i] := by
  rw [List.take_succ_eq_append_getElem h, sums_snoc]

theorem mayLength_any (n : Int) (w : World) : Calls Try.prog 31 #[.int .i64 n] w fun e w' => e = .returned (.bool (decide (1 ≤ n ∧ n ≤ 20000))) ∧ w = w' := by
  by_cases h1 : 1 ≤ n
  · go_enter Try.func31, Try.ntmps31
    go_wp2_with fail
    go_ret
    exact ⟨ret_bool (by simp [h1]), rfl⟩
  · have hd : Hid ((decide (1 ≤ n) && decide (n ≤ 20000)) = false) := Lib.hid (by rw [decide_eq_false h1]; rfl)
    go_enter Try.func31, Try.ntmps31
    go_wp2_with fail
    go_ret
    exact ⟨by rw [hd.out]; rfl, rfl⟩

set_option maxHeartbeats 1000000 in
theorem sum_any (a : Option Addr) (cap : Nat) (l : List UInt8) (hl : l.length ≤ cap) (hcap : cap ≤ maxLen) (w : World) (hat : BytesAt B w a l) :
    Calls Try.prog 17 #[.slice a l.length cap] w fun e w' => e = .returned (.int .u32 (sumF l : Nat)) ∧ w = w' := by
  unfold maxLen at hcap
  have HAT := Lib.hid hat
  clear hat
  go_enter Try.func17, Try.ntmps17
  go_wp2_with fail
  go_loopg [3, 4, 9] l.length (sumRel w l)
  case atStart => exact ⟨0, Nat.zero_le _, rfl, rfl, rfl, rfl, rfl⟩
  case round =>
    obtain ⟨i, hi, rfl, rfl, rfl, rfl, rfl⟩ := hrel
    have hsl := sums_lt (l.take i)
    by_cases hlt : i < l.length
    · have hlti : (i : Int) < (l.length : Int) := by omega
      have h0i : (0 : Int) ≤ (i : Int) := by omega
      obtain ⟨b, o, rfl, -, hc⟩ := HAT.out (by omega)
      have c0 := hc i hlt
      clear hc
      have HS := Lib.hid (sums_next hlt)
      obtain ⟨x, hx⟩ : ∃ x, (sums (l.take i)).1 = x := ⟨_, rfl⟩
      obtain ⟨y, hy⟩ : ∃ y, (sums (l.take i)).2 = y := ⟨_, rfl⟩
      obtain ⟨c, hcc⟩ : ∃ c : UInt8, l[i] = c := ⟨_, rfl⟩
      have HS1 : Hid ((sums (l.take (i + 1))).1 = (31 * x + c.toNat + 1) % 65521) := Lib.hid (by rw [HS.out, ← hx, ← hcc]; rfl)
      have HS2 : Hid ((sums (l.take (i + 1))).2 = (y + (31 * x + c.toNat + 1) % 65521) % 65521) := Lib.hid (by rw [HS.out, ← hx, ← hcc, ← hy]; rfl)
      rw [hx, hy] at hsl ⊢
      rw [hcc] at c0
      have hc8 : c.toNat < 256 := c.toNat_lt
      obtain ⟨hx1, hy1⟩ := hsl
      clear HS hx hy hcc
      go_wp2_with fail
      go_roundg (l.length - (i + 1))
      case measure => omega
      case rel => exact ⟨i + 1, by omega, val_u32 (by rw [HS1.out]; omega), val_u32 (by rw [HS2.out]; omega), by simp, rfl, rfl⟩
    · obtain rfl : i = l.length := by omega
      have HT := Lib.hid (show l.take l.length = l from List.take_of_length_le (Nat.le_refl _))
      obtain ⟨x, hx⟩ : ∃ x, (sums (l.take l.length)).1 = x := ⟨_, rfl⟩
      obtain ⟨y, hy⟩ : ∃ y, (sums (l.take l.length)).2 = y := ⟨_, rfl⟩
      have HS : Hid (sumF l = 65536 * y + x) := Lib.hid (by unfold sumF; rw [← hx, ← hy, HT.out])
      rw [hx, hy] at hsl ⊢
      obtain ⟨hx1, hy1⟩ := hsl
      clear HT hx hy
      go_wp2_with fail
      go_ret
      exact ⟨ret_u32 (by rw [HS.out]; omega), rfl⟩

set_option maxHeartbeats 1000000 in
theorem rsum_any (s : ByteArray) (hs : s.size ≤ maxLen) (w : World) :
    Calls Try.prog 18 #[.string s] w fun e w' => e = .returned (.int .u32 (sumF s.data.toList : Nat)) ∧ w = w' := by
  unfold maxLen at hs
  have HL := Lib.hid (size_toList s)
  go_enter Try.func18, Try.ntmps18
  go_wp2_with fail
  go_loopg [3, 4, 5] s.data.toList.length (sumRel w s.data.toList)
  case atStart => exact ⟨0, Nat.zero_le _, rfl, rfl, rfl, rfl, rfl⟩
  case round =>
    obtain ⟨i, hi, rfl, rfl, rfl, rfl, rfl⟩ := hrel
    rw [HL.out] at hi
    have hsl := sums_lt (s.data.toList.take i)
    by_cases hlt : i < s.size
    · have hlti : (i : Int) < (s.size : Int) := by omega
      have h0i : (0 : Int) ≤ (i : Int) := by omega
      have HS := Lib.hid (sums_next (l := s.data.toList) (i := i) (by rw [HL.out]; exact hlt))
      obtain ⟨x, hx⟩ : ∃ x, (sums (s.data.toList.take i)).1 = x := ⟨_, rfl⟩
      obtain ⟨y, hy⟩ : ∃ y, (sums (s.data.toList.take i)).2 = y := ⟨_, rfl⟩
      have hcc : s.data.toList[i]'(by rw [HL.out]; exact hlt) = s[i] := rfl
      have HS1 : Hid ((sums (s.data.toList.take (i + 1))).1 = (31 * x + s[i].toNat + 1) % 65521) := Lib.hid (by rw [HS.out, ← hx]; rfl)
      have HS2 : Hid ((sums (s.data.toList.take (i + 1))).2 = (y + (31 * x + s[i].toNat + 1) % 65521) % 65521) := Lib.hid (by rw [HS.out, ← hx, ← hy]; rfl)
      rw [hx, hy] at hsl ⊢
      have hc8 : s[i].toNat < 256 := s[i].toNat_lt
      obtain ⟨hx1, hy1⟩ := hsl
      clear HS hx hy hcc
      go_wp2_with fail
      go_roundg (s.data.toList.length - (i + 1))
      case measure => rw [HL.out]; omega
      case rel => exact ⟨i + 1, by rw [HL.out]; omega, val_u32 (by rw [HS1.out]; omega), val_u32 (by rw [HS2.out]; omega), by simp, rfl, rfl⟩
    · obtain rfl : i = s.size := by omega
      have HT := Lib.hid (show s.data.toList.take s.size = s.data.toList from List.take_of_length_le (by simp))
      obtain ⟨x, hx⟩ : ∃ x, (sums (s.data.toList.take s.size)).1 = x := ⟨_, rfl⟩
      obtain ⟨y, hy⟩ : ∃ y, (sums (s.data.toList.take s.size)).2 = y := ⟨_, rfl⟩
      have HS : Hid (sumF s.data.toList = 65536 * y + x) := Lib.hid (by unfold sumF; rw [← hx, ← hy, HT.out])
      rw [hx, hy] at hsl ⊢
      obtain ⟨hx1, hy1⟩ := hsl
      clear HT hx hy
      go_wp2_with fail
      go_ret
      exact ⟨ret_u32 (by rw [HS.out]; omega), rfl⟩

theorem rmay_any (s : ByteArray) (hs : s.size ≤ maxLen) (w : World) : Calls Try.prog 12 #[.string s] w fun e w' => e = .returned (.bool (decide (MayL s.size))) ∧ w = w' := by
  unfold maxLen at hs
  by_cases h1 : 1 ≤ s.size
  · have h1i : (1 : Int) ≤ (s.size : Int) := by omega
    by_cases h2 : s.size ≤ 20000
    · have h2i : (s.size : Int) ≤ 20000 := by omega
      have hd : Hid (decide (MayL s.size) = true) := Lib.hid (decide_eq_true ⟨h1, h2⟩)
      go_enter Try.func12, Try.ntmps12
      go_wp2_with fail
      go_ret
      exact ⟨by rw [hd.out]; rfl, rfl⟩
    · have h2i : ¬ (s.size : Int) ≤ 20000 := by omega
      have hd : Hid (decide (MayL s.size) = false) := Lib.hid (decide_eq_false fun h => h2 h.2)
      go_enter Try.func12, Try.ntmps12
      go_wp2_with fail
      go_ret
      exact ⟨by rw [hd.out]; rfl, rfl⟩
  · have h1i : ¬ (1 : Int) ≤ (s.size : Int) := by omega
    have hd : Hid (decide (MayL s.size) = false) := Lib.hid (decide_eq_false fun h => h1 h.1)
    go_enter Try.func12, Try.ntmps12
    go_wp2_with fail
    go_ret
    exact ⟨by rw [hd.out]; rfl, rfl⟩

end Go.Proofs.Ytifgkmaaglaffaa.Sg
