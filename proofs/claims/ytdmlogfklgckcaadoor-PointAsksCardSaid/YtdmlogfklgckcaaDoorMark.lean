/-
  Leans of the ring: turns by quarters, the loads as numbers; marks of shards; what every law of the layer asks for first.
-/
import Derived.Test.YtdmlogfklgckcaaDoorStir
import Derived.Lib.AppendIntMem
namespace Go.Proofs.YtdmlogfklgckcaaDoor
open Go.RowKit
set_option linter.unusedVariables false

@[go_sem] theorem run_bits (b : Nat) (w : World) : (callFunc 28 #[.float .f64 b]).run Tryd.prog w = .ok (.value (.int .u64 b)) w := by kernel_rfl

def spin (k : Int) (z : Nat × Nat) : Nat × Nat :=
  if k % 4 = 1 then (ng z.2, z.1) else if k % 4 = 2 then (ng z.1, ng z.2) else if k % 4 = 3 then (z.2, ng z.1) else z

def cx (z : Nat × Nat) : Value := .complex .f64 z.1 z.2
@[go_sem] theorem cx_eq (z : Nat × Nat) : cx z = .complex .f64 z.1 z.2 := rfl


theorem spin_0 {k : Int} (h : k % 4 = 0) (z : Nat × Nat) : spin k z = z := by
  unfold spin; rw [h]; rfl
theorem spin_1 {k : Int} (h : k % 4 = 1) (z : Nat × Nat) : spin k z = (ng z.2, z.1) := by
  unfold spin; rw [h]; rfl
theorem spin_2 {k : Int} (h : k % 4 = 2) (z : Nat × Nat) : spin k z = (ng z.1, ng z.2) := by
  unfold spin; rw [h]; rfl
theorem spin_3 {k : Int} (h : k % 4 = 3) (z : Nat × Nat) : spin k z = (z.2, ng z.1) := by
  unfold spin; rw [h]; rfl




set_option maxHeartbeats 400000 in
theorem quarters_any (k : Int) (w : World) :
    Calls Tryd.prog 26 #[.int .i64 k] w fun e w' => e = .returned (.int .i64 (k % 4)) ∧ w = w' := by
  have hb := i64_and3 k
  go_enter Tryd.func26, Tryd.ntmps26
  go_wp2
  go_ret
  exact ⟨rfl, rfl⟩

set_option maxHeartbeats 400000 in
theorem quarter_any (k : Int) (w : World) :
    Calls Tryd.prog 29 #[.int .i64 k] w fun e w' => e = .returned (.int .i64 (k % 4)) ∧ w = w' := by
  have hb := i64_and3 k
  go_enter Tryd.func29, Tryd.ntmps29
  go_wp2
  go_ret
  exact ⟨rfl, rfl⟩

set_option maxHeartbeats 400000 in
theorem spin_any (k : Int) (a b : Nat) (w : World) :
    Calls Tryd.prog 19 #[.complex .f64 a b, .int .i64 k] w fun e w' => e = .returned (cx (spin k (a, b))) ∧ w = w' := by
  have hk : k % 4 = 0 ∨ k % 4 = 1 ∨ k % 4 = 2 ∨ k % 4 = 3 := by omega
  go_enter Tryd.func19, Tryd.ntmps19
  rcases hk with hk | hk | hk | hk
  · rw [spin_0 hk]
    go_wp2_with (go_at_call 26; refine (quarters_any _ _).mono ?_; rintro e w' ⟨rfl, rfl⟩)
    go_ret
    exact ⟨rfl, rfl⟩
  · rw [spin_1 hk]
    go_wp2_with (go_at_call 26; refine (quarters_any _ _).mono ?_; rintro e w' ⟨rfl, rfl⟩)
    go_ret
    exact ⟨rfl, rfl⟩
  · rw [spin_2 hk]
    go_wp2_with (go_at_call 26; refine (quarters_any _ _).mono ?_; rintro e w' ⟨rfl, rfl⟩)
    go_ret
    exact ⟨rfl, rfl⟩
  · rw [spin_3 hk]
    go_wp2_with (go_at_call 26; refine (quarters_any _ _).mono ?_; rintro e w' ⟨rfl, rfl⟩)
    go_ret
    exact ⟨rfl, rfl⟩

set_option maxHeartbeats 400000 in
theorem rspin_any (k : Int) (a b : Nat) (w : World) :
    Calls Tryd.prog 25 #[.complex .f64 a b, .int .i64 k] w fun e w' => e = .returned (cx (spin k (a, b))) ∧ w = w' := by
  have hk : k % 4 = 0 ∨ k % 4 = 1 ∨ k % 4 = 2 ∨ k % 4 = 3 := by omega
  go_enter Tryd.func25, Tryd.ntmps25
  rcases hk with hk | hk | hk | hk
  · rw [spin_0 hk]
    go_wp2_with (go_at_call 29; refine (quarter_any _ _).mono ?_; rintro e w' ⟨rfl, rfl⟩)
    go_ret
    exact ⟨rfl, rfl⟩
  · rw [spin_1 hk]
    go_wp2_with (go_at_call 29; refine (quarter_any _ _).mono ?_; rintro e w' ⟨rfl, rfl⟩)
    go_ret
    exact ⟨rfl, rfl⟩
  · rw [spin_2 hk]
    go_wp2_with (go_at_call 29; refine (quarter_any _ _).mono ?_; rintro e w' ⟨rfl, rfl⟩)
    go_ret
    exact ⟨rfl, rfl⟩
  · rw [spin_3 hk]
    go_wp2_with (go_at_call 29; refine (quarter_any _ _).mono ?_; rintro e w' ⟨rfl, rfl⟩)
    go_ret
    exact ⟨rfl, rfl⟩

set_option maxHeartbeats 400000 in
theorem norm_any (a b : Nat) (w : World) :
    Calls Tryd.prog 18 #[.complex .f64 a b] w fun e w' => ∃ x y r n, e = .returned (.float .f64 r) ∧ w.drewN n = w' ∧ MulOf a a x ∧ MulOf b b y ∧ SumOf x y r := by
  go_enter Tryd.func18, Tryd.ntmps18
  go_wp2
  go_ret
  exact ⟨_, _, _, _, rfl, rfl, mulOf_mulB _ _ _, mulOf_mulB _ _ _, sumOf_addB _ _ _⟩

theorem order_nan {a : Nat} (b : Nat) (h : NaN a) : Ieee.double.order a b = none := by
  obtain ⟨s, t, e⟩ := datum_nan h
  unfold Ieee.Format.order
  rw [e]; rfl

theorem order_self {a : Nat} (h : ¬ NaN a) : Ieee.double.order a a = some .eq := by
  unfold Ieee.Format.order
  unfold NaN at h
  cases e : Ieee.double.read a with
  | nan s t => rw [e] at h; exact absurd rfl h
  | infinity s => simp [Ieee.Datum.order]
  | number s m i => simp [Ieee.Datum.order]

set_option maxHeartbeats 400000 in
theorem float_yes (a b : Nat) (h : Like a b) (w : World) :
    Calls Tryd.prog 24 #[.float .f64 a, .float .f64 b] w fun e w' => e = .returned (.bool true) ∧ w = w' := by
  by_cases hn : NaN a ∧ NaN b
  · have h1 : FloatKind.f64.format.order a a = none := order_nan a hn.1
    have h2 : FloatKind.f64.format.order b b = none := order_nan b hn.2
    clear h hn
    go_enter Tryd.func24, Tryd.ntmps24
    go_wp2
    go_ret
    exact ⟨rfl, rfl⟩
  · have hab : a = b := by
      rcases h with h | h
      · exact h
      · exact absurd h hn
    subst hab
    have h1 : FloatKind.f64.format.order a a = some .eq := order_self (fun h' => hn ⟨h', h'⟩)
    clear h hn
    go_enter Tryd.func24, Tryd.ntmps24
    go_wp2
    go_ret
    exact ⟨rfl, rfl⟩

/-- a load's lean at a place. -/
def leanB (p b : Int) : Nat × Nat := if b < 0 ∨ 1099511627776 < b then (0, 0) else spin (p / 1073741824) (floatOfInt .f64 b, 0)

set_option maxHeartbeats 400000 in
theorem lean_any (p b : Int) (h0 : 0 ≤ p) (h1 : p < 4294967296) (w : World) :
    Calls Tryd.prog 15 #[.int .u32 p, .int .i64 b] w fun e w' => e = .returned (cx (leanB p b)) ∧ w = w' := by
  by_cases hb : b < 0 ∨ 1099511627776 < b
  · have hl : leanB p b = (0, 0) := if_pos hb
    rw [hl]
    clear hl
    rcases hb with hb | hb
    · go_enter Tryd.func15, Tryd.ntmps15
      go_wp2_with fail
      go_ret
      exact ⟨rfl, rfl⟩
    · have hn : 0 ≤ b := by omega
      go_enter Tryd.func15, Tryd.ntmps15
      go_wp2_with fail
      go_ret
      exact ⟨rfl, rfl⟩
  · have hl : leanB p b = spin (p / 1073741824) (floatOfInt .f64 b, 0) := if_neg hb
    rw [hl]
    clear hl
    have hn : 0 ≤ b := by omega
    have hm : b ≤ 1099511627776 := by omega
    clear hb
    go_enter Tryd.func15, Tryd.ntmps15
    go_wp2_with fail
    refine (dir_any _ h0 h1 _).mono ?_
    rintro e w' ⟨rfl, rfl⟩
    go_wp2_with fail
    refine (spin_any _ _ _ _).mono ?_
    rintro e w' ⟨rfl, rfl⟩
    go_wp2_with fail
    go_ret
    exact ⟨rfl, rfl⟩

set_option maxHeartbeats 400000 in
theorem rlean_any (p b : Int) (h0 : 0 ≤ p) (h1 : p < 4294967296) (w : World) :
    Calls Tryd.prog 16 #[.int .u32 p, .int .i64 b] w fun e w' => e = .returned (cx (leanB p b)) ∧ w = w' := by
  by_cases hb : b < 0 ∨ 1099511627776 < b
  · have hl : leanB p b = (0, 0) := if_pos hb
    rw [hl]
    clear hl
    rcases hb with hb | hb
    · go_enter Tryd.func16, Tryd.ntmps16
      go_wp2_with fail
      go_ret
      exact ⟨rfl, rfl⟩
    · have hn : 0 ≤ b := by omega
      go_enter Tryd.func16, Tryd.ntmps16
      go_wp2_with fail
      go_ret
      exact ⟨rfl, rfl⟩
  · have hl : leanB p b = spin (p / 1073741824) (floatOfInt .f64 b, 0) := if_neg hb
    rw [hl]
    clear hl
    have hn : 0 ≤ b := by omega
    have hm : b ≤ 1099511627776 := by omega
    clear hb
    go_enter Tryd.func16, Tryd.ntmps16
    go_wp2_with fail
    refine (rdir_any _ h0 h1 _).mono ?_
    rintro e w' ⟨rfl, rfl⟩
    go_wp2_with fail
    refine (rspin_any _ _ _ _).mono ?_
    rintro e w' ⟨rfl, rfl⟩
    go_wp2_with fail
    go_ret
    exact ⟨rfl, rfl⟩

/-- the table of powers of ten, there in every later world. -/
abbrev Tab (B : Nat) (w : World) : Prop := Lib.TabBelow Tryd.prog B w "internal/strconv.uint64pow10" .u64 Lib.pow10Tab

def markB (a b : Int) : Int := ofB (Lib.itoa a ++ 47 :: Lib.itoa b)

theorem mark_text (a b : Int) (h0 : -9223372036854775808 ≤ a) (h1 : a ≤ 9223372036854775807) (g0 : -9223372036854775808 ≤ b) (g1 : b ≤ 9223372036854775807) :
    ((⟨(Lib.itoa a).toArray⟩ : ByteArray) ++ ⟨#[47]⟩ ++ ⟨(Lib.itoa b).toArray⟩).size ≤ maxLen ∧ ((⟨(Lib.itoa a).toArray⟩ : ByteArray) ++ ⟨#[47]⟩ ++ ⟨(Lib.itoa b).toArray⟩).data.toList = Lib.itoa a ++ 47 :: Lib.itoa b := by
  have e : (⟨(Lib.itoa a).toArray⟩ : ByteArray) ++ ⟨#[47]⟩ ++ ⟨(Lib.itoa b).toArray⟩ = ⟨(Lib.itoa a ++ 47 :: Lib.itoa b).toArray⟩ := by
    rw [show (⟨#[47]⟩ : ByteArray) = ⟨[47].toArray⟩ from rfl, cat_list, cat_list]; simp
  rw [e]
  refine ⟨?_, rfl⟩
  rw [size_list]
  have := Lib.itoa_length_le a h0 h1
  have := Lib.itoa_length_le b g0 g1
  unfold maxLen
  simp
  omega

theorem itoa_size (a : Int) (h0 : -9223372036854775808 ≤ a) (h1 : a ≤ 9223372036854775807) : (⟨(Lib.itoa a).toArray⟩ : ByteArray).size ≤ 21 := by
  rw [size_list]; exact Lib.itoa_length_le a h0 h1

set_option maxHeartbeats 400000 in
theorem mark_any (a b : Int) (h0 : -9223372036854775808 ≤ a) (h1 : a ≤ 9223372036854775807) (g0 : -9223372036854775808 ≤ b) (g1 : b ≤ 9223372036854775807) (B : Nat) (w : World) (hB : B ≤ w.heap.size) (ht : Tab B w) :
    Calls Tryd.prog 10 #[.int .i64 a, .int .i64 b] w fun e w' => e = .returned (.int .u32 (markB a b)) ∧ Below B w w' := by
  have hx := itoa_size a h0 h1
  have hy := itoa_size b g0 g1
  have hz := mark_text a b h0 h1 g0 g1
  have HZ := Lib.hid hz
  clear hz
  generalize hX : (⟨(Lib.itoa a).toArray⟩ : ByteArray) = X at hx HZ
  generalize hY : (⟨(Lib.itoa b).toArray⟩ : ByteArray) = Y at hy HZ
  have HX := Lib.hid hX
  have HY := Lib.hid hY
  clear hX hY
  go_enter Tryd.func10, Tryd.ntmps10
  go_wp2_with fail
  refine (Tryd.strconv_Itoa a h0 h1 _ ht.here).mono ?_
  rintro e w1 ⟨rfl, k, os, hw⟩
  have hb1 : Below B w w1 := by rw [hw]; exact Lib.below_grow B w hB k os
  clear hw
  have ht1 := ht.on hb1
  have hB1 : B ≤ w1.heap.size := Nat.le_trans hB hb1.size
  rw [HX.out]
  go_wp2_with fail
  refine (Tryd.strconv_Itoa b g0 g1 _ ht1.here).mono ?_
  rintro e w2 ⟨rfl, k, os, hw⟩
  have hb2 : Below B w1 w2 := by rw [hw]; exact Lib.below_grow B w1 hB1 k os
  clear hw
  rw [HY.out]
  go_wp2_with fail
  refine (of_any _ HZ.out.1 _).mono ?_
  rintro e w' ⟨rfl, rfl⟩
  rw [HZ.out.2]
  go_wp2_with fail
  go_ret
  exact ⟨rfl, hb1.trans hb2⟩

set_option maxHeartbeats 400000 in
theorem rmark_any (a b : Int) (h0 : -9223372036854775808 ≤ a) (h1 : a ≤ 9223372036854775807) (g0 : -9223372036854775808 ≤ b) (g1 : b ≤ 9223372036854775807) (w : World) :
    Calls Tryd.prog 11 #[.int .i64 a, .int .i64 b] w fun e w' => e = .returned (.int .u32 (markB a b)) ∧ w = w' := by
  have hx := itoa_size a h0 h1
  have hy := itoa_size b g0 g1
  have hz := mark_text a b h0 h1 g0 g1
  have HZ := Lib.hid hz
  clear hz
  generalize hX : (⟨(Lib.itoa a).toArray⟩ : ByteArray) = X at hx HZ
  generalize hY : (⟨(Lib.itoa b).toArray⟩ : ByteArray) = Y at hy HZ
  have HX := Lib.hid hX
  have HY := Lib.hid hY
  clear hX hY
  go_enter Tryd.func11, Tryd.ntmps11
  go_wp2_with fail
  refine (dec_any a h0 h1 _).mono ?_
  rintro e w1 ⟨rfl, rfl⟩
  rw [HX.out]
  go_wp2_with fail
  refine (dec_any b g0 g1 _).mono ?_
  rintro e w1 ⟨rfl, rfl⟩
  rw [HY.out]
  go_wp2_with fail
  refine (rof_any _ HZ.out.1 _).mono ?_
  rintro e w' ⟨rfl, rfl⟩
  rw [HZ.out.2]
  go_wp2_with fail
  go_ret
  exact ⟨rfl, rfl⟩

end Go.Proofs.YtdmlogfklgckcaaDoor
