/-
  Marks of shards on the ring: point.Mark, the document's Mark, walked; no two of those that are asked for are alike.
-/
import Derived.Test.YtkcccfllkgjdiaaDoorRows
import Derived.Test.YtkcccfllkgjdiaaDoorLaws
import Derived.Test.YtkcccfllkgjdiaaDoorShelf
import Derived.Lib.ItoaLen
import Derived.Lib.Hide
namespace Go.Proofs.YtkcccfllkgjdiaaDoor.Rg
open Go.RowKit
set_option linter.unusedVariables false

def stirB (h : Int) : Int :=
  bits .xor .u32 (bits .xor .u32 h (h / 32768) * 2246822519 % 4294967296) (bits .xor .u32 h (h / 32768) * 2246822519 % 4294967296 / 8192)

def mix1 (h : Int) (c : UInt8) : Int := bits .xor .u32 h (c.toNat % 4294967296) * 16777619 % 4294967296

def mixB (l : List UInt8) : Int := l.foldl mix1 2166136261

def ofB (l : List UInt8) : Int := stirB (mixB l)

theorem mixB_snoc (l : List UInt8) (c : UInt8) : mixB (l ++ [c]) = mix1 (mixB l) c := by unfold mixB; simp

theorem mixB_in (l : List UInt8) : 0 ≤ mixB l ∧ mixB l < 4294967296 := by
  rcases List.eq_nil_or_concat l with rfl | ⟨l', c, rfl⟩
  · exact ⟨by decide, by decide⟩
  · rw [List.concat_eq_append, mixB_snoc]; unfold mix1; omega

theorem take_snoc (s : ByteArray) (k : Nat) (h : k < s.size) : s.data.toList.take (k + 1) = s.data.toList.take k ++ [s[k]] := by
  rw [List.take_succ_eq_append_getElem (by simpa using h)]; rfl

theorem ret_u32 {a b : Int} (h : a = b) : Ending.returned (.int .u32 a) = .returned (.int .u32 b) := by rw [h]

theorem stir_any (h : Int) (h0 : 0 ≤ h) (h1 : h < 4294967296) (w : World) :
    Calls Tryd.prog 80 #[.int .u32 h] w fun e w' => e = .returned (.int .u32 (stirB h)) ∧ w = w' := by
  go_enter Tryd.func80, Tryd.ntmps80
  go_wp2
  go_ret
  exact ⟨rfl, rfl⟩

theorem rof_any (s : ByteArray) (hs : s.size ≤ maxLen) (w : World) :
    Calls Tryd.prog 59 #[.string s] w fun e w' => e = .returned (.int .u32 (ofB s.data.toList)) ∧ w = w' := by
  unfold maxLen at hs
  go_enter Tryd.func59, Tryd.ntmps59
  go_wp2
  go_loop [3, 4] (fun h i => ∃ (k : Nat), k ≤ s.size ∧ i = .int .i64 k ∧ h = .int .u32 (mixB (s.data.toList.take k))) (fun _ i => s.size - (intOf i).toNat)
  case atStart => exact ⟨0, Nat.zero_le _, rfl, rfl⟩
  case round =>
    obtain ⟨k, hk, rfl, rfl⟩ := hrel
    have hm := mixB_in (s.data.toList.take k)
    by_cases hlt : k < s.size
    · have hsn := mixB_snoc (s.data.toList.take k) s[k]
      rw [← take_snoc s k hlt] at hsn
      have HS := Lib.hid hsn
      clear hsn
      go_wp2
      all_goals
        go_round
        case rel => exact ⟨k + 1, by omega, by go_num, by rw [HS.out]; unfold mix1; with_reducible rfl⟩
        case measure => simp [intOf]; omega
    · have hall : s.data.toList.take k = s.data.toList := List.take_of_length_le (by simp; omega)
      have HS := Lib.hid hall
      clear hall
      go_wp2
      go_ret
      exact ⟨ret_u32 (by unfold ofB; rw [HS.out]; rfl), rfl⟩

theorem mix_any (s : ByteArray) (hs : s.size ≤ maxLen) (w : World) :
    Calls Tryd.prog 81 #[.string s] w fun e w' => e = .returned (.int .u32 (mixB s.data.toList)) ∧ w = w' := by
  unfold maxLen at hs
  go_enter Tryd.func81, Tryd.ntmps81
  go_wp2
  refine wp_scope_jumps 0 (fun a' w' => w = w' ∧ ∃ (k : Nat) (u5 u6 u7 u8 u9 u10 u11 u12 u13 u14 u15 u16 u17 : Value), a' = { tmps := #[.string s, undef, .int .u32 0, .int .u32 (mixB (s.data.toList.take k)), .int .i64 k, u5, u6, u7, u8, u9, u10, u11, u12, u13, u14, u15, u16, u17, undef], defers := [] } ∧ k ≤ s.size) (fun a' _ => s.size - (intOf (a'.tmps.getD 4 undef)).toNat) rfl ?_ ?_
  · go_wp2
    go_step3
    by_cases hlt : 0 < s.size
    · have hsn := mixB_snoc (s.data.toList.take 0) (s[0]'hlt)
      rw [← take_snoc s 0 hlt] at hsn
      have HS := Lib.hid hsn
      clear hsn
      go_wp2
      go_step3
      refine ⟨rfl, rfl, 1, ?_⟩
      repeat apply Exists.intro
      refine ⟨?_, by omega⟩
      rw [show (1 : Nat) = 0 + 1 from rfl, HS.out]
      unfold mix1
      rfl
    · have hall : s.data.toList = [] := List.eq_nil_of_length_eq_zero (by have e : s.data.toList.length = s.size := by simp
                                                                          omega)
      have HS := Lib.hid hall
      clear hall
      go_wp2
      simp only [Exit.jump]
      go_ret
      exact ⟨ret_u32 (by rw [HS.out]; rfl), rfl⟩
  · rintro a' w' ⟨rfl, k, u5, u6, u7, u8, u9, u10, u11, u12, u13, u14, u15, u16, u17, rfl, hk⟩
    have hm := mixB_in (s.data.toList.take k)
    by_cases hlt : k < s.size
    · have hsn := mixB_snoc (s.data.toList.take k) s[k]
      rw [← take_snoc s k hlt] at hsn
      have HS := Lib.hid hsn
      clear hsn
      go_wp2
      go_step3
      refine ⟨rfl, ⟨rfl, k + 1, ?_⟩, ?_⟩
      · repeat apply Exists.intro
        refine ⟨?_, by omega⟩
        rw [HS.out]
        unfold mix1
        rfl
      · simp [intOf]; omega
    · have hall : s.data.toList.take k = s.data.toList := List.take_of_length_le (by simp; omega)
      have HS := Lib.hid hall
      clear hall
      go_wp2
      simp only [Exit.jump]
      go_ret
      exact ⟨ret_u32 (by rw [HS.out]), rfl⟩

theorem of_any (s : ByteArray) (hs : s.size ≤ maxLen) (w : World) :
    Calls Tryd.prog 67 #[.string s] w fun e w' => e = .returned (.int .u32 (ofB s.data.toList)) ∧ w = w' := by
  have hm := mixB_in s.data.toList
  go_enter Tryd.func67, Tryd.ntmps67
  go_wp2_with fail
  refine (mix_any s hs _).mono ?_
  rintro e w' ⟨rfl, rfl⟩
  go_wp2_with fail
  refine (stir_any _ hm.1 hm.2 _).mono ?_
  rintro e w' ⟨rfl, rfl⟩
  go_wp2_with fail
  go_ret
  exact ⟨rfl, rfl⟩

theorem digit_at (u : Nat) (h : u < 10) : (⟨#[48, 49, 50, 51, 52, 53, 54, 55, 56, 57]⟩ : ByteArray).extract u (u + 1) = ⟨[UInt8.ofNat (48 + u)].toArray⟩ := by
  have h' : ∀ i : Fin 10, (⟨#[48, 49, 50, 51, 52, 53, 54, 55, 56, 57]⟩ : ByteArray).extract i.val (i.val + 1) = ⟨[UInt8.ofNat (48 + i.val)].toArray⟩ := by decide +kernel
  exact h' ⟨u, h⟩

theorem size_list (l : List UInt8) : (ByteArray.mk l.toArray).size = l.length := rfl

theorem cat_list (l l' : List UInt8) : (⟨l.toArray⟩ : ByteArray) ++ ⟨l'.toArray⟩ = ⟨(l ++ l').toArray⟩ := by
  rw [ByteArray.mk_append_mk]

theorem ret_str {a b : ByteArray} (h : a = b) : Ending.returned (.string a) = .returned (.string b) := by rw [h]

theorem len_lt {u n U : Nat} (h : u * 10 ^ n ≤ U) (hu : 9 < u) (hU : U ≤ 9223372036854775808) : n < 19 := by
  have h1 : 10 ^ (n + 1) ≤ U := by
    refine Nat.le_trans ?_ h
    rw [Nat.pow_succ, Nat.mul_comm]
    exact Nat.mul_le_mul_right _ hu
  have h2 : 10 ^ (n + 1) < 10 ^ 19 := by omega
  have := (Nat.pow_lt_pow_iff_right (by decide : 1 < 10)).1 h2
  omega

theorem dec_any (b : Int) (h0 : -9223372036854775808 ≤ b) (h1 : b ≤ 9223372036854775807) (w : World) :
    Calls Tryd.prog 60 #[.int .i64 b] w fun e w' => e = .returned (.string ⟨(Lib.itoa b).toArray⟩) ∧ w = w' := by
  have hv : b < 0 ∧ decide (b < 0) = true ∧ (∃ U : Nat, U ≤ 9223372036854775808 ∧ Lib.itoa b = 45 :: Lib.decDigits U ∧ IntKind.u64.wrap (-IntKind.u64.wrap b) = (U : Int)) ∨
      0 ≤ b ∧ decide (b < 0) = false ∧ (∃ U : Nat, U ≤ 9223372036854775808 ∧ Lib.itoa b = Lib.decDigits U ∧ IntKind.u64.wrap b = (U : Int)) := by
    by_cases hb : b < 0
    · refine .inl ⟨hb, by simpa using hb, b.natAbs, by omega, by unfold Lib.itoa; rw [if_pos hb], ?_⟩
      simp only [IntKind.wrap, IntKind.bits, IntKind.signed]; simp; omega
    · refine .inr ⟨by omega, by simpa using hb, b.toNat, by omega, by unfold Lib.itoa; rw [if_neg hb], ?_⟩
      simp only [IntKind.wrap, IntKind.bits, IntKind.signed]; simp; omega
  clear h0 h1
  rcases hv with ⟨hb, hd, U, hU, hi, hv⟩ | ⟨hb, hd, U, hU, hi, hv⟩
  all_goals
    have HV := Lib.hid hv
    have HI := Lib.hid hi
    clear hv hi
    go_enter Tryd.func60, Tryd.ntmps60
    go_wp2
    rw [HV.out]
    go_loop [3, 5] (fun s n => ∃ (u : Nat) (l : List UInt8), l.length ≤ 19 ∧ u * 10 ^ l.length ≤ U ∧ Lib.decDigits U = Lib.decDigits u ++ l ∧ s = .string ⟨l.toArray⟩ ∧ n = .int .u64 u) (fun _ n => (intOf n).toNat)
    case atStart => exact ⟨U, [], by simp, by simp, by simp, rfl, rfl⟩
    case round =>
      obtain ⟨u, l, hl, hul, hdig, rfl, rfl⟩ := hrel
      have hpos : 1 ≤ 10 ^ l.length := Nat.one_le_pow _ _ (by decide)
      have hu : u ≤ 9223372036854775808 := Nat.le_trans (Nat.le_trans (Nat.le_mul_of_pos_right u hpos) hul) hU
      have HU := Lib.hid hul
      have HD := Lib.hid hdig
      clear hul hdig hpos
      by_cases hlt : 9 < u
      · go_wp2
        all_goals
          have h19 := len_lt HU.out hlt hU
          have hdg := digit_at (u % 10) (by omega)
          go_round
          case rel =>
            refine ⟨u / 10, UInt8.ofNat (48 + u % 10) :: l, by simp; omega, ?_, ?_, ?_, ?_⟩
            · refine Nat.le_trans ?_ HU.out
              rw [List.length_cons, Nat.pow_succ, Nat.mul_comm (10 ^ l.length) 10, ← Nat.mul_assoc]
              exact Nat.mul_le_mul_right _ (by omega)
            · rw [HD.out, Lib.decDigits, dif_neg (by omega)]; simp
            · rw [hdg, cat_list]; rfl
            · go_num
          case measure => simp [intOf]; omega
      · have hdg := digit_at u (by omega)
        have hout : Lib.decDigits U = UInt8.ofNat (48 + u) :: l := by rw [HD.out, Lib.decDigits, dif_pos (by omega)]; rfl
        have HG := Lib.hid hdg
        have HO := Lib.hid hout
        clear hdg hout
        go_wp2
        go_ret
        refine ⟨ret_str ?_, rfl⟩
        rw [HI.out, HO.out, HG.out, cat_list]
        first | rfl | exact cat_list [45] _


def dg (n : Nat) : List UInt8 := if n < 10 then [UInt8.ofNat (48 + n)] else [UInt8.ofNat (48 + n / 10), UInt8.ofNat (48 + n % 10)]
def markN (i k : Nat) : Int := ofB (dg i ++ 47 :: dg k)
theorem dg_digits (n : Nat) (h : n < 100) : Lib.decDigits n = dg n := by
  unfold dg
  by_cases h1 : n < 10
  · rw [if_pos h1, Lib.decDigits, dif_pos (by omega)]
  · rw [if_neg h1, Lib.decDigits, dif_neg (by omega), Lib.decDigits, dif_pos (by omega)]; rfl
theorem dg_itoa (n : Nat) (h : n < 100) : Lib.itoa (n : Int) = dg n := by
  unfold Lib.itoa
  rw [if_neg (by omega), Int.toNat_natCast, dg_digits n h]
theorem dg_size (n : Nat) : (dg n).length ≤ 2 := by unfold dg; split <;> simp

theorem mark_text (i k : Nat) : ((⟨(dg i).toArray⟩ : ByteArray) ++ ⟨#[47]⟩ ++ ⟨(dg k).toArray⟩).size ≤ maxLen ∧ ((⟨(dg i).toArray⟩ : ByteArray) ++ ⟨#[47]⟩ ++ ⟨(dg k).toArray⟩).data.toList = dg i ++ 47 :: dg k := by
  have e : (⟨(dg i).toArray⟩ : ByteArray) ++ ⟨#[47]⟩ ++ ⟨(dg k).toArray⟩ = ⟨(dg i ++ 47 :: dg k).toArray⟩ := by
    rw [show (⟨#[47]⟩ : ByteArray) = ⟨[47].toArray⟩ from rfl, cat_list, cat_list]; simp
  rw [e]
  refine ⟨?_, rfl⟩
  rw [size_list]
  have := dg_size i
  have := dg_size k
  unfold maxLen
  simp
  omega
theorem dg_bytes (i : Nat) : (⟨(dg i).toArray⟩ : ByteArray).size ≤ 2 := by
  rw [size_list]; exact dg_size i

set_option maxHeartbeats 400000 in
theorem mark_any (i k : Nat) (hi : i < 100) (hk : k < 100) (w : World) :
    Calls Tryd.prog 57 #[.int .i64 i, .int .i64 k] w fun e w' => e = .returned (.int .u32 (markN i k)) ∧ w = w' := by
  have hx := dg_bytes i
  have hy := dg_bytes k
  have h1 := Lib.hid fun wx => Tryd.strconv_Itoa_small i hi wx
  have h2 := Lib.hid fun wx => Tryd.strconv_Itoa_small k hk wx
  rw [dg_digits i hi] at h1
  rw [dg_digits k hk] at h2
  have hm : markN i k = ofB (dg i ++ 47 :: dg k) := rfl
  have HM := Lib.hid hm
  have HZ := Lib.hid (mark_text i k)
  clear hm
  generalize (⟨(dg i).toArray⟩ : ByteArray) = X at hx HZ h1
  generalize (⟨(dg k).toArray⟩ : ByteArray) = Y at hy HZ h2
  go_enter Tryd.func57, Tryd.ntmps57
  go_wp2_with fail
  refine (h1.out _).mono ?_
  rintro e w1 ⟨rfl, hw1⟩
  subst hw1
  go_wp2_with fail
  refine (h2.out _).mono ?_
  rintro e w1 ⟨rfl, hw1⟩
  subst hw1
  go_wp2_with fail
  refine (of_any _ HZ.out.1 _).mono ?_
  rintro e w' ⟨rfl, rfl⟩
  rw [HZ.out.2]
  go_wp2_with fail
  go_ret
  exact ⟨by rw [HM.out]; rfl, rfl⟩

set_option maxHeartbeats 400000 in
theorem rmark_any (i k : Nat) (hi : i < 100) (hk : k < 100) (w : World) :
    Calls Tryd.prog 40 #[.int .i64 i, .int .i64 k] w fun e w' => e = .returned (.int .u32 (markN i k)) ∧ w = w' := by
  have hx := dg_bytes i
  have hy := dg_bytes k
  have h1 := Lib.hid fun wx => dec_any (i : Int) (by omega) (by omega) wx
  have h2 := Lib.hid fun wx => dec_any (k : Int) (by omega) (by omega) wx
  rw [dg_itoa i hi] at h1
  rw [dg_itoa k hk] at h2
  have hm : markN i k = ofB (dg i ++ 47 :: dg k) := rfl
  have HM := Lib.hid hm
  have HZ := Lib.hid (mark_text i k)
  clear hm
  generalize (⟨(dg i).toArray⟩ : ByteArray) = X at hx HZ h1
  generalize (⟨(dg k).toArray⟩ : ByteArray) = Y at hy HZ h2
  go_enter Tryd.func40, Tryd.ntmps40
  go_wp2_with fail
  refine (h1.out _).mono ?_
  rintro e w1 ⟨rfl, rfl⟩
  go_wp2_with fail
  refine (h2.out _).mono ?_
  rintro e w1 ⟨rfl, rfl⟩
  go_wp2_with fail
  refine (rof_any _ HZ.out.1 _).mono ?_
  rintro e w' ⟨rfl, rfl⟩
  rw [HZ.out.2]
  go_wp2_with fail
  go_ret
  exact ⟨by rw [HM.out]; rfl, rfl⟩

end Go.Proofs.YtkcccfllkgjdiaaDoor.Rg
