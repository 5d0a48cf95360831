/-
  Points of texts: point.Of, the document's Of, walked.
-/
import Derived.Test.YthohjcfpobeplaaRows
import Derived.WalkKit
import Derived.IntWalk
import Derived.ScopeJumps
import Derived.Lib.Hide
namespace Go.Proofs.Ythohjcfpobeplaa.Rg
open Go.RowKit
set_option linter.unusedVariables false

def stirB (h : Int) : Int :=
  bits .xor .u32 (bits .xor .u32 h (h / 32768) * 2246822519 % 4294967296) (bits .xor .u32 h (h / 32768) * 2246822519 % 4294967296 / 8192)

def mix1 (h : Int) (c : UInt8) : Int := bits .xor .u32 h (c.toNat % 4294967296) * 16777619 % 4294967296

def mixB (l : List UInt8) : Int := l.foldl mix1 2166136261

def ofB (l : List UInt8) : Int := stirB (mixB l)

theorem mixB_snoc (l : List UInt8) (c : UInt8) : mixB (l ++ [c]) = mix1 (mixB l) c := by unfold mixB; simp

theorem mixB_in (l : List UInt8) : 0 ≤ mixB l ∧ mixB l < 4294967296 := by
  rcases List.eq_nil_or_concat l with rfl | ⟨l', c, rfl⟩
  · exact ⟨by decide, by decide⟩
  · rw [List.concat_eq_append, mixB_snoc]; unfold mix1; omega

theorem take_snoc (s : ByteArray) (k : Nat) (h : k < s.size) : s.data.toList.take (k + 1) = s.data.toList.take k ++ [s[k]] := by
  rw [List.take_succ_eq_append_getElem (by simpa using h)]; rfl

theorem ret_u32 {a b : Int} (h : a = b) : Ending.returned (.int .u32 a) = .returned (.int .u32 b) := by rw [h]

theorem stir_any (h : Int) (h0 : 0 ≤ h) (h1 : h < 4294967296) (w : World) :
    Calls Try.prog 89 #[.int .u32 h] w fun e w' => e = .returned (.int .u32 (stirB h)) ∧ w = w' := by
  go_enter Try.func89, Try.ntmps89
  go_wp2
  go_ret
  exact ⟨rfl, rfl⟩

theorem rof_any (s : ByteArray) (hs : s.size ≤ maxLen) (w : World) :
    Calls Try.prog 82 #[.string s] w fun e w' => e = .returned (.int .u32 (ofB s.data.toList)) ∧ w = w' := by
  unfold maxLen at hs
  go_enter Try.func82, Try.ntmps82
  go_wp2
  go_loop [3, 4] (fun h i => ∃ (k : Nat), k ≤ s.size ∧ i = .int .i64 k ∧ h = .int .u32 (mixB (s.data.toList.take k))) (fun _ i => s.size - (intOf i).toNat)
  case atStart => exact ⟨0, Nat.zero_le _, rfl, rfl⟩
  case round =>
    obtain ⟨k, hk, rfl, rfl⟩ := hrel
    have hm := mixB_in (s.data.toList.take k)
    by_cases hlt : k < s.size
    · have hsn := mixB_snoc (s.data.toList.take k) s[k]
      rw [← take_snoc s k hlt] at hsn
      have HS := Lib.hid hsn
      clear hsn
      go_wp2
      all_goals
        go_round
        case rel => exact ⟨k + 1, by omega, by go_num, by rw [HS.out]; unfold mix1; with_reducible rfl⟩
        case measure => simp [intOf]; omega
    · have hall : s.data.toList.take k = s.data.toList := List.take_of_length_le (by simp; omega)
      have HS := Lib.hid hall
      clear hall
      go_wp2
      go_ret
      exact ⟨ret_u32 (by unfold ofB; rw [HS.out]; rfl), rfl⟩

theorem mix_any (s : ByteArray) (hs : s.size ≤ maxLen) (w : World) :
    Calls Try.prog 90 #[.string s] w fun e w' => e = .returned (.int .u32 (mixB s.data.toList)) ∧ w = w' := by
  unfold maxLen at hs
  go_enter Try.func90, Try.ntmps90
  go_wp2
  refine wp_scope_jumps 0 (fun a' w' => w = w' ∧ ∃ (k : Nat) (u5 u6 u7 u8 u9 u10 u11 u12 u13 u14 u15 u16 u17 : Value), a' = { tmps := #[.string s, undef, .int .u32 0, .int .u32 (mixB (s.data.toList.take k)), .int .i64 k, u5, u6, u7, u8, u9, u10, u11, u12, u13, u14, u15, u16, u17, undef], defers := [] } ∧ k ≤ s.size) (fun a' _ => s.size - (intOf (a'.tmps.getD 4 undef)).toNat) rfl ?_ ?_
  · go_wp2
    go_step3
    by_cases hlt : 0 < s.size
    · have hsn := mixB_snoc (s.data.toList.take 0) (s[0]'hlt)
      rw [← take_snoc s 0 hlt] at hsn
      have HS := Lib.hid hsn
      clear hsn
      go_wp2
      go_step3
      refine ⟨rfl, rfl, 1, ?_⟩
      repeat apply Exists.intro
      refine ⟨?_, by omega⟩
      rw [show (1 : Nat) = 0 + 1 from rfl, HS.out]
      unfold mix1
      rfl
    · have hall : s.data.toList = [] := List.eq_nil_of_length_eq_zero (by have e : s.data.toList.length = s.size := by simp
                                                                          omega)
      have HS := Lib.hid hall
      clear hall
      go_wp2
      simp only [Exit.jump]
      go_ret
      exact ⟨ret_u32 (by rw [HS.out]; rfl), rfl⟩
  · rintro a' w' ⟨rfl, k, u5, u6, u7, u8, u9, u10, u11, u12, u13, u14, u15, u16, u17, rfl, hk⟩
    have hm := mixB_in (s.data.toList.take k)
    by_cases hlt : k < s.size
    · have hsn := mixB_snoc (s.data.toList.take k) s[k]
      rw [← take_snoc s k hlt] at hsn
      have HS := Lib.hid hsn
      clear hsn
      go_wp2
      go_step3
      refine ⟨rfl, ⟨rfl, k + 1, ?_⟩, ?_⟩
      · repeat apply Exists.intro
        refine ⟨?_, by omega⟩
        rw [HS.out]
        unfold mix1
        rfl
      · simp [intOf]; omega
    · have hall : s.data.toList.take k = s.data.toList := List.take_of_length_le (by simp; omega)
      have HS := Lib.hid hall
      clear hall
      go_wp2
      simp only [Exit.jump]
      go_ret
      exact ⟨ret_u32 (by rw [HS.out]), rfl⟩

theorem of_any (s : ByteArray) (hs : s.size ≤ maxLen) (w : World) :
    Calls Try.prog 45 #[.string s] w fun e w' => e = .returned (.int .u32 (ofB s.data.toList)) ∧ w = w' := by
  have hm := mixB_in s.data.toList
  go_enter Try.func45, Try.ntmps45
  go_wp2_with fail
  refine (mix_any s hs _).mono ?_
  rintro e w' ⟨rfl, rfl⟩
  go_wp2_with fail
  refine (stir_any _ hm.1 hm.2 _).mono ?_
  rintro e w' ⟨rfl, rfl⟩
  go_wp2_with fail
  go_ret
  exact ⟨rfl, rfl⟩

end Go.Proofs.Ythohjcfpobeplaa.Rg
