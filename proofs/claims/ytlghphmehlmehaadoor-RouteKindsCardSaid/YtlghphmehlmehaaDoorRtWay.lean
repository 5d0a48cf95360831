/-
  Package point's Of and Way; route.way, walked.
-/
import Derived.Test.YtlghphmehlmehaaDoorRtMayL
import Derived.Test.YtlghphmehlmehaaDoorShelf
import Derived.Lib.ItoaLen
import Derived.Deep.QuietTactic
import Derived.BigQuiet
namespace Go.Proofs.YtlghphmehlmehaaDoor.Rt
open Go.RowKit Top
set_option linter.unusedVariables false

def stirB (h : Int) : Int :=
  bits .xor .u32 (bits .xor .u32 h (h / 32768) * 2246822519 % 4294967296) (bits .xor .u32 h (h / 32768) * 2246822519 % 4294967296 / 8192)

def mix1 (h : Int) (c : UInt8) : Int := bits .xor .u32 h (c.toNat % 4294967296) * 16777619 % 4294967296

def mixB (l : List UInt8) : Int := l.foldl mix1 2166136261

def ofB (l : List UInt8) : Int := stirB (mixB l)

theorem mixB_snoc (l : List UInt8) (c : UInt8) : mixB (l ++ [c]) = mix1 (mixB l) c := by unfold mixB; simp

theorem mixB_in (l : List UInt8) : 0 ≤ mixB l ∧ mixB l < 4294967296 := by
  rcases List.eq_nil_or_concat l with rfl | ⟨l', c, rfl⟩
  · exact ⟨by decide, by decide⟩
  · rw [List.concat_eq_append, mixB_snoc]; unfold mix1; omega

theorem take_snoc (s : ByteArray) (k : Nat) (h : k < s.size) : s.data.toList.take (k + 1) = s.data.toList.take k ++ [s[k]] := by
  rw [List.take_succ_eq_append_getElem (by simpa using h)]; rfl

theorem ret_u32 {a b : Int} (h : a = b) : Ending.returned (.int .u32 a) = .returned (.int .u32 b) := by rw [h]

theorem stir_any (h : Int) (h0 : 0 ≤ h) (h1 : h < 4294967296) (w : World) :
    Calls Tryd.prog 37 #[.int .u32 h] w fun e w' => e = .returned (.int .u32 (stirB h)) ∧ w = w' := by
  go_enter Tryd.func37, Tryd.ntmps37
  go_wp2
  go_ret
  exact ⟨rfl, rfl⟩

theorem way_any (a b : Int) (w : World) :
    Calls Tryd.prog 39 #[.int .u32 a, .int .u32 b] w fun e w' => e = .returned (.int .u32 ((b - a) % 4294967296)) ∧ w = w' := by
  go_enter Tryd.func39, Tryd.ntmps39
  go_wp2
  go_ret
  exact ⟨rfl, rfl⟩

theorem mix_any (s : ByteArray) (hs : s.size ≤ maxLen) (w : World) :
    Calls Tryd.prog 38 #[.string s] w fun e w' => e = .returned (.int .u32 (mixB s.data.toList)) ∧ w = w' := by
  unfold maxLen at hs
  go_enter Tryd.func38, Tryd.ntmps38
  go_wp2
  refine wp_scope_jumps 0 (fun a' w' => w = w' ∧ ∃ (k : Nat) (u5 u6 u7 u8 u9 u10 u11 u12 u13 u14 u15 u16 u17 : Value), a' = { tmps := #[.string s, undef, .int .u32 0, .int .u32 (mixB (s.data.toList.take k)), .int .i64 k, u5, u6, u7, u8, u9, u10, u11, u12, u13, u14, u15, u16, u17, undef], defers := [] } ∧ k ≤ s.size) (fun a' _ => s.size - (intOf (a'.tmps.getD 4 undef)).toNat) rfl ?_ ?_
  · go_wp2
    go_step3
    by_cases hlt : 0 < s.size
    · have hsn := mixB_snoc (s.data.toList.take 0) (s[0]'hlt)
      rw [← take_snoc s 0 hlt] at hsn
      have HS := Lib.hid hsn
      clear hsn
      go_wp2
      go_step3
      refine ⟨rfl, rfl, 1, ?_⟩
      repeat apply Exists.intro
      refine ⟨?_, by omega⟩
      rw [show (1 : Nat) = 0 + 1 from rfl, HS.out]
      unfold mix1
      rfl
    · have hall : s.data.toList = [] := List.eq_nil_of_length_eq_zero (by have e : s.data.toList.length = s.size := by simp
                                                                          omega)
      have HS := Lib.hid hall
      clear hall
      go_wp2
      simp only [Exit.jump]
      go_ret
      exact ⟨ret_u32 (by rw [HS.out]; rfl), rfl⟩
  · rintro a' w' ⟨rfl, k, u5, u6, u7, u8, u9, u10, u11, u12, u13, u14, u15, u16, u17, rfl, hk⟩
    have hm := mixB_in (s.data.toList.take k)
    by_cases hlt : k < s.size
    · have hsn := mixB_snoc (s.data.toList.take k) s[k]
      rw [← take_snoc s k hlt] at hsn
      have HS := Lib.hid hsn
      clear hsn
      go_wp2
      go_step3
      refine ⟨rfl, ⟨rfl, k + 1, ?_⟩, ?_⟩
      · repeat apply Exists.intro
        refine ⟨?_, by omega⟩
        rw [HS.out]
        unfold mix1
        rfl
      · simp [intOf]; omega
    · have hall : s.data.toList.take k = s.data.toList := List.take_of_length_le (by simp; omega)
      have HS := Lib.hid hall
      clear hall
      go_wp2
      simp only [Exit.jump]
      go_ret
      exact ⟨ret_u32 (by rw [HS.out]), rfl⟩

theorem of_any (s : ByteArray) (hs : s.size ≤ maxLen) (w : World) :
    Calls Tryd.prog 31 #[.string s] w fun e w' => e = .returned (.int .u32 (ofB s.data.toList)) ∧ w = w' := by
  have hm := mixB_in s.data.toList
  go_enter Tryd.func31, Tryd.ntmps31
  go_wp2_with fail
  refine (mix_any s hs _).mono ?_
  rintro e w' ⟨rfl, rfl⟩
  go_wp2_with fail
  refine (stir_any _ hm.1 hm.2 _).mono ?_
  rintro e w' ⟨rfl, rfl⟩
  go_wp2_with fail
  go_ret
  exact ⟨rfl, rfl⟩

/-- the place of a binding's point. -/
def dotB (q : List UInt8) (i : Nat) : Int := ofB (q ++ 35 :: Lib.decDigits i)
def stepW (src : Int) (q : List UInt8) (m : Int) (i : Nat) : Int := min m ((dotB q i - src) % 4294967296)
def wayN (src : Int) (q : List UInt8) (n : Nat) : Int := (List.range n).foldl (stepW src q) 4294967295
theorem wayN_succ (src : Int) (q : List UInt8) (n : Nat) : wayN src q (n + 1) = stepW src q (wayN src q n) n := by
  unfold wayN
  rw [List.range_succ, List.foldl_append]
  rfl
/-- how far it is to the binding's next point. -/
def wayB (src : Int) (b : Bd) : Int := wayN src b.q (min b.wt 4).toNat

def wayRel (w : World) (src : Int) (b : Bd) (M : Int) (m : Nat) (v5 v10 : Value) (wr : World) : Prop :=
  ∃ i : Nat, i ≤ M.toNat ∧ v5 = .int .u32 (wayN src b.q i) ∧ v10 = .int .i64 i ∧ m = M.toNat - i ∧ BoxB wr w.heap.size b ∧ Below w.heap.size w wr

theorem dot_text (q : List UInt8) (i : Nat) (hq : q.length ≤ 1000000) (hi : i < 100) :
    ((⟨q.toArray⟩ : ByteArray) ++ ⟨#[35]⟩ ++ ⟨(Lib.decDigits i).toArray⟩) = ⟨(q ++ 35 :: Lib.decDigits i).toArray⟩ := by
  rw [show (⟨#[35]⟩ : ByteArray) = ⟨[35].toArray⟩ from rfl, cat_list, cat_list]; simp

set_option maxRecDepth 100000 in
set_option maxHeartbeats 1000000 in
theorem wayTo_any (src : Int) (b : Bd) (hq : b.q.length ≤ 1000000) (w : World) :
    Calls Tryd.prog 32 #[.int .u32 src, .agg #[.string ⟨b.ex.toArray⟩, .string ⟨b.q.toArray⟩, .string ⟨b.key.toArray⟩, .int .i64 b.wt]] w fun e w' => e = .returned (.int .u32 (wayB src b)) ∧ Below w.heap.size w w' := by
  have HBOX := Lib.hid (boxB w b)
  have HB0 := Lib.hid (show Below w.heap.size w (w.alloc (.cells #[.string ⟨b.ex.toArray⟩, .string ⟨b.q.toArray⟩, .string ⟨b.key.toArray⟩, .int .i64 b.wt] 28)) from (Below.refl _ _).alloc (Nat.le_refl _) _)
  obtain ⟨M, hM⟩ : ∃ M, min b.wt 4 = M := ⟨_, rfl⟩
  have hM4 : M ≤ 4 := by omega
  have hV : wayB src b = wayN src b.q M.toNat := by unfold wayB; rw [hM]
  rw [hV]
  clear hV
  go_enter Tryd.func32, Tryd.ntmps32
  go_wp2_with fail
  go_loopg [5, 10] M.toNat (wayRel w src b M)
  case atStart => exact ⟨0, Nat.zero_le _, rfl, rfl, rfl, HBOX.out, HB0.out⟩
  case round =>
    obtain ⟨i, hi, rfl, rfl, rfl, hbox, hb⟩ := hrel
    have HB := Lib.hid hb
    have HBX := Lib.hid hbox
    obtain ⟨k0, k1, k2, k3⟩ := hbox
    clear hb
    by_cases hlt : i < M.toNat
    · have hlti : (i : Int) < M := by omega
      have hi4 : i < 100 := by omega
      have hdt := dot_text b.q i hq hi4
      have hdl : (Lib.decDigits i).length ≤ 100 := by
        have hi44 : i < 4 := by omega
        have h' : ∀ j : Fin 4, (Lib.decDigits j.val).length ≤ 100 := by decide +kernel
        exact h' ⟨i, hi44⟩
      have hsz : (⟨(b.q ++ 35 :: Lib.decDigits i).toArray⟩ : ByteArray).size ≤ maxLen := by
        show (b.q ++ 35 :: Lib.decDigits i).toArray.size ≤ maxLen
        simp [maxLen]; omega
      have HO := Lib.hid (of_any _ hsz)
      have HIT := Lib.hid (fun w => Tryd.strconv_Itoa_small i hi4 w)
      have hQs : (⟨b.q.toArray⟩ : ByteArray).size ≤ 1000000 := by show b.q.toArray.size ≤ 1000000; simpa using hq
      have hDs : (⟨(Lib.decDigits i).toArray⟩ : ByteArray).size ≤ 100 := by show (Lib.decDigits i).toArray.size ≤ 100; simpa using hdl
      clear hsz hdl
      obtain ⟨Q, hQd⟩ : ∃ Q : ByteArray, Q = ⟨b.q.toArray⟩ := ⟨_, rfl⟩
      obtain ⟨D, hDd⟩ : ∃ D : ByteArray, D = ⟨(Lib.decDigits i).toArray⟩ := ⟨_, rfl⟩
      rw [← hQd] at k1 hdt hQs
      rw [← hDd] at HIT hdt hDs
      clear hQd hDd
      have HDT := Lib.hid hdt
      clear hdt
      go_wp2_with fail
      go_quiet ((first | (go_at_call 40; exact Calls.quiet_of_same (HIT.out _)) | (go_at_call 31; rw [HDT.out]; exact Calls.quiet_of_same ((HO.out _).mono fun e w' h => ⟨h.1, h.2.symm⟩)) | (go_at_call 39; exact Calls.quiet_of_same ((way_any _ _ _).mono fun e w' h => ⟨h.1, h.2.symm⟩))))
      go_wp2_with fail
      go_roundg (M.toNat - (i + 1))
      case measure => omega
      case rel => exact ⟨i + 1, by omega, by rw [wayN_succ]; rfl, by simp, rfl, HBX.out.below (Below.drewN (Below.refl _ _) _), Below.drewN HB.out _⟩
    · obtain rfl : i = M.toNat := by omega
      have hge : ¬ ((M.toNat : Int) < M) := by omega
      go_wp2_with fail
      go_ret
      exact ⟨rfl, HB.out⟩

end Go.Proofs.YtlghphmehlmehaaDoor.Rt
