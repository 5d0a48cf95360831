/-
  The library's ContainsAny at a star and a cross, of any text: short ones are gone over rune by rune.
-/
import Derived.Test.YtlghphmehlmehaaDoorTRune
import Derived.Lib.OthersKept
import Derived.Lib.IndexAny
import Derived.Deep.LoopGhost
namespace Go.Proofs.YtlghphmehlmehaaDoor.Top
open Go.RowKit
set_option linter.unusedVariables false

theorem get_list (s : ByteArray) (i : Nat) (b : UInt8) (h : s.data.toList[i]? = some b) : (s.get! i).toNat = b.toNat := by
  obtain ⟨hi, he⟩ := List.getElem?_eq_some_iff.1 h
  have hi' : i < s.size := by simpa using hi
  have e := get_at s i hi'
  rw [Nat.add_zero] at e
  rw [e]
  exact congrArg UInt8.toNat he
/-- the bytes of a rune that is none of ASCII are none of ASCII. -/
theorem decode_wide (s : ByteArray) (pos : Nat) (h : pos < s.size) (ha : 128 ≤ (s[pos]'h).toNat) (j : Nat) (b : UInt8) (h1 : pos ≤ j) (h2 : j < pos + (Utf8.decode s pos).2) (hb : s.data.toList[j]? = some b) : 128 ≤ b.toNat := by
  have hg := get_list s j b hb
  have hn : ¬ (s[pos]'h).toNat < 128 := by omega
  have h0 := get_at s pos h
  rw [← hg]
  obtain ⟨k, rfl⟩ : ∃ k, j = pos + k := ⟨j - pos, by omega⟩
  have hk : k < (Utf8.decode s pos).2 := by omega
  clear h2 h1 hb hg
  simp only [Utf8.decode, h0, hn, if_false] at hk
  have hk0 : k = 0 → 128 ≤ (s.get! (pos + k)).toNat := by rintro rfl; rw [h0]; exact ha
  repeat' split at hk
  all_goals simp only [Bool.and_eq_true, decide_eq_true_eq, beq_iff_eq] at *
  all_goals first
    | exact hk0 (by omega)
    | (have hc : k = 0 ∨ k = 1 ∨ k = 2 ∨ k = 3 := by omega
       rcases hc with rfl | rfl | rfl | rfl
       · exact hk0 rfl
       all_goals omega)

theorem any_is : ∀ l : List UInt8, decide (0 ≤ Lib.indexAny l [42, 35]) = (l.contains 42 || l.contains 35)
  | [] => rfl
  | b :: l => by
    have ih := any_is l
    have hge := Lib.indexAny_ge [42, 35] l
    rw [Lib.indexAny]
    by_cases h1 : b = 42
    · subst h1; simp
    · by_cases h2 : b = 35
      · subst h2; simp
      · have e1 : (42 : UInt8) ≠ b := fun h => h1 h.symm
        have e2 : (35 : UInt8) ≠ b := fun h => h2 h.symm
        have hc : ([42, 35] : List UInt8).contains b = false := by simp [h1, h2]
        rw [hc, List.contains_cons, List.contains_cons]
        have e3 : ((42 : UInt8) == b) = false := by simpa using e1
        have e4 : ((35 : UInt8) == b) = false := by simpa using e2
        rw [e3, e4, Bool.false_or, Bool.false_or, ← ih]
        by_cases hm : Lib.indexAny l [42, 35] = -1
        · simp [hm]
        · have : (Lib.indexAny l [42, 35] == -1) = false := by rw [beq_eq_false_iff_ne]; exact hm
          simp only [this, Bool.false_eq_true, if_false]
          rw [Bool.eq_iff_iff, decide_eq_true_eq, decide_eq_true_eq]
          omega

def shortRel (s : ByteArray) (w : World) (g : Nat) (v9 v10 : Value) (wx : World) : Prop :=
  ∃ i : Nat, g = s.size - i ∧ wx.heap[w.heap.size]? = some (.stringIter s i) ∧ Below w.heap.size w wx ∧ Lib.NoAny s.data.toList [42, 35] i

set_option maxRecDepth 100000 in
set_option maxHeartbeats 4000000 in
theorem indexAny_short (s : ByteArray) (h8 : s.size ≤ 8) (w : World) :
    Calls Tryd.prog 47 #[.string s, .string ⟨#[42, 35]⟩] w fun e w' => e = .returned (.int .i64 (Lib.indexAny s.data.toList [42, 35])) ∧ Below w.heap.size w w' := by
  have h8z : decide ((8 : Int) < (s.size : Int)) = false := decide_eq_false (by omega)
  go_enter Tryd.func47, Tryd.ntmps47
  go_wp2_with (go_at_call 51; refine (Tryd.strings_shouldUseASCIISet _ _).mono ?_; rintro e w' ⟨rfl, hw⟩; rw [hw, h8z])
  go_loopg [9, 10] s.size (shortRel s w)
  case atStart => exact ⟨0, by omega, World.iter_heap w s 0, (Below.refl _ _).alloc (Nat.le_refl _) _, Lib.NoAny.zero _ _⟩
  case round =>
    obtain ⟨i, rfl, hit, hb, hno⟩ := hrel
    have HN := Lib.hid hno
    have HB := Lib.hid hb
    have HIT := Lib.hid hit
    clear hno hb hit
    by_cases hi : i < s.size
    · by_cases ha : (s[i]'hi).toNat < 128
      · have hnx := fun ty => Go.Lib.run_next_ascii_at (P := Tryd.prog) wr w.heap.size s i ty HIT.out hi ha
        obtain ⟨x, hx⟩ : ∃ x : UInt8, s[i]'hi = x := ⟨_, rfl⟩
        have hxl : s.data.toList[i]? = some x := by rw [← hx]; exact Lib.data_getElem? s i hi
        rw [hx] at hnx ha
        have Hx := Lib.hid hxl
        have HIT2 := Lib.hid (Go.Lib.iterAt_heap wr w.heap.size s i (i + 1) HIT.out)
        have HB2 := Lib.hid (Go.Lib.below_iterAt HB.out (Nat.le_refl _) s (i + 1))
        clear hxl hx
        generalize wr.iterAt w.heap.size s (i + 1) = w2 at *
        have hcon := Lib.contains_iff_indexByte [42, 35] x
        have hback : ((x.toNat : Int)).toNat.toUInt8 = x := by simp
        cases hin : ([42, 35] : List UInt8).contains x
        · rw [hin] at hcon
          have hlt : ¬ ((0 : Int) ≤ Lib.indexByte [42, 35] x) := of_decide_eq_false hcon.symm
          have HIN := Lib.hid hin
          clear hcon hin
          go_wp2_with (go_at_call 50; refine (Tryd.strings_IndexRune_ascii _ _ _ (by omega) (by omega)).mono ?_; rintro e w' ⟨rfl, hw⟩; rw [hw, hback])
          go_roundg (s.size - (i + 1))
          case measure => omega
          case rel => exact ⟨i + 1, rfl, HIT2.out, HB2.out, HN.out.succ Hx.out HIN.out⟩
        · rw [hin] at hcon
          have hge : (0 : Int) ≤ Lib.indexByte [42, 35] x := of_decide_eq_true hcon.symm
          have HIN := Lib.hid hin
          clear hcon hin
          go_wp2_with (go_at_call 50; refine (Tryd.strings_IndexRune_ascii _ _ _ (by omega) (by omega)).mono ?_; rintro e w' ⟨rfl, hw⟩; rw [hw, hback])
          go_ret
          exact ⟨by rw [Lib.indexAny_hit HN.out Hx.out HIN.out]; rfl, HB2.out⟩
      · have hge : 128 ≤ (s[i]'hi).toNat := by omega
        have hnx := fun ty => Go.Lib.run_next_any_at (P := Tryd.prog) wr w.heap.size s i ty HIT.out hi
        obtain ⟨d1, d2⟩ := decode_high s i hi hge
        have d3 := decode_le s i
        have hw := decode_wide s i hi hge
        generalize Utf8.decode s i = d at *
        obtain ⟨c, n⟩ := d
        simp only at d1 d2 d3 hw hnx
        have hnw : Lib.NoAny s.data.toList [42, 35] (i + n) := fun j b hj hb => by
          by_cases hji : j < i
          · exact HN.out j b hji hb
          · have := hw j b (by omega) hj hb
            have e1 : b ≠ 42 := fun e => by rw [e] at this; exact absurd this (by decide)
            have e2 : b ≠ 35 := fun e => by rw [e] at this; exact absurd this (by decide)
            simp [e1, e2]
        have HNW := Lib.hid hnw
        have HIT2 := Lib.hid (Go.Lib.iterAt_heap wr w.heap.size s i (i + n) HIT.out)
        have HB2 := Lib.hid (Go.Lib.below_iterAt HB.out (Nat.le_refl _) s (i + n))
        clear hw ha hge hnw
        generalize wr.iterAt w.heap.size s (i + n) = w2 at *
        go_wp2_with fail
        refine (rune_none c d1 d3 _).mono ?_
        rintro e w3 ⟨rfl, hb3⟩
        have HB3 := Lib.hid hb3
        clear hb3
        go_wp2_with fail
        go_roundg (s.size - (i + n))
        case measure => omega
        case rel => exact ⟨i + n, rfl, (HB3.out.block _ (Array.getElem?_eq_some_iff.1 HIT2.out).1).trans HIT2.out, HB2.out.trans (HB3.out.mono HB2.out.size), HNW.out⟩
    · have hnx := fun ty => Go.Lib.run_next_end_at (P := Tryd.prog) wr w.heap.size s i ty HIT.out hi
      go_wp2_with fail
      go_ret
      refine ⟨?_, HB.out⟩
      rw [Lib.indexAny_none (fun j b hj hb => HN.out j b (by rw [← Lib.size_eq] at hj; omega) hb)]
      rfl

theorem zero_set : ∀ w, (zeroValue 76).run Tryd.prog w = .ok (.agg (Array.replicate 256 (.bool false))) w := (zero_of_info (n := 256) (by kernel_rfl)).1
theorem contains_any (l : List UInt8) (hl : l.length ≤ 1000000) (w : World) :
    Calls Tryd.prog 41 #[.string ⟨l.toArray⟩, .string ⟨#[42, 35]⟩] w fun e w' => e = .returned (.bool (l.contains 42 || l.contains 35)) ∧ Below w.heap.size w w' := by
  have hsz : (⟨l.toArray⟩ : ByteArray).size = l.length := rfl
  have c : Calls Tryd.prog 47 #[.string ⟨l.toArray⟩, .string ⟨#[42, 35]⟩] w fun e w' => e = .returned (.int .i64 (Lib.indexAny l [42, 35])) ∧ Below w.heap.size w w' := by
    by_cases h8 : l.length ≤ 8
    · exact indexAny_short ⟨l.toArray⟩ h8 w
    · refine (Tryd.strings_IndexAny_long zero_set ⟨l.toArray⟩ ⟨#[42, 35]⟩ w (by decide) (by omega) (by omega) (by decide) ?_).mono fun e w' ⟨h1, h2⟩ => ⟨h1, ?_⟩
      · intro j b hb
        match j, hb with
        | 0, hb => cases hb; decide
        | 1, hb => cases hb; decide
      · rw [h2]
        exact ((Below.refl _ _).alloc (Nat.le_refl _) _).alloc (by simp) _
  rw [← any_is]
  go_enter Tryd.func41, Tryd.ntmps41
  go_wp2_with (go_at_call 47; refine c.mono ?_; rintro e w' ⟨rfl, hb⟩; have HB := Lib.hid hb; clear hb)
  go_ret
  exact ⟨rfl, HB.out⟩
end Go.Proofs.YtlghphmehlmehaaDoor.Top
