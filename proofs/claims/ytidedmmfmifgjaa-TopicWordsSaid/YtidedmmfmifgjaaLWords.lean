/-
  TopicWords.
-/
import Derived.Test.YtidedmmfmifgjaaTTold
namespace Go.Proofs.Ytidedmmfmifgjaa
open Go.RowKit
set_option linter.unusedVariables false

def lwRel (l : List UInt8) (w : World) (n : Nat) (v3 v4 : Value) (wr : World) : Prop :=
  ∃ i : Nat, i ≤ l.length ∧ n = l.length - i ∧ v3 = .int .i64 ((l.take i).count 46 + 1 : Nat) ∧ v4 = .int .i64 i ∧ w = wr

set_option maxRecDepth 100000 in
set_option maxHeartbeats 4000000 in
theorem lwords_any (p0 : ByteArray) (w : World) (w0 : p0.size ≤ maxLen) :
    Calls Try.prog 7 #[.string p0] w fun e w' => e = .returned (.bool true) ∧ Below w.heap.size w w' := by
  clear w0
  obtain ⟨⟨l⟩⟩ := p0
  show Calls Try.prog 7 #[.string ⟨l.toArray⟩] w _
  have hsz : (⟨l.toArray⟩ : ByteArray).size = l.length := rfl
  go_enter Try.func7, Try.ntmps7
  by_cases h1 : l.length < 1
  · have c1 : (l.length : Int) < 1 := by omega
    go_wp2_with (go_at_call 8; refine (told_any _).mono ?_; rintro e w1 ⟨rfl, hb1⟩; have HB1 := Lib.hid hb1; clear hb1)
    go_ret
    exact ⟨rfl, HB1.out⟩
  have c1 : ¬ (l.length : Int) < 1 := by omega
  by_cases h2 : 100 < l.length
  · have c2 : (100 : Int) < (l.length : Int) := by omega
    go_wp2_with (go_at_call 8; refine (told_any _).mono ?_; rintro e w1 ⟨rfl, hb1⟩; have HB1 := Lib.hid hb1; clear hb1)
    go_ret
    exact ⟨rfl, HB1.out⟩
  have c2 : ¬ (100 : Int) < (l.length : Int) := by omega
  have hne : l ≠ [] := by rintro rfl; simp at h1
  have hwl : (wds l).length = l.count 46 + 1 := by rw [wds_of hne, spl_len]
  have HWL := Lib.hid hwl
  clear hne hwl
  go_wp2_with fail
  go_loopg [3, 4] l.length (lwRel l w)
  case atStart => exact ⟨0, by omega, rfl, rfl, rfl, rfl⟩
  case round =>
    obtain ⟨i, hi, rfl, rfl, rfl, rfl⟩ := hrel
    by_cases hlt : i < l.length
    · have i1 : (i : Int) < (l.length : Int) := by omega
      have i2 : IntKind.i64.wrap ((i : Int) + 1) = (i : Int) + 1 := IntWalk.i64_in _ (by omega)
      obtain ⟨c, hc⟩ : ∃ c, l[i] = c := ⟨_, rfl⟩
      have hc' : (⟨l.toArray⟩ : ByteArray)[i]'(by rw [hsz]; exact hlt) = c := hc
      have ht := List.take_succ_eq_append_getElem hlt
      rw [hc] at ht
      have HT := Lib.hid ht
      have hcn : (l.take i).count 46 ≤ i := Nat.le_trans List.count_le_length (by rw [List.length_take]; omega)
      clear hc ht
      by_cases h46 : c = 46
      · subst h46
        obtain ⟨q, hq⟩ : ∃ q, (l.take i).count 46 + 1 = q := ⟨_, rfl⟩
        have i3 : IntKind.i64.wrap ((q : Int) + 1) = (q : Int) + 1 := IntWalk.i64_in _ (by omega)
        have HQ := Lib.hid hq
        rw [hq]
        clear hq hcn
        go_wp2_with fail
        go_roundg (l.length - (i + 1))
        case measure => omega
        case rel => exact ⟨i + 1, by omega, rfl, by rw [HT.out, List.count_append, ← HQ.out]; rfl, rfl, rfl⟩
      · have h46' : ((c.toNat : Int) == 46) = false := by
          rw [beq_eq_false_iff_ne]
          intro e
          exact h46 (UInt8.toNat_inj.1 (by show c.toNat = 46; omega))
        have hz : List.count 46 [c] = 0 := by simp [h46]
        have HZ := Lib.hid hz
        clear h46 hcn hz
        go_wp2_with fail
        go_roundg (l.length - (i + 1))
        case measure => omega
        case rel => exact ⟨i + 1, by omega, rfl, by rw [HT.out, List.count_append, HZ.out], rfl, rfl⟩
    · obtain rfl : i = l.length := by omega
      have i1 : ¬ (l.length : Int) < (l.length : Int) := by omega
      rw [List.take_length]
      obtain ⟨q, hq⟩ : ∃ q, l.count 46 + 1 = q := ⟨_, rfl⟩
      have HQ := Lib.hid (HWL.out.trans hq)
      rw [hq]
      clear hq
      have hjw := joinW_wds l
      have HJW := Lib.hid hjw
      clear hjw
      go_wp2_with fail
      refine (words_any l (by omega) _).mono ?_
      rintro e w1 ⟨hb1, a, cap, rfl, hcap, hat⟩
      have HB1 := Lib.hid hb1
      have HAT := Lib.hid hat
      have e1 := HQ.out
      rw [e1]
      clear hb1 hat hcap
      go_wp2_with (go_at_call 8; refine (told_any _).mono ?_; rintro e w2 ⟨rfl, hb2⟩; have HAT2 := Lib.hid (HAT.out.below hb2); have HB2 := Lib.hid (HB1.out.trans (hb2.mono HB1.out.size)); clear hb2)
      have hj := join_any (wds l) (by rw [e1, ← HQ.out]; have := wds_le l; omega) (by rw [HJW.out]; omega) a cap _ HAT2.out
      rw [e1, HJW.out] at hj
      refine hj.mono ?_
      rintro e w3 ⟨rfl, rfl⟩
      go_wp2_with fail
      go_ret
      exact ⟨rfl, HB2.out⟩
end Go.Proofs.Ytidedmmfmifgjaa
