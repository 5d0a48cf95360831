/-
  told, join of law 7, walked.
-/
import Derived.Test.YtidedmmfmifgjaaTMatch
import Derived.Deep.LoopGhost
namespace Go.Proofs.Ytidedmmfmifgjaa
open Go.RowKit
set_option linter.unusedVariables false

theorem match_is (p k : List UInt8) (hp : p.length ≤ 1000000) (hk : k.length ≤ 1000000) (b : Bool) (hb : matchB p k = b) (w : World) :
    Calls Try.prog 13 #[.string ⟨p.toArray⟩, .string ⟨k.toArray⟩] w fun e w' => e = .returned (.bool b) ∧ Below w.heap.size w w' := by
  rw [← hb]; exact match_any p k hp hk w
theorem may_is (p : List UInt8) (hp : p.length ≤ 1000000) (b : Bool) (hb : mayB p = b) (w : World) :
    Calls Try.prog 11 #[.string ⟨p.toArray⟩] w fun e w' => e = .returned (.bool b) ∧ Below w.heap.size w w' := by
  rw [← hb]; exact may_any p hp w

set_option maxRecDepth 100000 in
set_option maxHeartbeats 4000000 in
theorem told_any (w : World) : Calls Try.prog 8 #[] w fun e w' => e = .returned (.bool true) ∧ Below w.heap.size w w' := by
  go_enter Try.func8, Try.ntmps8
  go_wp2_with fail
  refine (words_any [97, 46, 46, 98] (by decide) _).mono ?_
  rintro e w1 ⟨hb1, a1, c1, rfl, hc1, hat1⟩
  rw [show wds [97, 46, 46, 98] = [[97], [], [98]] from rfl] at hat1 ⊢
  have HB1 := Lib.hid hb1
  obtain ⟨b, o, rfl, hc⟩ := hat1.at' (by decide)
  have k1 : w1.cell? ⟨b, o + 1, none⟩ = some (.string ⟨#[]⟩) := hc 1 (by decide)
  have hcap := hat1.len
  clear hc hb1 hat1 hc1
  go_wp2_with fail
  refine (words_any [] (by decide) _).mono ?_
  rintro e w2 ⟨hb2, a2, c2, rfl, -, -⟩
  have HB2 := Lib.hid (HB1.out.trans (hb2.mono HB1.out.size))
  clear hb2 k1
  go_wp2_with fail
  refine (match_is [97, 46, 35, 46, 98] [97, 46, 98] (by decide) (by decide) true (by kernel_rfl) _).mono ?_
  rintro e w3 ⟨rfl, hb3⟩
  have HB3 := Lib.hid (HB2.out.trans (hb3.mono HB2.out.size))
  clear hb3
  go_wp2_with fail
  refine (match_is [35] [] (by decide) (by decide) true (by kernel_rfl) _).mono ?_
  rintro e w4 ⟨rfl, hb4⟩
  have HB4 := Lib.hid (HB3.out.trans (hb4.mono HB3.out.size))
  clear hb4
  go_wp2_with fail
  refine (match_is [42, 46, 98] [120, 46, 98] (by decide) (by decide) true (by kernel_rfl) _).mono ?_
  rintro e w5 ⟨rfl, hb5⟩
  have HB5 := Lib.hid (HB4.out.trans (hb5.mono HB4.out.size))
  clear hb5
  go_wp2_with fail
  refine (match_is [42] [] (by decide) (by decide) false (by kernel_rfl) _).mono ?_
  rintro e w6 ⟨rfl, hb6⟩
  have HB6 := Lib.hid (HB5.out.trans (hb6.mono HB5.out.size))
  clear hb6
  go_wp2_with fail
  refine (match_is [97, 46, 42] [97, 46, 98, 46, 99] (by decide) (by decide) false (by kernel_rfl) _).mono ?_
  rintro e w7 ⟨rfl, hb7⟩
  have HB7 := Lib.hid (HB6.out.trans (hb7.mono HB6.out.size))
  clear hb7
  go_wp2_with fail
  refine (may_is [97, 46, 42, 46, 35] (by decide) true (by kernel_rfl) _).mono ?_
  rintro e w8 ⟨rfl, hb8⟩
  have HB8 := Lib.hid (HB7.out.trans (hb8.mono HB7.out.size))
  clear hb8
  go_wp2_with fail
  refine (may_is [97, 42] (by decide) false (by kernel_rfl) _).mono ?_
  rintro e w9 ⟨rfl, hb9⟩
  have HB9 := Lib.hid (HB8.out.trans (hb9.mono HB8.out.size))
  clear hb9
  go_wp2_with fail
  go_ret
  exact ⟨rfl, HB9.out⟩

theorem joinW_step : ∀ (l : List (List UInt8)) (i : Nat) (h : i < l.length), 0 < i → joinW (l.take (i + 1)) = joinW (l.take i) ++ 46 :: l[i] := by
  intro l i h h0
  rw [List.take_succ_eq_append_getElem h, joinW_snoc]
  intro e
  have := congrArg List.length e
  rw [List.length_take, List.length_nil] at this
  omega
theorem joinW_first (l : List (List UInt8)) (h : 0 < l.length) : joinW (l.take 1) = l[0] := by
  cases l with
  | nil => simp at h
  | cons x r => rfl
theorem joinW_cons (x : List UInt8) (r : List (List UInt8)) : x.length ≤ (joinW (x :: r)).length ∧ (joinW r).length ≤ (joinW (x :: r)).length := by
  cases r with
  | nil => simp [joinW]
  | cons y r => simp [joinW]; omega
theorem joinW_take : ∀ (l : List (List UInt8)) (i : Nat), (joinW (l.take i)).length ≤ (joinW l).length
  | [], i => by simp
  | x :: r, 0 => by simp [joinW]
  | [x], i + 1 => by simp
  | x :: y :: r, 1 => (joinW_cons x (y :: r)).1
  | x :: y :: r, i + 2 => by
    have ih := joinW_take (y :: r) (i + 1)
    simp only [List.take_succ_cons, joinW, List.length_append, List.length_cons] at ih ⊢
    omega

theorem wds_le (l : List UInt8) : (wds l).length ≤ l.length + 1 := Nat.le_trans (wds_len l) (by have := List.count_le_length (a := 46) (l := l); omega)
def joinRel (l : List (List UInt8)) (w : World) (n : Nat) (v3 v4 : Value) (wr : World) : Prop :=
  ∃ i : Nat, i ≤ l.length ∧ n = l.length - i ∧ v4 = .int .i64 i ∧ v3 = .string ⟨(joinW (l.take i)).toArray⟩ ∧ w = wr

set_option maxRecDepth 100000 in
set_option maxHeartbeats 2000000 in
theorem join_any (l : List (List UInt8)) (hl : l.length ≤ 1000000) (hj : (joinW l).length ≤ 1000000) (a : Option Addr) (cap : Nat) (w : World) (hat : StrsAt w a cap l) :
    Calls Try.prog 15 #[.slice a l.length cap] w fun e w' => e = .returned (.string ⟨(joinW l).toArray⟩) ∧ w = w' := by
  have HAT := Lib.hid hat
  clear hat
  go_enter Try.func15, Try.ntmps15
  go_wp2_with fail
  go_loopg [3, 4] l.length (joinRel l w)
  case atStart => exact ⟨0, by omega, rfl, rfl, rfl, rfl⟩
  case round =>
    obtain ⟨i, hi, rfl, rfl, rfl, rfl⟩ := hrel
    by_cases hlt : i < l.length
    · have i1 : (i : Int) < (l.length : Int) := by omega
      have i2 : IntKind.i64.wrap ((i : Int) + 1) = (i : Int) + 1 := IntWalk.i64_in _ (by omega)
      obtain ⟨b, o, rfl, hc⟩ := HAT.out.at' (by omega)
      have hc0 : w.cell? ⟨b, o + i, none⟩ = some (.string ⟨(l[i]).toArray⟩) := hc i hlt
      have ht := Nat.le_trans (joinW_take l (i + 1)) hj
      clear hc
      by_cases h0 : i = 0
      · subst h0
        rw [joinW_first l hlt] at ht
        have HF := Lib.hid (joinW_first l hlt)
        rw [Nat.add_zero] at hc0
        rw [show joinW (List.take 0 l) = [] from rfl]
        go_wp2_with fail
        go_roundg (l.length - 1)
        case measure => omega
        case rel => exact ⟨1, by omega, rfl, rfl, by rw [HF.out, cat_list]; rfl, rfl⟩
      · have hst := joinW_step l i hlt (by omega)
        rw [hst, List.length_append, List.length_cons] at ht
        have HF := Lib.hid hst
        have h0' : (0 : Int) < (i : Int) := by omega
        have hn : 0 < i := by omega
        clear h0 hst
        go_wp2_with fail
        go_roundg (l.length - (i + 1))
        case measure => omega
        case rel => exact ⟨i + 1, by omega, rfl, rfl, by rw [HF.out, cat_list, cat_list]; simp, rfl⟩
    · obtain rfl : i = l.length := by omega
      have i1 : ¬ (l.length : Int) < (l.length : Int) := by omega
      go_wp2_with fail
      go_ret
      exact ⟨rfl, rfl⟩
end Go.Proofs.Ytidedmmfmifgjaa
