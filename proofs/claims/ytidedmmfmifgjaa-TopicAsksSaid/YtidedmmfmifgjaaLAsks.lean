/-
  TopicAsks.
-/
import Derived.Test.YtidedmmfmifgjaaTTold
import Derived.Test.YtidedmmfmifgjaaTRMatch
namespace Go.Proofs.Ytidedmmfmifgjaa
open Go.RowKit
set_option linter.unusedVariables false

def asksRel (W : World) (P : List (List UInt8)) (a b : Option Addr) (ac bc : Nat) (n : Nat) (v7 : Value) (wr : World) : Prop :=
  ∃ i : Nat, i ≤ P.length ∧ n = P.length - i ∧ v7 = .int .i64 i ∧ Below W.heap.size W wr ∧ StrsAt wr a ac P ∧ StrsAt wr b bc P

set_option maxRecDepth 100000 in
set_option maxHeartbeats 1000000 in
theorem asks_any (p0 p1 : ByteArray) (w : World) (w0 : p0.size ≤ maxLen) (w1 : p1.size ≤ maxLen) :
    Calls Try.prog 3 #[.string p0, .string p1] w fun e w' => e = .returned (.bool true) ∧ Below w.heap.size w w' := by
  clear w0 w1
  obtain ⟨⟨l⟩⟩ := p0
  obtain ⟨⟨k⟩⟩ := p1
  show Calls Try.prog 3 #[.string ⟨l.toArray⟩, .string ⟨k.toArray⟩] w _
  have hsz : (⟨l.toArray⟩ : ByteArray).size = l.length := rfl
  have hsz2 : (⟨k.toArray⟩ : ByteArray).size = k.length := rfl
  go_enter Try.func3, Try.ntmps3
  by_cases h1 : 300 < l.length
  · have c1 : (300 : Int) < (l.length : Int) := by omega
    go_wp2_with (go_at_call 8; refine (told_any _).mono ?_; rintro e w1 ⟨rfl, hb1⟩; have HB1 := Lib.hid hb1; clear hb1)
    go_ret
    exact ⟨rfl, HB1.out⟩
  have c1 : ¬ (300 : Int) < (l.length : Int) := by omega
  by_cases h2 : 300 < k.length
  · have c2 : (300 : Int) < (k.length : Int) := by omega
    go_wp2_with (go_at_call 8; refine (told_any _).mono ?_; rintro e w1 ⟨rfl, hb1⟩; have HB1 := Lib.hid hb1; clear hb1)
    go_ret
    exact ⟨rfl, HB1.out⟩
  have c2 : ¬ (300 : Int) < (k.length : Int) := by omega
  go_wp2_with fail
  refine (words_any l (by omega) _).mono ?_
  rintro e w1 ⟨hb1, a, ac, rfl, -, hat1⟩
  have HB1 := Lib.hid hb1
  have HA1 := Lib.hid hat1
  clear hb1 hat1
  go_wp2_with fail
  refine (rwords_any l (by omega) _).mono ?_
  rintro e w2 ⟨hb2, b, bc, rfl, -, hat2⟩
  have HB2 := Lib.hid (HB1.out.trans (hb2.mono HB1.out.size))
  have HA2 := Lib.hid (HA1.out.below hb2)
  have HC2 := Lib.hid hat2
  have hwl : (wds l).length ≤ 301 := by have := wds_le l; omega
  clear hb2 hat2 HA1 HB1
  obtain ⟨P, hP⟩ : ∃ P, wds l = P := ⟨_, rfl⟩
  rw [hP] at hwl HA2 HC2 ⊢
  clear hP
  have c3 : ((P.length : Int) != (P.length : Int)) = false := by simp
  go_wp2_with fail
  go_loopg [7] P.length (asksRel w P a b ac bc)
  case atStart => exact ⟨0, Nat.zero_le _, by omega, rfl, HB2.out, HA2.out, HC2.out⟩
  case round =>
    obtain ⟨i, hi, rfl, rfl, hb, ha, hc⟩ := hrel
    have HB := Lib.hid hb
    have HA := Lib.hid ha
    have HC := Lib.hid hc
    clear hb ha hc
    by_cases hlt : i < P.length
    · have i1 : (i : Int) < (P.length : Int) := by omega
      have i2 : IntKind.i64.wrap ((i : Int) + 1) = (i : Int) + 1 := IntWalk.i64_in _ (by omega)
      have i3 : (0 : Int) ≤ (i : Int) := by omega
      obtain ⟨b1, o1, rfl, hc1⟩ := HA.out.at' (by omega)
      obtain ⟨b2, o2, rfl, hc2⟩ := HC.out.at' (by omega)
      obtain ⟨x, hx⟩ : ∃ x, P[i] = x := ⟨_, rfl⟩
      have d1 : wr.cell? ⟨b1, o1 + i, none⟩ = some (.string ⟨x.toArray⟩) := by rw [hc1 i hlt, hx]; rfl
      have d2 : wr.cell? ⟨b2, o2 + i, none⟩ = some (.string ⟨x.toArray⟩) := by rw [hc2 i hlt, hx]; rfl
      clear hc1 hc2 hx
      have e1 : (x != x) = false := by simp
      go_wp2_with fail
      go_quiet (fail)
      have hbn : Below wr.heap.size wr (wr.drewN nq) := Below.drewN (Below.refl _ _) _
      obtain ⟨w5, hw5⟩ : ∃ w5, w5 = wr.drewN nq := ⟨_, rfl⟩
      rw [← hw5] at hbn ⊢
      have HBN := Lib.hid hbn
      clear hw5 hbn
      go_wp2_with fail
      go_roundg (P.length - (i + 1))
      case measure => omega
      case rel => exact ⟨i + 1, by omega, rfl, rfl, HB.out.trans (HBN.out.mono HB.out.size), HA.out.below HBN.out, HC.out.below HBN.out⟩
    · obtain rfl : i = P.length := by omega
      have i1 : ¬ (P.length : Int) < (P.length : Int) := by omega
      obtain ⟨q1, hq1⟩ : ∃ q, mayB l = q := ⟨_, rfl⟩
      obtain ⟨q2, hq2⟩ : ∃ q, matchB l k = q := ⟨_, rfl⟩
      have HQ := Lib.hid (And.intro hq1 hq2)
      clear hq1 hq2
      go_wp2_with fail
      refine (told_any _).mono ?_
      rintro e w3 ⟨rfl, hb3⟩
      have HB3 := Lib.hid (HB.out.trans (hb3.mono HB.out.size))
      clear hb3
      go_wp2_with fail
      refine (may_is l (by omega) q1 HQ.out.1 _).mono ?_
      rintro e w4 ⟨rfl, hb4⟩
      have HB4 := Lib.hid (HB3.out.trans (hb4.mono HB3.out.size))
      clear hb4
      go_wp2_with fail
      have cm := rmay_any l (by omega)
      rw [HQ.out.1] at cm
      refine (cm _).mono ?_
      rintro e w5 ⟨rfl, hb5⟩
      have HB5 := Lib.hid (HB4.out.trans (hb5.mono HB4.out.size))
      clear hb5 cm
      go_wp2_with fail
      refine (match_is l k (by omega) (by omega) q2 HQ.out.2 _).mono ?_
      rintro e w6 ⟨rfl, hb6⟩
      have HB6 := Lib.hid (HB5.out.trans (hb6.mono HB5.out.size))
      clear hb6
      go_wp2_with fail
      have cm := rmatch_any l k (by omega) (by omega)
      rw [HQ.out.2] at cm
      refine (cm _).mono ?_
      rintro e w7 ⟨rfl, hb7⟩
      have HB7 := Lib.hid (HB6.out.trans (hb7.mono HB6.out.size))
      clear hb7 cm
      go_wp2_with fail
      go_ret
      exact ⟨rfl, HB7.out⟩
end Go.Proofs.Ytidedmmfmifgjaa
