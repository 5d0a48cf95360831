/-
  The document's mark, MayPattern, walked.
-/
import Derived.Test.YtidedmmfmifgjaaTRef
namespace Go.Proofs.Ytidedmmfmifgjaa
open Go.RowKit
set_option linter.unusedVariables false

def markRel (l : List UInt8) (w : World) (n : Nat) (v3 : Value) (wr : World) : Prop :=
  ∃ i : Nat, i ≤ l.length ∧ n = l.length - i ∧ v3 = .int .i64 i ∧ w = wr ∧ Lib.NoAny l [42, 35] i

theorem byte_ne {c d : UInt8} (h : c ≠ d) : ((c.toNat : Int) == (d.toNat : Int)) = false := by
  rw [beq_eq_false_iff_ne]
  intro e
  exact h (UInt8.toNat_inj.1 (by omega))

set_option maxRecDepth 100000 in
set_option maxHeartbeats 2000000 in
theorem mark_any (l : List UInt8) (hl : l.length ≤ 1000000) (w : World) :
    Calls Try.prog 20 #[.string ⟨l.toArray⟩] w fun e w' => e = .returned (.bool (l.contains 42 || l.contains 35)) ∧ w = w' := by
  have hsz : (⟨l.toArray⟩ : ByteArray).size = l.length := rfl
  rw [← any_is]
  go_enter Try.func20, Try.ntmps20
  go_wp2_with fail
  go_loopg [3] l.length (markRel l w)
  case atStart => exact ⟨0, Nat.zero_le _, by omega, rfl, rfl, Lib.NoAny.zero _ _⟩
  case round =>
    obtain ⟨i, hi, rfl, rfl, rfl, hno⟩ := hrel
    have HN := Lib.hid hno
    clear hno
    by_cases hlt : i < l.length
    · have i1 : (i : Int) < (l.length : Int) := by omega
      have i2 : IntKind.i64.wrap ((i : Int) + 1) = (i : Int) + 1 := IntWalk.i64_in _ (by omega)
      obtain ⟨c, hc⟩ : ∃ c, l[i] = c := ⟨_, rfl⟩
      have hc' : (⟨l.toArray⟩ : ByteArray)[i]'(by rw [hsz]; exact hlt) = c := hc
      have hl' : l[i]? = some c := by rw [List.getElem?_eq_getElem hlt, hc]
      have HL := Lib.hid hl'
      clear hl' hc
      by_cases h1 : c = 42
      · subst h1
        go_wp2_with fail
        go_ret
        exact ⟨by rw [Lib.indexAny_hit HN.out HL.out (by decide)]; simp, rfl⟩
      · have e1 := byte_ne h1
        by_cases h2 : c = 35
        · subst h2
          go_wp2_with fail
          go_ret
          exact ⟨by rw [Lib.indexAny_hit HN.out HL.out (by decide)]; simp, rfl⟩
        · have e2 := byte_ne h2
          have hm : ([42, 35] : List UInt8).contains c = false := by simp [h1, h2]
          have HM := Lib.hid hm
          rw [show ((42 : UInt8).toNat : Int) = 42 from rfl] at e1
          rw [show ((35 : UInt8).toNat : Int) = 35 from rfl] at e2
          clear hm h1 h2
          go_wp2_with fail
          go_roundg (l.length - (i + 1))
          case measure => omega
          case rel => exact ⟨i + 1, by omega, rfl, rfl, rfl, HN.out.succ HL.out HM.out⟩
    · obtain rfl : i = l.length := by omega
      have i1 : ¬ (l.length : Int) < (l.length : Int) := by omega
      go_wp2_with fail
      go_ret
      exact ⟨by rw [Lib.indexAny_none HN.out]; rfl, rfl⟩

def rmayRel (l : List UInt8) (w : World) (n : Nat) (v4 : Value) (wr : World) : Prop :=
  ∃ i : Nat, i ≤ (wds l).length ∧ n = (wds l).length - i ∧ v4 = .int .i64 i ∧ w = wr ∧ ((wds l).take i).all mayW = true

theorem all_stop {l : List (List UInt8)} {i : Nat} (hi : i < l.length) (h : mayW l[i] = false) : l.all mayW = false := by
  rw [Bool.eq_false_iff]
  intro e
  rw [List.all_eq_true] at e
  rw [e _ (List.getElem_mem hi)] at h
  cases h

set_option maxRecDepth 100000 in
set_option maxHeartbeats 4000000 in
theorem rmay_any (l : List UInt8) (hl : l.length ≤ 1000000) (w : World) :
    Calls Try.prog 12 #[.string ⟨l.toArray⟩] w fun e w' => e = .returned (.bool (mayB l)) ∧ Below w.heap.size w w' := by
  have hsz : (⟨l.toArray⟩ : ByteArray).size = l.length := rfl
  go_enter Try.func12, Try.ntmps12
  go_wp2_with fail
  refine (rwords_any l hl _).mono ?_
  rintro e w1 ⟨hb1, a, cap, rfl, hcap, hat⟩
  have HB := Lib.hid hb1
  have HAT := Lib.hid hat
  have hmb : mayB l = (!(decide (20 < (wds l).length) || decide (255 < l.length)) && (wds l).all mayW) := by unfold mayB; rw [fitsB_eq]
  have HM := Lib.hid hmb
  have hin := wds_in l
  have HIN := Lib.hid hin
  clear hb1 hat hcap hmb hin
  by_cases h20 : 20 < (wds l).length
  · have c1 : (20 : Int) < ((wds l).length : Int) := by omega
    go_wp2_with fail
    go_ret
    exact ⟨by rw [HM.out, decide_eq_true h20]; rfl, HB.out⟩
  have c1 : ¬ (20 : Int) < ((wds l).length : Int) := by omega
  by_cases h255 : 255 < l.length
  · have c2 : (255 : Int) < (l.length : Int) := by omega
    go_wp2_with fail
    go_ret
    exact ⟨by rw [HM.out, decide_eq_true h255, decide_eq_false h20]; rfl, HB.out⟩
  have c2 : ¬ (255 : Int) < (l.length : Int) := by omega
  have HM2 := Lib.hid (show mayB l = (wds l).all mayW by rw [HM.out, decide_eq_false h255, decide_eq_false h20]; rfl)
  clear HM
  go_wp2_with fail
  go_loopg [4] (wds l).length (rmayRel l w1)
  case atStart => exact ⟨0, Nat.zero_le _, by omega, rfl, rfl, rfl⟩
  case round =>
    obtain ⟨i, hi, rfl, rfl, rfl, hall⟩ := hrel
    have HALL := Lib.hid hall
    clear hall
    by_cases hlt : i < (wds l).length
    · have i1 : (i : Int) < ((wds l).length : Int) := by omega
      have i2 : IntKind.i64.wrap ((i : Int) + 1) = (i : Int) + 1 := IntWalk.i64_in _ (by omega)
      obtain ⟨b, o, rfl, hc⟩ := HAT.out.at' (by omega)
      obtain ⟨x, hx⟩ : ∃ x, (wds l)[i] = x := ⟨_, rfl⟩
      have hxl : x.length ≤ 1000000 := by rw [← hx]; exact Nat.le_trans (HIN.out _ (List.getElem_mem hlt)) hl
      have hc0 : w1.cell? ⟨b, o + i, none⟩ = some (.string ⟨x.toArray⟩) := by rw [hc i hlt, hx]; rfl
      have hxs : (⟨x.toArray⟩ : ByteArray).size = x.length := rfl
      have HX := Lib.hid hx
      clear hc hx
      have cm := mark_any x hxl
      have hmw := mayW_eq x
      generalize (x.contains 42 || x.contains 35) = q at cm hmw
      have CM := Lib.hid cm
      clear cm
      cases q
      · have hmw1 : mayW x = true := by rw [hmw]; rfl
        have HMW := Lib.hid hmw1
        clear hmw hmw1
        go_wp2_with (go_at_call 20; refine (CM.out _).mono ?_; rintro e w2 ⟨rfl, rfl⟩)
        go_roundg ((wds l).length - (i + 1))
        case measure => omega
        case rel => exact ⟨i + 1, by omega, rfl, rfl, rfl, by rw [List.take_succ_eq_append_getElem hlt, List.all_append, HALL.out, HX.out]; simp [HMW.out]⟩
      · by_cases h1 : 1 < x.length
        · have hmw1 : mayW x = false := by rw [hmw, decide_eq_true h1]; rfl
          have HMW := Lib.hid hmw1
          have c3 : (1 : Int) < (x.length : Int) := by omega
          clear hmw hmw1
          go_wp2_with (go_at_call 20; refine (CM.out _).mono ?_; rintro e w2 ⟨rfl, rfl⟩)
          go_ret
          exact ⟨by rw [HM2.out, all_stop hlt (by rw [HX.out]; exact HMW.out)]; rfl, HB.out⟩
        · have hmw1 : mayW x = true := by rw [hmw, decide_eq_false h1]; rfl
          have HMW := Lib.hid hmw1
          have c3 : ¬ (1 : Int) < (x.length : Int) := by omega
          clear hmw hmw1
          go_wp2_with (go_at_call 20; refine (CM.out _).mono ?_; rintro e w2 ⟨rfl, rfl⟩)
          go_roundg ((wds l).length - (i + 1))
          case measure => omega
          case rel => exact ⟨i + 1, by omega, rfl, rfl, rfl, by rw [List.take_succ_eq_append_getElem hlt, List.all_append, HALL.out, HX.out]; simp [HMW.out]⟩
    · obtain rfl : i = (wds l).length := by omega
      have i1 : ¬ ((wds l).length : Int) < ((wds l).length : Int) := by omega
      go_wp2_with fail
      go_ret
      have ha := HALL.out
      rw [List.take_length] at ha
      exact ⟨by rw [HM2.out, ha]; rfl, HB.out⟩
end Go.Proofs.Ytidedmmfmifgjaa
