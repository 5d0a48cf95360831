/-
  topic.fits, mayWord, May, walked.
-/
import Derived.Test.YtlghphmehlmehaaDoorTWords
import Derived.Test.YtlghphmehlmehaaDoorTAny
namespace Go.Proofs.YtlghphmehlmehaaDoor.Top
open Go.RowKit
set_option linter.unusedVariables false

set_option maxHeartbeats 2000000 in
theorem fits_any (l : List UInt8) (w : World) :
    Calls Tryd.prog 20 #[.string ⟨l.toArray⟩] w fun e w' => e = .returned (.bool (fitsB l)) ∧ w = w' := by
  have hsz : (⟨l.toArray⟩ : ByteArray).size = l.length := rfl
  go_enter Tryd.func20, Tryd.ntmps20
  unfold fitsB
  by_cases h1 : l.length ≤ 255
  · have h2 : (l.length : Int) ≤ 255 := by omega
    go_wp2_with (go_at_call 35; refine (count_one _ _).mono ?_; rintro e w' ⟨rfl, rfl⟩)
    go_ret
    refine ⟨?_, rfl⟩
    show Ending.returned (.bool (decide ((l.count 46 : Int) < 20))) = _
    rw [decide_eq_true h1, Bool.true_and]
    congr 2
    rw [decide_eq_decide]
    omega
  · have h2 : ¬ (l.length : Int) ≤ 255 := by omega
    go_wp2_with (go_at_call 35; refine (count_one _ _).mono ?_; rintro e w' ⟨rfl, rfl⟩)
    go_ret
    refine ⟨?_, rfl⟩
    rfl

set_option maxHeartbeats 2000000 in
theorem mayWord_any (l : List UInt8) (hl : l.length ≤ 1000000) (w : World) :
    Calls Tryd.prog 34 #[.string ⟨l.toArray⟩] w fun e w' => e = .returned (.bool (mayW l)) ∧ Below w.heap.size w w' := by
  go_enter Tryd.func34, Tryd.ntmps34
  by_cases h1 : l = [42]
  · subst h1
    go_wp2_with fail
    go_ret
    exact ⟨rfl, Below.refl _ _⟩
  by_cases h2 : l = [35]
  · subst h2
    go_wp2_with fail
    go_ret
    exact ⟨rfl, Below.refl _ _⟩
  have hm : mayW l = !(l.contains 42 || l.contains 35) := by
    unfold mayW
    rw [show (l == [42]) = false by simpa using h1, show (l == [35]) = false by simpa using h2]
    rfl
  have HM := Lib.hid hm
  clear hm
  obtain ⟨q, hq⟩ : ∃ q, (l.contains 42 || l.contains 35) = q := ⟨_, rfl⟩
  have c := contains_any l hl w
  rw [hq] at c HM
  have HC := Lib.hid c
  clear c hq
  go_wp2_with (go_at_call 41; refine HC.out.mono ?_; rintro e w' ⟨rfl, hb⟩; have HB := Lib.hid hb; clear hb)
  go_ret
  refine ⟨?_, HB.out⟩
  rw [HM.out]
  show Ending.returned (.bool (l == [42] || l == [35] || !q)) = _
  rw [show (l == [42]) = false by simpa using h1, show (l == [35]) = false by simpa using h2]
  rfl

def mayRel (l : List UInt8) (w : World) (m : Nat) (a' : Act) (w' : World) : Prop :=
  ∃ (r : List (List UInt8)) (a : Option Addr) (cap : Nat) (u4 u5 u6 u7 u8 u9 u10 u11 u12 u13 u14 u15 u16 u17 : Value), a' = { tmps := #[.string ⟨l.toArray⟩, undef, .bool false, .slice a r.length cap, u4, u5, u6, u7, u8, u9, u10, u11, u12, u13, u14, u15, u16, u17], defers := [] } ∧
    m = r.length ∧ mayB l = r.all mayW ∧ (∀ x ∈ r, x.length ≤ 1000000) ∧ Below w.heap.size w w' ∧ cap ≤ maxLen ∧ StrsAt w' a cap r

theorem spl_in : ∀ (l : List UInt8), ∀ x ∈ spl l, x.length ≤ l.length
  | [], x, h => by simp [spl] at h; subst h; simp
  | c :: r, x, h => by
    have ih := spl_in r
    rw [spl] at h
    split at h
    · rcases List.mem_cons.1 h with rfl | h
      · simp
      · have := ih x h; simp; omega
    · revert h
      cases hs : spl r with
      | nil => intro h; simp at h; subst h; simp
      | cons y ys =>
        intro h
        rcases List.mem_cons.1 h with rfl | h
        · have := ih y (by rw [hs]; simp); simpa using this
        · have := ih x (by rw [hs]; simp [h]); simp; omega
theorem wds_in (l : List UInt8) : ∀ x ∈ wds l, x.length ≤ l.length := by
  unfold wds
  split
  · simp
  · exact spl_in l

set_option maxRecDepth 100000 in
set_option maxHeartbeats 2000000 in
theorem may_any (l : List UInt8) (hl : l.length ≤ 1000000) (w : World) :
    Calls Tryd.prog 19 #[.string ⟨l.toArray⟩] w fun e w' => e = .returned (.bool (mayB l)) ∧ Below w.heap.size w w' := by
  go_enter Tryd.func19, Tryd.ntmps19
  go_wp2_with fail
  refine wp_scope_ghost 0 (mayRel l w) rfl ?_ ?_
  · intro H hb'
    have HBK := Lib.hid hb'
    clear hb'
    obtain ⟨q, hq⟩ : ∃ q, fitsB l = q := ⟨_, rfl⟩
    have c := fits_any l w
    rw [hq] at c
    have HC := Lib.hid c
    clear c
    cases q
    · have HQ := Lib.hid hq
      clear hq
      go_wp2_with (go_at_call 20; refine HC.out.mono ?_; rintro e w' ⟨rfl, rfl⟩)
      simp only [Exit.jump]
      go_ret
      refine ⟨?_, Below.refl _ _⟩
      unfold mayB
      rw [HQ.out]
      rfl
    · have HQ := Lib.hid hq
      clear hq
      go_wp2_with (go_at_call 20; refine HC.out.mono ?_; rintro e w' ⟨rfl, rfl⟩)
      refine (words_any l hl _).mono ?_
      rintro e w1 ⟨hb1, a, cap, rfl, hcap, hat⟩
      have HB1 := Lib.hid hb1
      have HAT := Lib.hid hat
      have HCAP := Lib.hid hcap
      clear hb1 hat hcap
      go_wp2_with fail
      go_step3
      rename_i hK
      refine hK _ _ (HBK.out (wds l).length _ _ ⟨wds l, a, cap, ?_⟩)
      repeat apply Exists.intro
      exact ⟨rfl, rfl, by unfold mayB; rw [HQ.out]; rfl, fun x hx => Nat.le_trans (wds_in l x hx) hl, HB1.out, HCAP.out, HAT.out⟩
  · rintro m a' w' ⟨r, a, cap, u4, u5, u6, u7, u8, u9, u10, u11, u12, u13, u14, u15, u16, u17, rfl, rfl, hm, hle, hbel, hcap, hat⟩ H hH
    have HB := Lib.hid hbel
    have HAT := Lib.hid hat
    have HM := Lib.hid hm
    have HLE := Lib.hid hle
    have HH := Lib.hid hH
    have HCAP := Lib.hid hcap
    clear hbel hat hm hle hH hcap
    cases r with
    | nil =>
      go_wp2_with fail
      simp only [Exit.jump]
      go_ret
      exact ⟨by rw [HM.out]; rfl, HB.out⟩
    | cons x r =>
      obtain ⟨b, o, a', rfl, hc, hat', h1, hsl⟩ := HAT.out.head HCAP.out
      have hcm := HCAP.out
      unfold maxLen at hcm
      have HAT2 := Lib.hid hat'
      clear hat'
      have hlen := HAT2.out.len
      have hx := HLE.out x (by simp)
      have c1 : ¬ (r.length : Int) + 1 = 0 := by omega
      have c2 : (1 : Int) ≤ (r.length : Int) + 1 := by omega
      have c3 : ((r.length : Int) + 1 == 0) = false := by rw [beq_eq_false_iff_ne]; omega
      have c4 : (0 : Int) < (r.length : Int) + 1 := by omega
      obtain ⟨q, hq⟩ : ∃ q, mayW x = q := ⟨_, rfl⟩
      have c := mayWord_any x hx w'
      rw [hq] at c
      have HC := Lib.hid c
      clear c
      cases q
      · have HQ := Lib.hid hq
        clear hq
        go_wp2_with (go_at_call 34; refine HC.out.mono ?_; rintro e w2 ⟨rfl, hb2⟩; have HB2 := Lib.hid hb2; clear hb2)
        simp only [Exit.jump]
        go_ret
        exact ⟨by rw [HM.out, List.all_cons, HQ.out]; rfl, HB.out.trans (HB2.out.mono HB.out.size)⟩
      · have HQ := Lib.hid hq
        clear hq
        go_wp2_with (go_at_call 34; refine HC.out.mono ?_; rintro e w2 ⟨rfl, hb2⟩; have HB2 := Lib.hid hb2; clear hb2)
        go_step3
        refine ⟨rfl, HH.out r.length _ _ (by simp) ⟨r, a', cap - 1, ?_⟩⟩
        repeat apply Exists.intro
        exact ⟨rfl, rfl, by rw [HM.out, List.all_cons, HQ.out]; rfl, fun y hy => HLE.out y (by simp [hy]), HB.out.trans (HB2.out.mono HB.out.size), by have := HCAP.out; omega, HAT2.out.below HB2.out⟩
end Go.Proofs.YtlghphmehlmehaaDoor.Top
