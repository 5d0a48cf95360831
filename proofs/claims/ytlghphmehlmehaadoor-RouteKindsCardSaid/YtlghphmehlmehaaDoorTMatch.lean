/-
  topic.Match, walked.
-/
import Derived.Test.YtlghphmehlmehaaDoorTStand
namespace Go.Proofs.YtlghphmehlmehaaDoor.Top
open Go.RowKit
set_option linter.unusedVariables false

theorem wds_len (l : List UInt8) : (wds l).length ≤ l.count 46 + 1 := by
  unfold wds
  split
  · simp
  · rw [spl_len]; exact Nat.le_refl _
theorem fits_le {l : List UInt8} (h : fitsB l = true) : l.length ≤ 255 ∧ (wds l).length ≤ 20 := by
  unfold fitsB at h
  simp only [Bool.and_eq_true, decide_eq_true_eq] at h
  have := wds_len l
  omega

set_option maxRecDepth 100000 in
set_option maxHeartbeats 2000000 in
theorem match_any (p k : List UInt8) (hp : p.length ≤ 1000000) (hk : k.length ≤ 1000000) (w : World) :
    Calls Tryd.prog 11 #[.string ⟨p.toArray⟩, .string ⟨k.toArray⟩] w fun e w' => e = .returned (.bool (matchB p k)) ∧ Below w.heap.size w w' := by
  obtain ⟨q, hq⟩ : ∃ q, mayB p = q := ⟨_, rfl⟩
  obtain ⟨r, hr⟩ : ∃ r, fitsB k = r := ⟨_, rfl⟩
  have cq := may_any p hp w
  have cr := fits_any k
  rw [hq] at cq
  rw [hr] at cr
  have hm : matchB p k = (q && r && stand (wds p) (wds k)) := by unfold matchB; rw [hq, hr]
  have HM := Lib.hid hm
  have HQ := Lib.hid cq
  have HR := Lib.hid cr
  clear cq cr hm
  go_enter Tryd.func11, Tryd.ntmps11
  cases q
  · clear hq hr
    go_wp2_with (go_at_call 19; refine HQ.out.mono ?_; rintro e w1 ⟨rfl, hb1⟩; have HB1 := Lib.hid hb1; clear hb1)
    go_ret
    exact ⟨by rw [HM.out]; rfl, HB1.out⟩
  cases r
  · clear hq hr
    go_wp2_with (first
      | (go_at_call 19; refine HQ.out.mono ?_; rintro e w1 ⟨rfl, hb1⟩; have HB1 := Lib.hid hb1; clear hb1)
      | (go_at_call 20; refine (HR.out _).mono ?_; rintro e w2 ⟨rfl, rfl⟩))
    go_ret
    exact ⟨by rw [HM.out]; rfl, HB1.out⟩
  have hpl : (wds p).length ≤ 20 := (fits_le (l := p) (by unfold mayB at hq; simp only [Bool.and_eq_true] at hq; exact hq.1)).2
  have hkl := (fits_le hr).2
  have HPL := Lib.hid hpl
  have HKL := Lib.hid hkl
  clear hq hr hpl hkl
  go_wp2_with (first
    | (go_at_call 19; refine HQ.out.mono ?_; rintro e w1 ⟨rfl, hb1⟩; have HB1 := Lib.hid hb1; clear hb1)
    | (go_at_call 20; refine (HR.out _).mono ?_; rintro e w2 ⟨rfl, rfl⟩))
  refine (words_any p hp _).mono ?_
  rintro e w3 ⟨hb3, a3, c3, rfl, hc3, hat3⟩
  have HB3 := Lib.hid (HB1.out.trans (hb3.mono HB1.out.size))
  have HC3 := Lib.hid hc3
  have HAT3 := Lib.hid hat3
  clear hb3 hc3 hat3
  go_wp2_with fail
  refine (words_any k hk _).mono ?_
  rintro e w4 ⟨hb4, a4, c4, rfl, hc4, hat4⟩
  have HB4 := Lib.hid (HB3.out.trans (hb4.mono HB3.out.size))
  have HC4 := Lib.hid hc4
  have HAT4 := Lib.hid hat4
  have HAT34 := Lib.hid (HAT3.out.below hb4)
  clear hb4 hc4 hat4
  go_wp2_with fail
  refine (stands_any (wds p) (wds k) HPL.out HKL.out a3 a4 c3 c4 _ HC3.out HC4.out HAT34.out HAT4.out).mono ?_
  rintro e w5 ⟨rfl, hb5⟩
  have HB5 := Lib.hid (HB4.out.trans (hb5.mono HB4.out.size))
  clear hb5
  go_wp2_with fail
  go_ret
  exact ⟨by rw [HM.out]; rfl, HB5.out⟩
end Go.Proofs.YtlghphmehlmehaaDoor.Top
