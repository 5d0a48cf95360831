/-
  first of package seg, walked.
-/
import Derived.Test.YtifgkmaaglaffaaSgRec
namespace Go.Proofs.Ytifgkmaaglaffaa.Sg
open Go.RowKit
set_option linter.unusedVariables false
variable {B : Nat}

def FirstR (B : Nat) (l : List UInt8) (w : World) (e : Ending) (w' : World) : Prop := ∃ v, e = .returned v ∧ BytesIn B w' v (firstF l) ∧ Below w.heap.size w w'

set_option maxRecDepth 100000 in
set_option maxHeartbeats 4000000 in
theorem first_any (a : Option Addr) (cap : Nat) (l : List UInt8) (hl : l.length ≤ cap) (hcap : cap ≤ maxLen) (w : World) (hat : BytesAt B w a l) :
    Calls Try.prog 34 #[.slice a l.length cap] w (FirstR B l w) := by
  have hb0 : Below w.heap.size w (w.alloc (.cells #[.slice a l.length cap, .bool false] 77)) := (Below.refl _ _).alloc (Nat.le_refl _) _
  have hrd : Rd 77 B (w.alloc (.cells #[.slice a l.length cap, .bool false] 77)) w.heap.size l false :=
    ⟨_, heap_alloc_new _ _, a, cap, rfl, hl, hcap, hat.below hb0⟩
  have HB0 := Lib.hid hb0
  have HR0 := Lib.hid hrd
  have hD : dataP l = (takeP (numP 2 l).1 (numP 4 (numP 2 l).2.1).2.1).1 := rfl
  have hS : sumP l = (numP 4 (numP 2 l).2.1).1 := rfl
  have hS4 : sumP l < 4294967296 := num_lt 4 _
  have hn := numP_lt64 2 (by decide) l
  have HFI : Hid (firstF l = if MayL (dataP l).length ∧ sumF (dataP l) = sumP l then dataP l else []) := Lib.hid rfl
  have HS4 := Lib.hid hS4
  obtain ⟨d, hd⟩ : ∃ d, d = dataP l := ⟨_, rfl⟩
  obtain ⟨s, hs⟩ : ∃ s, s = sumP l := ⟨_, rfl⟩
  rw [← hd, ← hs] at HFI
  rw [← hs] at HS4
  have HD : Hid (d = (takeP (numP 2 l).1 (numP 4 (numP 2 l).2.1).2.1).1) := Lib.hid (hd.trans hD)
  have HS : Hid (s = (numP 4 (numP 2 l).2.1).1) := Lib.hid (hs.trans hS)
  clear hat hb0 hrd hD hS hd hs hS4
  go_enter Try.func34, Try.ntmps34
  go_wp2_with fail
  generalize w.alloc (.cells #[.slice a l.length cap, .bool false] 77) = w1 at *
  refine (number_any w.heap.size 2 (by decide) l false w1 HR0.out).mono ?_
  rintro e w2 ⟨rfl, hr2, hg2⟩
  have HR2 := Lib.hid hr2
  have HB2 := Lib.hid (HB0.out.grown hg2 HB0.out.size (fun k e => by cases e; exact Nat.le_refl _))
  clear hr2 hg2
  go_wp2_with fail
  refine (number_any w.heap.size 4 (by decide) _ _ w2 HR2.out).mono ?_
  rintro e w3 ⟨rfl, hr3, hg3⟩
  rw [← HS.out]
  have HR3 := Lib.hid hr3
  have HB3 := Lib.hid (HB2.out.grown hg3 HB2.out.size (fun k e => by cases e; exact Nat.le_refl _))
  clear hr3 hg3
  go_wp2_with fail
  refine (take_any w.heap.size _ hn _ _ w3 HR3.out).mono ?_
  rintro e w4 ⟨v4, rfl, hbi, -, hg4⟩
  rw [← HD.out] at hbi
  obtain ⟨a4, c4, rfl, hl4, hm4, hat4⟩ := hbi
  have HB4 := Lib.hid (HB3.out.grown hg4 HB3.out.size (fun k e => by cases e; exact Nat.le_refl _))
  have HAT4 := Lib.hid hat4
  have HL4 := Lib.hid hl4
  have HM4 := Lib.hid hm4
  have hm5 : c4 ≤ 9223372036854775807 := by unfold maxLen at hm4; omega
  have HML : Hid (decide (1 ≤ (d.length : Int) ∧ (d.length : Int) ≤ 20000) = decide (MayL d.length)) := Lib.hid (mayL_int _)
  clear hg4 hat4 hm4 HR0 HR2 HR3
  go_wp2_with fail
  refine (mayLength_any _ _).mono ?_
  rintro e wx ⟨rfl, rfl⟩
  rw [HML.out]
  by_cases hm : MayL d.length
  case neg =>
    rw [decide_eq_false hm]
    have HFE : Hid (firstF l = []) := Lib.hid (by rw [HFI.out, if_neg (fun h => hm h.1)])
    clear hm
    go_wp2_with fail
    go_ret
    exact ⟨_, rfl, by rw [HFE.out]; exact BytesIn.nil _, HB4.out⟩
  rw [decide_eq_true hm]
  have HMM := Lib.hid hm
  have hsd := sumF_lt d
  have hwd : IntKind.u64.wrap (sumF d : Int) = ((sumF d : Nat) : Int) := by rw [IntKind.wrap_u64]; omega
  obtain ⟨q, hq⟩ : ∃ q, q = sumF d := ⟨_, rfl⟩
  have HQ := Lib.hid hq
  have HSUM := Lib.hid (sum_any (B := B) a4 c4 d HL4.out HM4.out w4 HAT4.out)
  rw [← hq] at hwd hsd HSUM
  have HSL := HS4.out
  by_cases he : q = s
  · have hne : ((q : Int) != (s : Int)) = false := by simp [he]
    have HFE : Hid (firstF l = d) := Lib.hid (by rw [HFI.out, if_pos ⟨HMM.out, by rw [← HQ.out]; exact he⟩])
    clear hm hq he
    go_wp2_with fail
    refine HSUM.out.mono ?_
    rintro e wx ⟨rfl, rfl⟩
    go_wp2_with fail
    go_ret
    exact ⟨_, rfl, by rw [HFE.out]; exact ⟨a4, c4, rfl, HL4.out, HM4.out, HAT4.out⟩, HB4.out⟩
  · have hne : ((q : Int) != (s : Int)) = true := by simp; omega
    have HFE : Hid (firstF l = []) := Lib.hid (by rw [HFI.out, if_neg (fun h => he (by rw [HQ.out]; exact h.2))])
    clear hm hq he
    go_wp2_with fail
    refine HSUM.out.mono ?_
    rintro e wx ⟨rfl, rfl⟩
    go_wp2_with fail
    go_ret
    exact ⟨_, rfl, by rw [HFE.out]; exact BytesIn.nil _, HB4.out⟩

end Go.Proofs.Ytifgkmaaglaffaa.Sg
