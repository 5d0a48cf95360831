/-
  route.mayAll, walked.
-/
import Derived.Test.YtlghphmehlmehaaDoorRtAlike
namespace Go.Proofs.YtlghphmehlmehaaDoor.Rt
open Go.RowKit Top
set_option linter.unusedVariables false

def mayXRel (w : World) (l : List Ex) (m : Nat) (v : Value) (wr : World) : Prop :=
  ∃ i : Nat, i ≤ l.length ∧ (∀ (j : Nat) (h : j < i) (h' : j < l.length), MayE l j l[j]) ∧ v = .int .i64 i ∧ m = l.length - i ∧ Below w.heap.size w wr

theorem not_mayX {l : List Ex} (i : Nat) (hi : i < l.length) (h : ¬ MayE l i l[i]) : decide (MayX l) = false := by
  rw [decide_eq_false_iff_not]
  exact fun hm => h (hm.2 i hi)

set_option maxRecDepth 100000 in
set_option maxHeartbeats 1000000 in
theorem mayX_any (a : Option Addr) (cap : Nat) (l : List Ex) (w : World) (hf : XsAt w a cap l) :
    Calls Tryd.prog 14 #[.slice a l.length cap] w fun e w' => e = .returned (.bool (decide (MayX l))) ∧ Below w.heap.size w w' := by
  by_cases h16 : l.length ≤ 16
  case neg =>
    have hgt : (16 : Int) < (l.length : Int) := by omega
    go_enter Tryd.func14, Tryd.ntmps14
    go_wp2_with fail
    go_ret
    refine ⟨?_, Below.refl _ _⟩
    rw [show decide (MayX l) = false by rw [decide_eq_false_iff_not]; exact fun hm => h16 hm.1]
    rfl
  have HF := Lib.hid hf
  have hcap := hf.max
  have hlen := hf.len
  have hle : ¬ (16 : Int) < (l.length : Int) := by omega
  unfold maxLen at hcap
  clear hf
  go_enter Tryd.func14, Tryd.ntmps14
  go_wp2_with fail
  go_loopg [10] l.length (mayXRel w l)
  case atStart => exact ⟨0, Nat.zero_le _, fun j h => by omega, rfl, rfl, Below.refl _ _⟩
  case round =>
    obtain ⟨i, hi, hno, rfl, rfl, hb⟩ := hrel
    have HB := Lib.hid hb
    have HNO := Lib.hid hno
    clear hb hno
    by_cases hlt : i < l.length
    · have hlti : (i : Int) < (l.length : Int) := by omega
      have h0i : (0 : Int) ≤ (i : Int) := by omega
      obtain ⟨b, o, rfl, c0, c1⟩ := XsAt.get (HF.out.below HB.out) i hlt
      have HW := Lib.hid (show ∀ w2, Below wr.heap.size wr w2 → Below w.heap.size w w2 from fun w2 h => HB.out.trans (h.mono HB.out.size))
      have ha0 : Below wr.heap.size wr (wr.alloc (.cells #[.string ⟨l[i].name.toArray⟩, .int .i64 l[i].kind] 25)) := (Below.refl _ _).alloc (Nat.le_refl _) _
      have HA0 := Lib.hid ha0
      have HFIND := Lib.hid (find_any (some ⟨b, o, none⟩) cap l l[i].name _ ((HF.out.below HB.out).below ha0))
      clear ha0
      by_cases h1 : MayNm l[i].name
      case neg =>
        have hn := name_any l[i].name
        rw [decide_eq_false h1] at hn
        go_wp2_with (go_at_call 27; refine (hn _).mono ?_; rintro e w2 ⟨rfl, rfl⟩)
        go_ret
        refine ⟨?_, HW.out _ HA0.out⟩
        rw [not_mayX i hlt fun h => h1 h.1]
        rfl
      have hn := name_any l[i].name
      rw [decide_eq_true h1] at hn
      by_cases h2 : l[i].kind < 1
      · go_wp2_with (go_at_call 27; refine (hn _).mono ?_; rintro e w2 ⟨rfl, rfl⟩)
        go_ret
        refine ⟨?_, HW.out _ HA0.out⟩
        rw [not_mayX i hlt fun h => by have := h.2.1; omega]
        rfl
      by_cases h3 : 4 < l[i].kind
      · go_wp2_with (go_at_call 27; refine (hn _).mono ?_; rintro e w2 ⟨rfl, rfl⟩)
        go_ret
        refine ⟨?_, HW.out _ HA0.out⟩
        rw [not_mayX i hlt fun h => by have := h.2.2.1; omega]
        rfl
      by_cases h4 : fnd l[i].name l = some i
      · rw [h4] at HFIND
        have hpl : pl (some i) = (i : Int) := rfl
        rw [hpl] at HFIND
        have hok : MayE l i l[i] := ⟨h1, by omega, by omega, h4⟩
        have HOK := Lib.hid hok
        clear hok h1 h4
        go_wp2_with (first | (go_at_call 27; refine (hn _).mono ?_; rintro e w2 ⟨rfl, rfl⟩) | (go_at_call 16; refine HFIND.out.mono ?_; rintro e w2 ⟨rfl, hb2⟩; have HB2 := Lib.hid (HW.out _ (HA0.out.trans (hb2.mono HA0.out.size))); clear hb2))
        go_roundg (l.length - (i + 1))
        case measure => omega
        case rel =>
          refine ⟨i + 1, by omega, fun j h h' => ?_, by simp, rfl, HB2.out⟩
          by_cases hji : j = i
          · subst hji; exact HOK.out
          · exact HNO.out j (by omega) h'
      · have hne : (pl (fnd l[i].name l) == (i : Int)) = false := by
          simp only [beq_eq_false_iff_ne, ne_eq, pl_some]
          exact h4
        have hne2 : (pl (fnd l[i].name l) != (i : Int)) = true := by rw [bne, hne]; rfl
        have H4 := Lib.hid h4
        generalize pl (fnd l[i].name l) = k at hne hne2 HFIND
        clear h1 h4
        go_wp2_with (first | (go_at_call 27; refine (hn _).mono ?_; rintro e w2 ⟨rfl, rfl⟩) | (go_at_call 16; refine HFIND.out.mono ?_; rintro e w2 ⟨rfl, hb2⟩; have HB2 := Lib.hid (HW.out _ (HA0.out.trans (hb2.mono HA0.out.size))); clear hb2))
        go_ret
        refine ⟨?_, HB2.out⟩
        rw [not_mayX i hlt fun h => H4.out h.2.2.2]
        rfl
    · obtain rfl : i = l.length := by omega
      go_wp2_with fail
      go_ret
      refine ⟨?_, HB.out⟩
      rw [show decide (MayX l) = true by rw [decide_eq_true_iff]; exact ⟨h16, fun j hj => HNO.out j hj hj⟩]
      rfl

end Go.Proofs.YtlghphmehlmehaaDoor.Rt
