/-
  ValueKinds.
-/
import Derived.Test.YtpibbgencojbgaaTold
import Derived.Test.YtpibbgencojbgaaMayV
namespace Go.Proofs.Ytpibbgencojbgaa
open Go.RowKit
set_option linter.unusedVariables false

theorem kinds_boxes {w w' : World} {o1 o2 : Obj} (hb : Below ((w.alloc o1).alloc o2).heap.size ((w.alloc o1).alloc o2) w') : w'.heap[w.heap.size]? = some o1 ∧ w'.heap[w.heap.size + 1]? = some o2 ∧ Below w.heap.size w w' := by
  obtain ⟨h1, h2⟩ := two_made w o1 o2
  have e : ((w.alloc o1).alloc o2).heap.size = w.heap.size + 2 := by simp
  exact ⟨(hb.block _ (by rw [e]; omega)).trans h1, (hb.block _ (by rw [e]; omega)).trans h2, (((Below.refl _ _).alloc (Nat.le_refl _) _).alloc (by simp) _).trans (hb.mono (by rw [e]; omega))⟩
/-- May of a value with no items. -/
theorem may_vals (k n : Int) (s : ByteArray) (hn : -9223372036854775808 ≤ n ∧ n ≤ 9223372036854775807) (hs : s.size ≤ 9223372036854775807) (w : World) :
    Calls Try.prog 23 #[.agg #[.int .i64 k, .int .i64 n, .string s, .slice none 0 0]] w (SaysB ((k = 0 ∧ n = 0 ∧ s.size = 0) ∨ (k = 1 ∧ (n = 0 ∨ n = 1) ∧ s.size = 0) ∨ (k = 2 ∧ (-2147483648 ≤ n ∧ n ≤ 2147483647) ∧ s.size = 0) ∨ (k = 3 ∧ s.size = 0) ∨ (k = 4 ∧ n = 0 ∧ s.size ≤ 200) ∨ (k = 5 ∧ n = 0 ∧ s.size = 0)) w) := by
  have h := mayV_any (.mk ⟨#[]⟩ k n s []) hn none 0 hs w (Tb.nil w none (by decide))
  refine h.mono ?_
  rintro e w' ⟨r, hr, he, hb⟩
  refine ⟨r, hr.trans ?_, he, hb⟩
  rw [may_iff]
  have hm : MayT 1 [] := ⟨by decide, by decide, fun i hi => by simp at hi, by simp [mayAll_iff]⟩
  simp [hm]

set_option maxRecDepth 100000 in
set_option maxHeartbeats 4000000 in
/-- a kind of 32 bits. -/
theorem kinds_two (p0 p1 q : Int) (p2 : ByteArray) (w : World) (hn : -9223372036854775808 ≤ p1 ∧ p1 ≤ 9223372036854775807) (w2 : p2.size ≤ 2 ^ 63 - 1) (hq : IntKind.u64.wrap p0 = q) (hk : q.tmod 7 = 2) (h3 : ¬ 300 < (p2.size : Int)) :
    Calls Try.prog 7 #[.int .i64 p0, .int .i64 p1, .string p2] w fun e w' => e = .returned (.bool true) ∧ Below w.heap.size w w' := by
  by_cases h2 : (p2.size : Int) ≤ 200
  all_goals by_cases hhi : p1 < 2147483648
  all_goals
    go_enter Try.func7, Try.ntmps7
    go_wp2_with fail
    all_goals
      refine (told_any _).mono ?_
      rintro e wt ⟨rfl, hb⟩
      obtain ⟨hA, hB, hbw⟩ := kinds_boxes hb
      obtain ⟨⟨a0, a1, a2, a3⟩, _⟩ := cells4 hA
      obtain ⟨⟨b0, b1, b2, b3⟩, _⟩ := cells4 hB
      have HBW := Lib.hid hbw
      have HRB := Lib.hid hB
      clear hb hA hB hbw
      go_wp2_with fail
      refine (may_vals _ _ _ (by first | exact hn | decide) (by first | exact w2 | decide) wt).mono ?_
      rintro e wu ⟨r, hr, rfl, hb2⟩
      obtain ⟨⟨c0, c1, c2, c3⟩, _⟩ := cells4 ((hb2.block _ (Array.getElem?_eq_some_iff.1 HRB.out).1).trans HRB.out)
      have HBU := Lib.hid (HBW.out.trans (hb2.mono HBW.out.size))
      clear a0 a1 a2 a3 b0 b1 b2 b3 HRB HBW hb2
      have e0 : (ByteArray.mk #[]).size = 0 := rfl
      rw [e0] at hr
      try simp only [toList_nil] at *
      cases r
      all_goals try (exfalso; first | (simp [*] at hr; done) | omega | (simp at hr; omega))
    all_goals
      have hz : p2.toList.isEmpty = decide (p2.size = 0) := by rw [Bool.eq_iff_iff]; simp [toList_nil]
      try clear hr
      go_wp2_with fail
      refine (may_vals _ _ _ (by first | exact hn | decide) (by first | exact w2 | decide) wu).mono ?_
      rintro e wv ⟨r, hr, rfl, hb3⟩
      have HBV := Lib.hid (HBU.out.trans (hb3.mono HBU.out.size))
      clear c0 c1 c2 c3 HBU hb3
      cases r
      all_goals try (exfalso; first | (simp [*] at hr; done) | omega | (simp at hr; omega))
      all_goals try clear hr
      all_goals go_wp2_with fail
      all_goals go_ret
      all_goals exact ⟨by first | rfl | (simp [*]; done) | (simp [*]; omega) | (congr; simp; omega), HBV.out⟩

set_option maxRecDepth 100000 in
set_option maxHeartbeats 4000000 in
theorem kinds_any (p0 p1 : Int) (p2 : ByteArray) (w : World) (w0 : (Lit.int .i64 p0).wf = true) (w1 : (Lit.int .i64 p1).wf = true) (w2 : p2.size ≤ maxLen) :
    Calls Try.prog 7 #[.int .i64 p0, .int .i64 p1, .string p2] w fun e w' => e = .returned (.bool true) ∧ Below w.heap.size w w' := by
  have hn := in_i64 w1
  unfold maxLen at w2
  clear w0 w1
  obtain ⟨q, hq⟩ : ∃ q, IntKind.u64.wrap p0 = q := ⟨_, rfl⟩
  obtain ⟨k, hk⟩ : ∃ k, q.tmod 7 = k := ⟨_, rfl⟩
  by_cases h3 : 300 < (p2.size : Int)
  · go_enter Try.func7, Try.ntmps7
    go_wp2_with fail
    refine (told_any _).mono ?_
    rintro e w' ⟨rfl, hb⟩
    have HB := Lib.hid hb
    go_wp2_with fail
    go_ret
    exact ⟨rfl, HB.out⟩
  · have hq2 : 0 ≤ q ∧ q ≤ 18446744073709551615 := by rw [← hq, IntKind.wrap_u64]; omega
    have hkr : k = 0 ∨ k = 1 ∨ k = 2 ∨ k = 3 ∨ k = 4 ∨ k = 5 ∨ k = 6 := by
      rw [Int.tmod_eq_emod_of_nonneg hq2.1] at hk
      omega
    clear hq2
    by_cases h2 : (p2.size : Int) ≤ 200
    all_goals rcases hkr with rfl | rfl | rfl | rfl | rfl | rfl | rfl
    all_goals try exact kinds_two p0 p1 q p2 w hn w2 hq hk h3
    all_goals
      go_enter Try.func7, Try.ntmps7
      go_wp2_with fail
      all_goals
        refine (told_any _).mono ?_
        rintro e wt ⟨rfl, hb⟩
        obtain ⟨hA, hB, hbw⟩ := kinds_boxes hb
        obtain ⟨⟨a0, a1, a2, a3⟩, _⟩ := cells4 hA
        obtain ⟨⟨b0, b1, b2, b3⟩, _⟩ := cells4 hB
        have HBW := Lib.hid hbw
        have HRB := Lib.hid hB
        clear hb hA hB hbw
        go_wp2_with fail
        refine (may_vals _ _ _ (by first | exact hn | decide) (by first | exact w2 | decide) wt).mono ?_
        rintro e wu ⟨r, hr, rfl, hb2⟩
        obtain ⟨⟨c0, c1, c2, c3⟩, _⟩ := cells4 ((hb2.block _ (Array.getElem?_eq_some_iff.1 HRB.out).1).trans HRB.out)
        have HBU := Lib.hid (HBW.out.trans (hb2.mono HBW.out.size))
        clear a0 a1 a2 a3 b0 b1 b2 b3 HRB HBW hb2
        have e0 : (ByteArray.mk #[]).size = 0 := rfl
        rw [e0] at hr
        try simp only [toList_nil] at *
        cases r
        all_goals try (exfalso; first | (simp [*] at hr; done) | omega | (simp at hr; omega))
      all_goals
        have hz : p2.toList.isEmpty = decide (p2.size = 0) := by rw [Bool.eq_iff_iff]; simp [toList_nil]
        try clear hr
        go_wp2_with fail
        refine (may_vals _ _ _ (by first | exact hn | decide) (by first | exact w2 | decide) wu).mono ?_
        rintro e wv ⟨r, hr, rfl, hb3⟩
        have HBV := Lib.hid (HBU.out.trans (hb3.mono HBU.out.size))
        clear c0 c1 c2 c3 HBU hb3
        cases r
        all_goals try (exfalso; first | (simp [*] at hr; done) | omega | (simp at hr; omega))
        all_goals try clear hr
        all_goals go_wp2_with fail
        all_goals go_ret
        all_goals exact ⟨by first | rfl | (simp [*]; done) | (simp [*]; omega) | (congr; simp; omega), HBV.out⟩

end Go.Proofs.Ytpibbgencojbgaa
