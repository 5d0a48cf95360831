/-
  SegBounds.
-/
import Derived.Test.YtifgkmaaglaffaaSgTold
namespace Go.Proofs.Ytifgkmaaglaffaa.Sg
open Go.RowKit
set_option linter.unusedVariables false
variable {B C : Nat}

theorem u64_rem (p : Int) (k : Nat) (hk : 0 < k) : ∃ q : Nat, (IntKind.u64.wrap p).tmod k = (q : Int) ∧ q < k := by
  have h : 0 ≤ IntKind.u64.wrap p := by rw [IntKind.wrap_u64]; omega
  rw [Int.tmod_eq_emod_of_nonneg h]
  have h1 := Int.emod_nonneg (IntKind.u64.wrap p) (show (k : Int) ≠ 0 by omega)
  have h2 := Int.emod_lt_of_pos (IntKind.u64.wrap p) (show (0 : Int) < (k : Int) by omega)
  exact ⟨((IntKind.u64.wrap p) % k).toNat, by omega, by omega⟩
/-- a row of noughts. -/
theorem made_any (k : Nat) (hk : k ≤ 100000) (w : World) : ∃ W1, (Instr.makeSlice 22 (.int .i64 k) (.int .i64 k)).run Try.prog w = .ok (.slice (some ⟨w.heap.size, 0, none⟩) k k) W1 ∧ Below w.heap.size w W1 ∧ BytesAt (w.heap.size + 1) W1 (some ⟨w.heap.size, 0, none⟩) (List.replicate k 0) := by
  obtain ⟨i0, hi, hz0, hz1, hz2⟩ := info_parts u8_info
  have h := run_make (P := Try.prog) w 22 5 i0 _ Try.underlying22 hi hz0 .i64 .i64 k k (by omega) (by omega) (by rw [hz2]; omega) (by omega)
  rw [hz1] at h
  refine ⟨_, by simpa [Value.cells] using h, below_alloc _ _, fun h0 => ⟨_, 0, rfl, Nat.lt_succ_self _, fun i hi => ?_⟩⟩
  rw [Nat.zero_add, cell_of_row _ _ _ _ _ _ (heap_alloc_new w _)]
  simp only [List.length_replicate] at hi
  have h1 : i % 1 = 0 := Nat.mod_one _
  simp [madeCells, hi, h1]

set_option maxRecDepth 100000 in
set_option maxHeartbeats 400000 in
theorem bounds_any (p0 : Int) (p1 : Bool) (w : World) (w0 : (Lit.int .i64 p0).wf = true) :
    Calls Try.prog 9 #[.int .i64 p0, .bool p1] w fun e w' => e = .returned (.bool true) ∧ Below w.heap.size w w' := by
  clear w0
  obtain ⟨q, hq, hq9⟩ := u64_rem p0 5 (by decide)
  obtain ⟨r, hr, hr9⟩ := u64_rem p0 3 (by decide)
  rw [show ((5 : Nat) : Int) = 5 from rfl] at hq
  rw [show ((3 : Nat) : Int) = 3 from rfl] at hr
  cases p1 with
  | false =>
    obtain ⟨k, hk⟩ : ∃ k : Nat, 19998 + (q : Int) = (k : Int) := ⟨19998 + q, by omega⟩
    obtain ⟨W1, hmk, hb1, hat1⟩ := made_any k (by omega) w
    have HREC := Lib.hid (record_any (some ⟨w.heap.size, 0, none⟩) k (List.replicate k 0) (by simp) (by unfold maxLen; omega) W1 hat1)
    unfold RecR recC recL at HREC
    rw [List.length_replicate] at HREC
    have HLN : Hid ((List.replicate k (0 : UInt8)).length = k) := Lib.hid (by simp)
    have HB1 := Lib.hid hb1
    clear hb1 hat1
    by_cases hm : MayL k
    · have hk1 : (1 : Int) ≤ (k : Int) := by have := hm.1; omega
      have hk2 : (k : Int) ≤ 20000 := by have := hm.2; omega
      rw [if_pos hm, if_pos hm] at HREC
      clear hm
      go_enter Try.func9, Try.ntmps9
      go_wp2_with fail
      refine HREC.out.mono ?_
      rintro e w2 ⟨v2, rfl, hbf2, hb2⟩
      obtain ⟨a2, c2, hv2, -⟩ := hbf2.form
      rw [recF_length, HLN.out, show ((k + 6 : Nat)) = k + 6 from rfl] at hv2
      subst hv2
      have HB2 := Lib.hid (HB1.out.trans (hb2.mono HB1.out.size))
      have hsix : ((k + 6 : Nat) : Int) = (k : Int) + 6 := by omega
      clear hbf2 hb2 hmk
      go_wp2_with fail
      refine (told_any w2).mono ?_
      rintro e w3 ⟨rfl, hb3⟩
      have HB3 := Lib.hid (HB2.out.trans (hb3.mono HB2.out.size))
      clear hb3
      go_wp2_with fail
      go_ret
      exact ⟨by first | rfl | (simp [*]; done) | (simp [*]; omega), HB3.out⟩
    · rw [if_neg hm, if_neg hm] at HREC
      have hcs : (1 : Int) ≤ (k : Int) ∧ ¬ (k : Int) ≤ 20000 ∨ ¬ (1 : Int) ≤ (k : Int) := by
        by_cases h1 : 1 ≤ k
        · exact .inl ⟨by omega, fun h => hm ⟨h1, by omega⟩⟩
        · exact .inr (by omega)
      clear hm
      rcases hcs with ⟨hk1, hk2⟩ | hk1
      all_goals try (exfalso; omega)
      all_goals
        go_enter Try.func9, Try.ntmps9
        go_wp2_with fail
        refine HREC.out.mono ?_
        rintro e w2 ⟨v2, rfl, hbf2, hb2⟩
        obtain ⟨a2, c2, rfl, -⟩ := hbf2.form
        have HB2 := Lib.hid (HB1.out.trans (hb2.mono HB1.out.size))
        clear hbf2 hb2 hmk
        go_wp2_with fail
        refine (told_any w2).mono ?_
        rintro e w3 ⟨rfl, hb3⟩
        have HB3 := Lib.hid (HB2.out.trans (hb3.mono HB2.out.size))
        clear hb3
        go_wp2_with fail
        go_ret
        exact ⟨by first | rfl | (simp [*]; done) | (simp [*]; omega), HB3.out⟩
  | true =>
    obtain ⟨k, hk⟩ : ∃ k : Nat, (r : Int) = (k : Int) := ⟨r, rfl⟩
    obtain rfl : r = k := by omega
    obtain ⟨k, hk2⟩ : ∃ k, k = r := ⟨_, rfl⟩
    subst hk2
    obtain ⟨W1, hmk, hb1, hat1⟩ := made_any k (by omega) w
    have HREC := Lib.hid (record_any (some ⟨w.heap.size, 0, none⟩) k (List.replicate k 0) (by simp) (by unfold maxLen; omega) W1 hat1)
    unfold RecR recC recL at HREC
    rw [List.length_replicate] at HREC
    have HLN : Hid ((List.replicate k (0 : UInt8)).length = k) := Lib.hid (by simp)
    have HB1 := Lib.hid hb1
    clear hb1 hat1 hk
    by_cases hm : MayL k
    · have hk1 : (1 : Int) ≤ (k : Int) := by have := hm.1; omega
      have hk2 : (k : Int) ≤ 20000 := by have := hm.2; omega
      rw [if_pos hm, if_pos hm] at HREC
      clear hm
      go_enter Try.func9, Try.ntmps9
      go_wp2_with fail
      refine HREC.out.mono ?_
      rintro e w2 ⟨v2, rfl, hbf2, hb2⟩
      obtain ⟨a2, c2, hv2, -⟩ := hbf2.form
      rw [recF_length, HLN.out, show ((k + 6 : Nat)) = k + 6 from rfl] at hv2
      subst hv2
      have HB2 := Lib.hid (HB1.out.trans (hb2.mono HB1.out.size))
      have hsix : ((k + 6 : Nat) : Int) = (k : Int) + 6 := by omega
      clear hbf2 hb2 hmk
      go_wp2_with fail
      refine (told_any w2).mono ?_
      rintro e w3 ⟨rfl, hb3⟩
      have HB3 := Lib.hid (HB2.out.trans (hb3.mono HB2.out.size))
      clear hb3
      go_wp2_with fail
      go_ret
      exact ⟨by first | rfl | (simp [*]; done) | (simp [*]; omega), HB3.out⟩
    · rw [if_neg hm, if_neg hm] at HREC
      have hcs : (1 : Int) ≤ (k : Int) ∧ ¬ (k : Int) ≤ 20000 ∨ ¬ (1 : Int) ≤ (k : Int) := by
        by_cases h1 : 1 ≤ k
        · exact .inl ⟨by omega, fun h => hm ⟨h1, by omega⟩⟩
        · exact .inr (by omega)
      clear hm
      rcases hcs with ⟨hk1, hk2⟩ | hk1
      all_goals try (exfalso; omega)
      all_goals
        go_enter Try.func9, Try.ntmps9
        go_wp2_with fail
        refine HREC.out.mono ?_
        rintro e w2 ⟨v2, rfl, hbf2, hb2⟩
        obtain ⟨a2, c2, rfl, -⟩ := hbf2.form
        have HB2 := Lib.hid (HB1.out.trans (hb2.mono HB1.out.size))
        clear hbf2 hb2 hmk
        go_wp2_with fail
        refine (told_any w2).mono ?_
        rintro e w3 ⟨rfl, hb3⟩
        have HB3 := Lib.hid (HB2.out.trans (hb3.mono HB2.out.size))
        clear hb3
        go_wp2_with fail
        go_ret
        exact ⟨by first | rfl | (simp [*]; done) | (simp [*]; omega), HB3.out⟩

end Go.Proofs.Ytifgkmaaglaffaa.Sg
