/-
  Tags that rise by steps. Law CreditLimits, walked.
-/
import Derived.Test.YtibaccgghofmmaaCrTold
namespace Go.Proofs.Ytibaccgghofmmaa.Cr
open Go.RowKit Rg Sh Bt
set_option linter.unusedVariables false
set_option linter.unusedSimpArgs false

/-- so many tags, s each further. -/
def stepL (s : Int) (i : Nat) : List Int := (List.range i).map fun (j : Nat) => s * ((j : Int) + 1)
theorem step_len (s : Int) (i : Nat) : (stepL s i).length = i := by simp [stepL]
theorem step_succ (s : Int) (i : Nat) : stepL s i ++ [s * ((i : Int) + 1)] = stepL s (i + 1) := by
  unfold stepL; rw [List.range_succ, List.map_append]; rfl
theorem step_get (s : Int) (i j : Nat) (h : j < (stepL s i).length) : (stepL s i)[j] = s * ((j : Int) + 1) := by simp [stepL]
theorem step_up {s : Int} (hs : 0 < s) (i : Nat) : Up (stepL s i) := by
  intro a b ha hb h
  rw [step_get, step_get]
  exact Int.mul_lt_mul_of_pos_left (by omega) hs
theorem up_more {l : List Int} {x : Int} (h : Up l) (hx : ∀ y ∈ l, y < x) : Up (l ++ [x]) := by
  intro a b ha hb hab
  rw [List.length_append, List.length_singleton] at ha hb
  rw [List.getElem_append_left (by omega)]
  by_cases hbl : b < l.length
  · rw [List.getElem_append_left hbl]; exact h a b (by omega) hbl hab
  · rw [List.getElem_append_right (by omega)]
    simpa using hx _ (List.getElem_mem (by omega))
theorem step_below {s x : Int} (hs : 0 < s) (i : Nat) (hx : s * (i : Int) < x) : ∀ y ∈ stepL s i, y < x := by
  intro y hy
  obtain ⟨j, hj, rfl⟩ := List.getElem_of_mem hy
  rw [step_get]
  rw [step_len] at hj
  have := Int.mul_le_mul_of_nonneg_left (show (j : Int) + 1 ≤ (i : Int) by omega) (show 0 ≤ s by omega)
  omega
theorem free_0 (n : Nat) (h : n < 1000) : ¬ freeF 0 n = 0 := by unfold freeF; rw [if_pos rfl]; omega
theorem free_pos {m n : Nat} (h : n < m) : ¬ freeF m n = 0 := by unfold freeF; rw [if_neg (by omega)]; omega
theorem free_none {m n : Nat} (hm : 0 < m) (h : m ≤ n) : freeF m n = 0 := by unfold freeF; rw [if_neg (by omega)]; omega
theorem free_all {m : Nat} (hm : 0 < m) : freeF m 0 = m := by unfold freeF; rw [if_neg (by omega)]; omega
theorem free_max {m n : Nat} (hm : 0 < m) : freeF m n = max 0 ((m : Int) - (n : Int)) := by unfold freeF; rw [if_neg (by omega), Int.max_comm]
/-- all is settled. -/
theorem settle_all (B g : Nat) (lim last : Int) (l : List Int) (v : Value) (w : World) (hu : Up l) (hB : B ≤ w.heap.size) (h : CrV B w g lim last l v) (n : Nat) (hn : l.length = n) :
    Calls Try.prog 9 #[.pointer (some ⟨g, 0, none⟩), .int .u64 0, .bool true] w fun e w' => ∃ a1 c1 a2 c2, e = .returned (.tuple #[.slice a1 n c1, .int .i64 0]) ∧ UsAt w' a1 c1 l ∧ CrX w' g lim last [] a2 c2 ∧ Below B w w' := by
  subst hn
  refine (settle_any B g lim last 0 true l v w hu (.inr ⟨rfl, rfl⟩) hB h).mono ?_
  rintro e w' ⟨a1, c1, a2, c2, he, h1, h2, h3⟩
  have e1 : fromF l 0 true = 0 := rfl
  have e2 : toF l 0 true = l.length := by unfold toF; rw [if_pos ⟨rfl, rfl⟩]
  rw [e1, e2] at he h1 h2
  refine ⟨a1, c1, a2, c2, by simpa using he, by simpa using h1, by simpa using h2, h3⟩

def limRel (B g k : Nat) (W : World) (m : Nat) (v8 : Value) (wr : World) : Prop :=
  ∃ i : Nat, i ≤ k ∧ m = k - i ∧ v8 = .int .i64 ((i : Int) + 1) ∧ (∃ v, CrV B wr g 0 (10 * (i : Int)) (stepL 10 i) v) ∧ Below B W wr
set_option maxRecDepth 100000 in
set_option maxHeartbeats 8000000 in
theorem limits_any (p0 p1 : Int) (w : World) :
    Calls Try.prog 4 #[.int .i64 p0, .int .i64 p1] w fun e w' => e = .returned (.bool true) ∧ Below w.heap.size w w' := by
  have HT := Lib.hid told_any
  obtain ⟨ha1, ha2⟩ := u64_mod p0 30 (by decide)
  obtain ⟨hb1, hb2⟩ := u64_mod p1 30 (by decide)
  rw [show ((30 : Nat) : Int) = 30 from rfl] at ha1 hb1
  generalize u64m p0 30 = a at *
  generalize u64m p1 30 = b at *
  obtain ⟨k, hk⟩ : ∃ k, k = a + 1 := ⟨_, rfl⟩
  obtain ⟨m, hm⟩ : ∃ m, m = b + 1 := ⟨_, rfl⟩
  have wa : IntKind.i64.wrap (a : Int) = (a : Int) := IntWalk.i64_in _ (by omega)
  have wb : IntKind.i64.wrap (b : Int) = (b : Int) := IntWalk.i64_in _ (by omega)
  have wk : IntKind.i64.wrap (1 + (a : Int)) = (k : Int) := by rw [IntWalk.i64_in _ (by omega)]; omega
  have wm : IntKind.i64.wrap (1 + (b : Int)) = (m : Int) := by rw [IntWalk.i64_in _ (by omega)]; omega
  have HKM : Hid ((1 ≤ k ∧ k ≤ 30) ∧ (1 ≤ m ∧ m ≤ 30)) := Lib.hid (by omega)
  clear hk hm
  have hn := new_any 0 (by decide) w
  go_enter Try.func4, Try.ntmps4
  go_wp2_with (go_at_call 5; refine hn.mono ?_; clear hn; rintro e w1 ⟨rfl, hv1, hb1, -⟩; have HV1 := Lib.hid hv1; have HB1 := Lib.hid hb1; clear hv1 hb1)
  clear wa wb wk wm ha1 hb1
  have hsz : ∀ x, Below w.heap.size w x → w.heap.size ≤ x.heap.size := fun x h => h.size
  generalize hG : w.heap.size = g at *
  have HSZ := Lib.hid hsz
  have HG := Lib.hid hG
  clear hsz hG
  go_loopg [8] k (limRel g g k w)
  case atStart => exact ⟨0, Nat.zero_le _, rfl, rfl, ⟨_, HV1.out⟩, HB1.out⟩
  case round =>
    obtain ⟨i, hi, rfl, rfl, ⟨v, hv⟩, hb⟩ := hrel
    have HV := Lib.hid hv
    have HB := Lib.hid hb
    clear hv hb HV1 HB1
    by_cases hlt : i < k
    · have q0 : (i : Int) + 1 ≤ (k : Int) := by omega
      have q1 : IntKind.i64.wrap (10 * ((i : Int) + 1)) = 10 * ((i : Int) + 1) := IntWalk.i64_in _ (by have := HKM.out; omega)
      have q2 : IntKind.u64.wrap (10 * ((i : Int) + 1)) = 10 * ((i : Int) + 1) := by rw [IntKind.wrap_u64]; have := HKM.out; omega
      have q3 : IntKind.i64.wrap ((i : Int) + 1 + 1) = (i : Int) + 1 + 1 := IntWalk.i64_in _ (by have := HKM.out; omega)
      have ht := take_any g g 0 (10 * (i : Int)) (10 * ((i : Int) + 1)) (stepL 10 i) v wr (by decide) (by omega) (by rw [step_len]; exact free_0 _ (by have := HKM.out; omega)) (by rw [step_len]; have := HKM.out; omega) (HSZ.out _ HB.out) HV.out
      rw [step_succ] at ht
      go_wp2_with (go_at_call 6; refine ht.mono ?_; clear ht; rintro e w2 ⟨rfl, v2, hv2, hb2⟩; have HV2 := Lib.hid hv2; have HB2 := Lib.hid (HB.out.trans hb2); clear hv2 hb2)
      go_roundg (k - (i + 1))
      case measure => omega
      case rel => exact ⟨i + 1, by omega, rfl, by simp, ⟨v2, by simpa using HV2.out⟩, HB2.out⟩
    · obtain rfl : i = k := by omega
      have q0 : ¬ (i : Int) + 1 ≤ (i : Int) := by omega
      have q1 : IntKind.i64.wrap ((m : Int) - (i : Int)) = (m : Int) - (i : Int) := IntWalk.i64_in _ (by have := HKM.out; omega)
      have q2 : ((i : Int) != (i : Int)) = false := by simp
      have q3 : (max 0 ((m : Int) - (i : Int)) != max 0 ((m : Int) - (i : Int))) = false := by simp
      have hlm := limit_any g g 0 (10 * (i : Int)) m (stepL 10 i) v wr (by have := HKM.out; omega) HV.out
      go_upto_region 12 with (first | (go_at_call 12; refine hlm.mono ?_; clear hlm; rintro e w2 ⟨rfl, hv2, hb2⟩; obtain ⟨a2, c2, hv, hx2⟩ := hv2.x; subst hv; have HV2 := Lib.hid hv2; have HB2 := Lib.hid (HB.out.trans hb2); have hop := open_any g m (10 * (i : Int)) (stepL 10 i) a2 c2 w2 hx2; rw [step_len] at hop; have HOP := Lib.hid hop; clear hv2 hb2 hx2 hop) | (go_at_call 7; refine HOP.out.mono ?_; rintro e w3 ⟨a3, c3, rfl, -, hb3⟩; have hv3 := HV2.out.below hb3; obtain ⟨a4, c4, hv4, hx4⟩ := hv3.x; have hfr := free_any g m (10 * (i : Int)) (stepL 10 i) a4 c4 w3 (by have := HKM.out; omega) hx4; rw [step_len, free_max (by have := HKM.out; omega)] at hfr; have HFR := Lib.hid hfr; have HV3 := Lib.hid hv3; have HB3 := Lib.hid (HB2.out.trans (hb3.mono (HSZ.out _ HB2.out))); clear hb3 hv3 hv4 hx4 hfr) | (go_at_call 8; refine HFR.out.mono ?_; rintro e w5 ⟨rfl, rfl⟩))
      by_cases hlm2 : i < m
      · have q4 : (i : Int) < (m : Int) := by omega
        have ht := take_any g g m (10 * (i : Int)) 1000 (stepL 10 i) _ w3 (by have := HKM.out; omega) (by have := HKM.out; omega) (by rw [step_len]; exact free_pos hlm2) (by rw [step_len]; have := HKM.out; omega) (HSZ.out _ HB3.out) HV3.out
        clear hlm2 HV2 HB2 HOP HFR HV HB q1 q2 q3
        go_upto_region 15 with (go_at_call 6; refine ht.mono ?_; clear ht; rintro e w6 ⟨rfl, v6, hv6, hb6⟩; have HV6 := Lib.hid hv6; have HB6 := Lib.hid (HB3.out.trans hb6); clear hv6 hb6)
        have HE0 : Hid (((stepL 10 i ++ [1000]))[0]'(by rw [List.length_append, step_len]; have := HKM.out; omega) = 10) := Lib.hid (by rw [List.getElem_append_left (by rw [step_len]; have := HKM.out; omega), step_get]; rfl)
        have hs := settle_all g g m 1000 (stepL 10 i ++ [1000]) _ w6 (up_more (step_up (by decide) i) (step_below (by decide) i (by have := HKM.out; omega))) (HSZ.out _ HB6.out) HV6.out (i + 1) (by rw [List.length_append, step_len]; rfl)
        go_upto_region 16 with (go_at_call 9; refine hs.mono ?_; clear hs; rintro e w7 ⟨a7, c7, a8, c8, rfl, hr7, hx7, hb7⟩; have HR7 := Lib.hid hr7; have HX7 := Lib.hid hx7; have HB7 := Lib.hid (HB6.out.trans hb7); clear hr7 hx7 hb7)
        have r1 : (((i + 1 : Nat) : Int) == (i : Int)) = false := by rw [beq_eq_false_iff_ne]; omega
        have r1' : ((i : Int) + 1 == (i : Int)) = false := by rw [beq_eq_false_iff_ne]; omega
        have r2 : IntKind.i64.wrap ((i : Int) + 1) = (i : Int) + 1 := IntWalk.i64_in _ (by have := HKM.out; omega)
        have r3 : (((i + 1 : Nat) : Int) == (i : Int) + 1) = true := by simp
        have r3' : ((i : Int) + 1 == (i : Int) + 1) = true := by simp
        have r4 : ((m : Int) == (m : Int)) = true := by simp
        have r5 : (0 : Int) < (i : Int) := by have := HKM.out; omega
        have r6 : (0 : Int) < (i : Int) + 1 := by omega
        clear HV6 HB6 HV3 HB3
        go_wp2_with (first | (go_at_call 10; refine (HT.out w7).mono ?_; rintro e w9 ⟨rfl, hb9⟩; have HB9 := Lib.hid (HB7.out.trans (hb9.mono (HSZ.out _ HB7.out))); have hr9 := HR7.out.below hb9; have hx9 := HX7.out.below hb9; obtain ⟨b, o, ha7, d0⟩ := UsAt.get hr9 0 (by rw [List.length_append, step_len]; have := HKM.out; omega); subst ha7; rw [Nat.add_zero] at d0; have d1 : w9.cell? ⟨b, o, none⟩ = some (.int .u64 10) := d0.trans (by rw [HE0.out]); have hf := free_any g m _ [] _ _ w9 (by have := HKM.out; omega) hx9; rw [show freeF m ([] : List Int).length = m from free_all (by have := HKM.out; omega)] at hf; have HF := Lib.hid hf; clear hb9 hr9 hx9 d0 hf) | (go_at_call 8; refine HF.out.mono ?_; rintro e w10 ⟨rfl, rfl⟩))
        go_ret
        exact ⟨rfl, HG.out ▸ HB9.out⟩
      · have q4 : ¬ (i : Int) < (m : Int) := by omega
        obtain ⟨a5, c5, -, hx5⟩ := HV3.out.x
        have ht := take_full g m (10 * (i : Int)) 1000 (stepL 10 i) a5 c5 w3 (by have := HKM.out; omega) (by have := HKM.out; omega) (by rw [step_len]; exact free_none (by have := HKM.out; omega) (by omega)) hx5
        clear hx5
        clear hlm2 HV2 HB2 HOP HFR HV HB q1 q2 q3
        go_upto_region 15 with (go_at_call 6; refine ht.mono ?_; clear ht; rintro e w6 ⟨rfl, rfl⟩; have HV6 := Lib.hid HV3.out; have HB6 := Lib.hid HB3.out)
        have HE0 : Hid (((stepL 10 i))[0]'(by rw [step_len]; have := HKM.out; omega) = 10) := Lib.hid (by rw [step_get]; rfl)
        have hs := settle_all g g m (10 * (i : Int)) (stepL 10 i) _ w3 (step_up (by decide) i) (HSZ.out _ HB6.out) HV6.out i (step_len 10 i)
        go_upto_region 16 with (go_at_call 9; refine hs.mono ?_; clear hs; rintro e w7 ⟨a7, c7, a8, c8, rfl, hr7, hx7, hb7⟩; have HR7 := Lib.hid hr7; have HX7 := Lib.hid hx7; have HB7 := Lib.hid (HB6.out.trans hb7); clear hr7 hx7 hb7)
        have r1 : ((i : Int) == (i : Int)) = true := by simp
        have r4 : ((m : Int) == (m : Int)) = true := by simp
        have r5 : (0 : Int) < (i : Int) := by have := HKM.out; omega
        have r6 : (0 : Int) < (i : Int) + 1 := by omega
        clear HV6 HB6 HV3 HB3
        go_wp2_with (first | (go_at_call 10; refine (HT.out w7).mono ?_; rintro e w9 ⟨rfl, hb9⟩; have HB9 := Lib.hid (HB7.out.trans (hb9.mono (HSZ.out _ HB7.out))); have hr9 := HR7.out.below hb9; have hx9 := HX7.out.below hb9; obtain ⟨b, o, ha7, d0⟩ := UsAt.get hr9 0 (by rw [step_len]; have := HKM.out; omega); subst ha7; rw [Nat.add_zero] at d0; have d1 : w9.cell? ⟨b, o, none⟩ = some (.int .u64 10) := d0.trans (by rw [HE0.out]); have hf := free_any g m _ [] _ _ w9 (by have := HKM.out; omega) hx9; rw [show freeF m ([] : List Int).length = m from free_all (by have := HKM.out; omega)] at hf; have HF := Lib.hid hf; clear hb9 hr9 hx9 d0 hf) | (go_at_call 8; refine HF.out.mono ?_; rintro e w10 ⟨rfl, rfl⟩))
        go_ret
        exact ⟨rfl, HG.out ▸ HB9.out⟩

end Go.Proofs.Ytibaccgghofmmaa.Cr
