/-
  Law CreditBounds, walked.
-/
import Derived.Test.YtibaccgghofmmaaCrLim
namespace Go.Proofs.Ytibaccgghofmmaa.Cr
open Go.RowKit Rg Sh Bt
set_option linter.unusedVariables false
set_option linter.unusedSimpArgs false

theorem one_get (o j : Nat) (h : j < (stepL 1 o).length) : (stepL 1 o)[j] = (j : Int) + 1 := by rw [step_get]; omega
theorem one_pos {o t : Nat} (ht : 1 ≤ t) : posF (stepL 1 o) t = min (t - 1) o ∧ posF (stepL 1 o) t + hasN (stepL 1 o) t = min t o := by
  by_cases h : t ≤ o
  · obtain ⟨e1, e2⟩ := find_yes (t := (t : Int)) (i := t - 1) (step_up (s := 1) (by decide) o) (by rw [step_len]; omega) (by rw [one_get]; omega)
    exact ⟨by rw [e1]; omega, by rw [e2]; omega⟩
  · obtain ⟨e1, e2⟩ := find_no (l := stepL 1 o) (t := (t : Int)) (i := o) (by rw [step_len]; omega) (fun j hj hji => by rw [one_get]; omega) (fun j hj hji => by rw [step_len] at hj; omega)
    exact ⟨by rw [e1]; omega, by rw [e2]; omega⟩
theorem one_from {o t : Nat} (ht : 1 ≤ t) (all : Bool) : fromF (stepL 1 o) t all = (if all = true then 0 else min (t - 1) o) ∧ toF (stepL 1 o) t all = min t o := by
  obtain ⟨e1, e2⟩ := one_pos (o := o) ht
  unfold fromF toF
  exact ⟨by rw [e1], by rw [e2, if_neg (fun h => by have := h.2; omega)]⟩
/-- one tag, or all up to it, that is open. -/
theorem settle_step (B g : Nat) (lim last : Int) (o t : Nat) (all : Bool) (v : Value) (w : World) (ht : 1 ≤ t) (hB : B ≤ w.heap.size) (h : CrV B w g lim last (stepL 1 o) v) (n : Nat) (hn : n = if all = true then min t o else 1) (hyes : if all = true then 0 < o else t ≤ o) :
    Calls Try.prog 9 #[.pointer (some ⟨g, 0, none⟩), .int .u64 t, .bool all] w fun e w' => ∃ a1 c1 l2 a2 c2, e = .returned (.tuple #[.slice a1 n c1, .int .i64 0]) ∧ l2.length = o - n ∧ CrX w' g lim last l2 a2 c2 ∧ Below B w w' := by
  obtain ⟨e1, e2⟩ := one_from (o := o) ht all
  have hne : ¬ fromF (stepL 1 o) t all = toF (stepL 1 o) t all := by
    rw [e1, e2]
    cases all
    · rw [if_neg (by decide)] at hyes ⊢; omega
    · rw [if_pos rfl] at hyes ⊢; omega
  refine (settle_any B g lim last t all _ v w (step_up (by decide) o) (.inl hne) hB h).mono ?_
  rintro e w' ⟨a1, c1, a2, c2, he, h1, h2, h3⟩
  have hd : toF (stepL 1 o) t all - fromF (stepL 1 o) t all = n := by
    rw [e1, e2, hn]
    cases all
    · rw [if_neg (by decide), if_neg (by decide)]; rw [if_neg (by decide)] at hyes; omega
    · rw [if_pos rfl, if_pos rfl]; omega
  rw [hd] at he
  refine ⟨a1, c1, _, a2, c2, he, ?_, h2, h3⟩
  have hle := from_le (stepL 1 o) t all
  rw [step_len] at hle
  rw [List.length_append, List.length_take, List.length_drop, step_len]
  omega
theorem settle_not (g : Nat) (lim last : Int) (o t : Nat) (all : Bool) (a : Option Addr) (cap : Nat) (w : World) (ht : 1 ≤ t) (h : CrX w g lim last (stepL 1 o) a cap) (hno : ¬ if all = true then 0 < o else t ≤ o) :
    Calls Try.prog 9 #[.pointer (some ⟨g, 0, none⟩), .int .u64 t, .bool all] w fun e w' => e = .returned (.tuple #[.slice none 0 0, .int .i64 406]) ∧ Drew w w' := by
  obtain ⟨e1, e2⟩ := one_from (o := o) ht all
  refine settle_none g lim last t all _ a cap w (step_up (by decide) o) ?_ (fun h => by have := h.2; omega) h
  rw [e1, e2]
  cases all
  · rw [if_neg (by decide)] at hno ⊢; omega
  · rw [if_pos rfl] at hno ⊢; omega
theorem want_any (o : Nat) (h : 0 < o) (w : World) : Calls Try.prog 11 #[.int .i64 o] w fun e w' => e = .returned (.int .i64 1) ∧ w = w' := by
  have q : (0 : Int) < (o : Int) := by omega
  clear h
  go_enter Try.func11, Try.ntmps11
  go_wp2_with fail
  go_ret
  exact ⟨rfl, rfl⟩

def bndRel (B g k m : Nat) (W : World) (n : Nat) (v12 : Value) (wr : World) : Prop :=
  ∃ i : Nat, i ≤ k ∧ n = k - i ∧ v12 = .int .i64 ((i : Int) + 1) ∧ (∃ v, CrV B wr g m ((min i m : Nat) : Int) (stepL 1 (min i m)) v) ∧ Below B W wr
set_option maxRecDepth 100000 in
set_option maxHeartbeats 8000000 in
theorem bounds_any (p0 p1 p2 : Int) (all : Bool) (w : World) :
    Calls Try.prog 3 #[.int .i64 p0, .int .i64 p1, .int .i64 p2, .bool all] w fun e w' => e = .returned (.bool true) ∧ Below w.heap.size w w' := by
  have HT := Lib.hid told_any
  obtain ⟨ha1, ha2⟩ := u64_mod p0 20 (by decide)
  obtain ⟨hk1, hk2⟩ := u64_mod p1 61 (by decide)
  obtain ⟨hc1, hc2⟩ := u64_mod p2 25 (by decide)
  rw [show ((20 : Nat) : Int) = 20 from rfl] at ha1
  rw [show ((61 : Nat) : Int) = 61 from rfl] at hk1
  rw [show ((25 : Nat) : Int) = 25 from rfl] at hc1
  generalize u64m p0 20 = a at *
  generalize u64m p1 61 = k at *
  generalize u64m p2 25 = c at *
  obtain ⟨m, hm⟩ : ∃ m, m = a + 1 := ⟨_, rfl⟩
  obtain ⟨t, ht⟩ : ∃ t, t = c + 1 := ⟨_, rfl⟩
  have wa : IntKind.i64.wrap (a : Int) = (a : Int) := IntWalk.i64_in _ (by omega)
  have wk : IntKind.i64.wrap (k : Int) = (k : Int) := IntWalk.i64_in _ (by omega)
  have wc : IntKind.i64.wrap (c : Int) = (c : Int) := IntWalk.i64_in _ (by omega)
  have wm : IntKind.i64.wrap (1 + (a : Int)) = (m : Int) := by rw [IntWalk.i64_in _ (by omega)]; omega
  have wt : IntKind.i64.wrap (1 + (c : Int)) = (t : Int) := by rw [IntWalk.i64_in _ (by omega)]; omega
  have wt2 : IntKind.u64.wrap (t : Int) = (t : Int) := by rw [IntKind.wrap_u64]; omega
  have HK : Hid (k ≤ 60 ∧ (1 ≤ m ∧ m ≤ 20) ∧ (1 ≤ t ∧ t ≤ 25)) := Lib.hid (by omega)
  clear hm ht
  have hn := new_any m (by have := HK.out; omega) w
  go_enter Try.func3, Try.ntmps3
  go_wp2_with (go_at_call 5; refine hn.mono ?_; clear hn; rintro e w1 ⟨rfl, hv1, hb1, -⟩; have HV1 := Lib.hid hv1; have HB1 := Lib.hid hb1; clear hv1 hb1)
  clear wa wk wm ha1 hk1 ha2 hk2
  have hsz : ∀ x, Below w.heap.size w x → w.heap.size ≤ x.heap.size := fun x h => h.size
  generalize hG : w.heap.size = g at *
  have HSZ := Lib.hid hsz
  have HG := Lib.hid hG
  clear hsz hG
  go_loopg [12] k (bndRel g g k m w)
  case atStart => exact ⟨0, Nat.zero_le _, rfl, rfl, ⟨_, by rw [Nat.zero_min]; exact HV1.out⟩, HB1.out⟩
  case round =>
    obtain ⟨i, hi, rfl, rfl, ⟨v, hv⟩, hb⟩ := hrel
    have HV := Lib.hid hv
    have HB := Lib.hid hb
    clear hv hb HV1 HB1
    by_cases hlt : i < k
    · have q0 : (i : Int) + 1 ≤ (k : Int) := by omega
      have q2 : IntKind.u64.wrap ((i : Int) + 1) = (i : Int) + 1 := by rw [IntKind.wrap_u64]; have := HK.out; omega
      have q3 : IntKind.i64.wrap ((i : Int) + 1 + 1) = (i : Int) + 1 + 1 := IntWalk.i64_in _ (by have := HK.out; omega)
      by_cases him : i < m
      · have q4 : (i : Int) + 1 ≤ (m : Int) := by omega
        have hv2 := HV.out
        rw [Nat.min_eq_left (by omega : i ≤ m)] at hv2
        have ht := take_any g g m (i : Int) ((i : Int) + 1) (stepL 1 i) v wr (by have := HK.out; omega) (by omega) (by rw [step_len]; exact free_pos him) (by rw [step_len]; have := HK.out; omega) (HSZ.out _ HB.out) hv2
        rw [show stepL 1 i ++ [(i : Int) + 1] = stepL 1 (i + 1) by rw [← step_succ, Int.one_mul]] at ht
        have HIM := Lib.hid him
        clear hv2 him
        go_wp2_with (go_at_call 6; refine ht.mono ?_; clear ht; rintro e w2 ⟨rfl, v2, hv2, hb2⟩; have HV2 := Lib.hid hv2; have HB2 := Lib.hid (HB.out.trans hb2); clear hv2 hb2)
        go_roundg (k - (i + 1))
        case measure => omega
        case rel => exact ⟨i + 1, by omega, rfl, by simp, ⟨v2, by rw [Nat.min_eq_left (by have := HIM.out; omega : i + 1 ≤ m)]; simpa using HV2.out⟩, HB2.out⟩
      · have q4 : ¬ (i : Int) + 1 ≤ (m : Int) := by omega
        have hv2 := HV.out
        rw [Nat.min_eq_right (by omega : m ≤ i)] at hv2
        obtain ⟨a5, c5, -, hx5⟩ := hv2.x
        have ht := take_full g m (m : Int) ((i : Int) + 1) (stepL 1 m) a5 c5 wr (by have := HK.out; omega) (by omega) (by rw [step_len]; exact free_none (by have := HK.out; omega) (Nat.le_refl _)) hx5
        have HIM := Lib.hid him
        clear hv2 hx5 him
        go_wp2_with (go_at_call 6; refine ht.mono ?_; clear ht; rintro e w2 ⟨rfl, rfl⟩)
        go_roundg (k - (i + 1))
        case measure => omega
        case rel => exact ⟨i + 1, by omega, rfl, by simp, ⟨v, by have h9 := HV.out; rw [Nat.min_eq_right (by have := HIM.out; omega : m ≤ i)] at h9; rw [Nat.min_eq_right (by have := HIM.out; omega : m ≤ i + 1)]; exact h9⟩, HB.out⟩
    · obtain rfl : i = k := by omega
      have q0 : ¬ (i : Int) + 1 ≤ (i : Int) := by omega
      obtain ⟨o, ho⟩ : ∃ o, o = min i m := ⟨_, rfl⟩
      have wo : min (i : Int) (m : Int) = (o : Int) := by omega
      rw [← ho] at HV
      have HOM : Hid (o ≤ m) := Lib.hid (by omega)
      have q1 : IntKind.i64.wrap ((m : Int) - (o : Int)) = (m : Int) - (o : Int) := IntWalk.i64_in _ (by have := HK.out; have := HOM.out; omega)
      have q2 : ((o : Int) != (o : Int)) = false := by simp
      have q3 : (((m : Int) - (o : Int)) != ((m : Int) - (o : Int))) = false := by simp
      obtain ⟨a2, c2, hv, hx2⟩ := HV.out.x
      subst hv
      have hop := open_any g m (o : Int) (stepL 1 o) a2 c2 wr hx2
      rw [step_len] at hop
      have HOP := Lib.hid hop
      clear hx2 hop ho
      go_upto_region 13 with (first | (go_at_call 7; refine HOP.out.mono ?_; rintro e w3 ⟨a3, c3, rfl, -, hb3⟩; have hv3 := HV.out.below hb3; obtain ⟨a4, c4, hv4, hx4⟩ := hv3.x; have hfr := free_any g m (o : Int) (stepL 1 o) a4 c4 w3 (by have := HK.out; omega) hx4; rw [step_len, free_max (by have := HK.out; omega), Int.max_eq_right (by have := HOM.out; omega)] at hfr; have HFR := Lib.hid hfr; have HV3 := Lib.hid hv3; have HB3 := Lib.hid (HB.out.trans (hb3.mono (HSZ.out _ HB.out))); clear hb3 hv3 hv4 hx4 hfr) | (go_at_call 8; refine HFR.out.mono ?_; rintro e w5 ⟨rfl, rfl⟩))
      cases all
      case true =>
        obtain ⟨d, hd⟩ : ∃ d, d = min t o := ⟨_, rfl⟩
        have wd : min (t : Int) (o : Int) = (d : Int) := by omega
        by_cases h0 : o = 0
        · have hno : ¬ 0 < o := by omega
          obtain rfl : d = 0 := by omega
          have wd0 : min (t : Int) (o : Int) = 0 := wd
          clear wd hd h0
          obtain ⟨a5, c5, -, hx5⟩ := HV3.out.x
          have hs := settle_not g m (o : Int) o t true a5 c5 w3 HK.out.2.2.1 hx5 (by simpa using hno)
          have HX5 := Lib.hid hx5
          clear hx5 hno HV HV3 HFR HOP q1 q2 q3 HB
          go_upto_region 15 with (go_at_call 9; refine hs.mono ?_; clear hs; rintro e w4 ⟨rfl, hd⟩; have HX4 := Lib.hid (HX5.out.below hd.below); have HB4 := Lib.hid (HB3.out.trans (hd.below.mono (HSZ.out _ HB3.out))); clear hd)
          have r1 : ((o : Int) == (o : Int)) = true := by simp
          clear HX5 HB3
          go_wp2_with (first | (go_at_call 10; refine (HT.out w4).mono ?_; rintro e w9 ⟨rfl, hb9⟩; have HB9 := Lib.hid (HB4.out.trans (hb9.mono (HSZ.out _ HB4.out))); have hop := open_any g m (o : Int) (stepL 1 o) _ _ w9 (HX4.out.below hb9); rw [step_len] at hop; have HOP := Lib.hid hop; clear hb9 hop) | (go_at_call 7; refine HOP.out.mono ?_; rintro e w10 ⟨a10, c10, rfl, -, hb10⟩; have HB10 := Lib.hid (HB9.out.trans (hb10.mono (HSZ.out _ HB9.out))); clear hb10))
          go_ret
          exact ⟨rfl, HG.out ▸ HB10.out⟩
        · have hyes : 0 < o := by omega
          clear h0
          have hs := settle_step g g m (o : Int) o t true _ w3 HK.out.2.2.1 (HSZ.out _ HB3.out) HV3.out d (by rw [if_pos rfl]; exact hd) (by simpa using hyes)
          obtain ⟨r, hr⟩ : ∃ r, r = o - d := ⟨_, rfl⟩
          rw [← hr] at hs
          have r2 : IntKind.i64.wrap ((o : Int) - (d : Int)) = (r : Int) := by rw [IntWalk.i64_in _ (by have := HK.out; have := HOM.out; omega)]; have := HK.out; omega
          have r3 : ((r : Int) == (r : Int)) = true := by simp
          have r4 : ((d : Int) == (d : Int)) = true := by simp
          have r5 : ((d : Int) == 0) = false := by rw [beq_eq_false_iff_ne]; have := HK.out; omega
          have HO0 : Hid (0 < o) := Lib.hid (by have := HK.out; omega)
          clear HV HV3 HFR HOP q1 q2 q3 HB hr hyes
          clear hd
          go_upto_region 15 with (go_at_call 9; refine hs.mono ?_; clear hs; rintro e w4 ⟨a6, c6, l2, a7, c7, rfl, hl2, hx4, hb4⟩; have HL2 := Lib.hid hl2; have HX4 := Lib.hid hx4; have HB4 := Lib.hid (HB3.out.trans hb4); clear hl2 hx4 hb4)
          clear HB3
          go_wp2_with (first | (go_at_call 10; refine (HT.out w4).mono ?_; rintro e w9 ⟨rfl, hb9⟩; have HB9 := Lib.hid (HB4.out.trans (hb9.mono (HSZ.out _ HB4.out))); have HX9 := Lib.hid (HX4.out.below hb9); have hop := open_any g m (o : Int) l2 _ _ w9 HX9.out; rw [HL2.out] at hop; have HOP := Lib.hid hop; clear hb9 hop) | (go_at_call 7; refine HOP.out.mono ?_; rintro e w10 ⟨a10, c10, rfl, -, hb10⟩; have HB10 := Lib.hid (HB9.out.trans (hb10.mono (HSZ.out _ HB9.out))); have HTK := Lib.hid (take_old g m (o : Int) 1 l2 _ _ w10 (by have := HO0.out; omega) (HX9.out.below hb10)); clear hb10) | (go_at_call 6; refine HTK.out.mono ?_; rintro e w11 ⟨rfl, rfl⟩) | (go_at_call 11; refine (want_any o HO0.out _).mono ?_; rintro e w12 ⟨rfl, rfl⟩))
          go_ret
          exact ⟨rfl, HG.out ▸ HB10.out⟩
      case false =>
        by_cases h0 : t ≤ o
        · have hyes : t ≤ o := h0
          have r9 : ¬ (o : Int) < (t : Int) := by omega
          clear h0
          have hs := settle_step g g m (o : Int) o t false _ w3 HK.out.2.2.1 (HSZ.out _ HB3.out) HV3.out 1 (by simp) (by simpa using hyes)
          obtain ⟨r, hr⟩ : ∃ r, r = o - 1 := ⟨_, rfl⟩
          rw [← hr] at hs
          have r2 : IntKind.i64.wrap ((o : Int) - 1) = (r : Int) := by rw [IntWalk.i64_in _ (by have := HK.out; have := HOM.out; omega)]; have := HK.out; omega
          have r3 : ((r : Int) == (r : Int)) = true := by simp
          have HO0 : Hid (0 < o) := Lib.hid (by have := HK.out; omega)
          clear HV HV3 HFR HOP q1 q2 q3 HB hr hyes
          go_upto_region 15 with (go_at_call 9; refine hs.mono ?_; clear hs; rintro e w4 ⟨a6, c6, l2, a7, c7, rfl, hl2, hx4, hb4⟩; have HL2 := Lib.hid hl2; have HX4 := Lib.hid hx4; have HB4 := Lib.hid (HB3.out.trans hb4); clear hl2 hx4 hb4)
          clear HB3
          go_wp2_with (first | (go_at_call 10; refine (HT.out w4).mono ?_; rintro e w9 ⟨rfl, hb9⟩; have HB9 := Lib.hid (HB4.out.trans (hb9.mono (HSZ.out _ HB4.out))); have HX9 := Lib.hid (HX4.out.below hb9); have hop := open_any g m (o : Int) l2 _ _ w9 HX9.out; rw [HL2.out] at hop; have HOP := Lib.hid hop; clear hb9 hop) | (go_at_call 7; refine HOP.out.mono ?_; rintro e w10 ⟨a10, c10, rfl, -, hb10⟩; have HB10 := Lib.hid (HB9.out.trans (hb10.mono (HSZ.out _ HB9.out))); have HTK := Lib.hid (take_old g m (o : Int) 1 l2 _ _ w10 (by have := HO0.out; omega) (HX9.out.below hb10)); clear hb10) | (go_at_call 6; refine HTK.out.mono ?_; rintro e w11 ⟨rfl, rfl⟩) | (go_at_call 11; refine (want_any o HO0.out _).mono ?_; rintro e w12 ⟨rfl, rfl⟩))
          go_ret
          exact ⟨rfl, HG.out ▸ HB10.out⟩
        · have hno : ¬ t ≤ o := h0
          have r9 : (o : Int) < (t : Int) := by omega
          clear h0
          obtain ⟨a5, c5, -, hx5⟩ := HV3.out.x
          have hs := settle_not g m (o : Int) o t false a5 c5 w3 HK.out.2.2.1 hx5 (by simpa using hno)
          have HX5 := Lib.hid hx5
          clear hx5 hno HV HV3 HFR HOP q1 q2 q3 HB
          go_upto_region 15 with (go_at_call 9; refine hs.mono ?_; clear hs; rintro e w4 ⟨rfl, hd⟩; have HX4 := Lib.hid (HX5.out.below hd.below); have HB4 := Lib.hid (HB3.out.trans (hd.below.mono (HSZ.out _ HB3.out))); clear hd)
          have r1 : ((o : Int) == (o : Int)) = true := by simp
          clear HX5 HB3
          go_wp2_with (first | (go_at_call 10; refine (HT.out w4).mono ?_; rintro e w9 ⟨rfl, hb9⟩; have HB9 := Lib.hid (HB4.out.trans (hb9.mono (HSZ.out _ HB4.out))); have hop := open_any g m (o : Int) (stepL 1 o) _ _ w9 (HX4.out.below hb9); rw [step_len] at hop; have HOP := Lib.hid hop; clear hb9 hop) | (go_at_call 7; refine HOP.out.mono ?_; rintro e w10 ⟨a10, c10, rfl, -, hb10⟩; have HB10 := Lib.hid (HB9.out.trans (hb10.mono (HSZ.out _ HB9.out))); clear hb10))
          go_ret
          exact ⟨rfl, HG.out ▸ HB10.out⟩

end Go.Proofs.Ytibaccgghofmmaa.Cr
