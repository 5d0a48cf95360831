/-
  Law 16's opened; law ChannelQueues, walked.
-/
import Derived.Test.YtiobcgolcoocnaaGreatDoorChTold
namespace Go.Proofs.YtiobcgolcoocnaaGreatDoor.Ch
open Go.RowKit Rg Sh Bt
set_option linter.unusedVariables false
set_option linter.unusedSimpArgs false

set_option maxRecDepth 100000 in
set_option maxHeartbeats 4000000 in
theorem opened_any (w : World) : Calls Tryz.prog 12 #[] w fun e w' => e = .returned (.pointer (some ⟨w.heap.size, 0, none⟩)) ∧ (∃ k, ChB w' w.heap.size 1 (.slice none 0 0) (.slice none 0 0) (.slice none 0 0) (.slice none 0 0) (.pointer (some ⟨k, 0, none⟩)) false false ∧ Cr.CrV (w.heap.size + 1) w' k 0 0 [] (.slice none 0 0)) ∧ Below w.heap.size w w' := by
  have hn := new_any w
  go_enter Tryz.func12, Tryz.ntmps12
  go_upto_region 4 with (go_at_call 8; refine hn.mono ?_; clear hn; rintro e w1 ⟨rfl, hc1, hb1, hs1⟩; have HC1 := Lib.hid hc1; have HB1 := Lib.hid hb1; have HS1 := Lib.hid hs1; clear hc1 hb1 hs1)
  generalize hG : w.heap.size = g at *
  have HG := Lib.hid hG
  clear hG
  have hk := call_begin g (Me.of 2010) none 0 _ _ _ _ _ _ _ w1 (tb_nil w1) (of_wf 2010 (by decide)) (of_may rfl) HC1.out rfl
  go_wp2_with (go_at_call 9; refine hk.mono ?_; clear hk; rintro e w2 ⟨s2, k2, rfl, -, hc2, hv2, hk2⟩; have HC2 := Lib.hid hc2; have HV2 := Lib.hid hv2; have HB2 := Lib.hid (kept_g HB1.out HC1.out.lt hk2); clear hc2 hv2 hk2)
  go_ret
  rw [HG.out]
  refine ⟨rfl, ⟨k2, HC2.out, ?_⟩, HB2.out⟩
  have h9 := HV2.out
  rwa [HS1.out] at h9

/-- the queue's name. -/
def digQ (i : Nat) : List UInt8 := (([48, 49, 50, 51, 52, 53, 54, 55, 56, 57, 97, 98, 99, 100, 101, 102, 103, 104, 105, 106] : List UInt8).drop i).take 1
def nameQ (i : Nat) : List UInt8 := 113 :: digQ i
def qs (i : Nat) : List (List UInt8) := (List.range i).map nameQ
theorem qs_len (i : Nat) : (qs i).length = i := by simp [qs]
theorem qs_succ (i : Nat) : qs (i + 1) = qs i ++ [nameQ i] := by unfold qs; rw [List.range_succ, List.map_append]; rfl
theorem qs_new : ∀ i, i < 17 → ¬ nameQ i ∈ qs i := by decide
theorem qs_has (i : Nat) : nameQ i ∈ qs (i + 1) := by rw [qs_succ]; simp
theorem name_len : ∀ i, i < 17 → (nameQ i).length ≤ 40 := by decide
theorem dig_size (i : Nat) : (ByteArray.mk (digQ i).toArray).size ≤ 100 := by
  show (digQ i).toArray.size ≤ 100
  unfold digQ
  simp
  omega
theorem slice_name (i : Nat) (hi : i < 17) (w : World) :
    (Instr.slice 9 (.string { data := #[48, 49, 50, 51, 52, 53, 54, 55, 56, 57, 97, 98, 99, 100, 101, 102, 103, 104, 105, 106] }) (some (.int .i64 i)) (some (.int .i64 ((i : Int) + 1))) none).run Tryz.prog w = .ok (.string ⟨(digQ i).toArray⟩) w := by
  have h : i = 0 ∨ i = 1 ∨ i = 2 ∨ i = 3 ∨ i = 4 ∨ i = 5 ∨ i = 6 ∨ i = 7 ∨ i = 8 ∨ i = 9 ∨ i = 10 ∨ i = 11 ∨ i = 12 ∨ i = 13 ∨ i = 14 ∨ i = 15 ∨ i = 16 := by omega
  rcases h with rfl | rfl | rfl | rfl | rfl | rfl | rfl | rfl | rfl | rfl | rfl | rfl | rfl | rfl | rfl | rfl | rfl
  all_goals (show _ = _; kernel_rfl)
def QSt (w : World) (g k : Nat) (wr : World) (i : Nat) : Prop := ∃ v, ChB wr g 1 (.slice none 0 0) (.slice none 0 0) v (.slice none 0 0) (.pointer (some ⟨k, 0, none⟩)) false false ∧ OwnS wr g v (qs i) ∧ Below g w wr
def queRel (w : World) (g k K : Nat) (m : Nat) (v5 : Value) (wr : World) : Prop :=
  ∃ i : Nat, i ≤ K ∧ i ≤ 16 ∧ m = K - i ∧ v5 = .int .i64 i ∧ QSt w g k wr i
def inRel (w : World) (g k i : Nat) (m : Nat) (v6 : Value) (wr : World) : Prop :=
  ∃ j : Nat, j ≤ 2 ∧ m = 2 - j ∧ v6 = .int .i64 j ∧ (j = 0 ∨ i < 16) ∧ QSt w g k wr (if j = 0 then i else i + 1)

set_option maxRecDepth 100000 in
set_option maxHeartbeats 8000000 in
theorem queues_law (p0 : Int) (w : World) :
    Calls Tryz.prog 5 #[.int .i64 p0] w fun e w' => e = .returned (.bool true) ∧ Below w.heap.size w w' := by
  have HT := Lib.hid told_any
  obtain ⟨ha1, ha2⟩ := u64_mod p0 4 (by decide)
  rw [show ((4 : Nat) : Int) = 4 from rfl] at ha1
  generalize u64m p0 4 = a at *
  obtain ⟨K, hK⟩ : ∃ K, K = 14 + a := ⟨_, rfl⟩
  have wa : IntKind.i64.wrap (a : Int) = (a : Int) := IntWalk.i64_in _ (by omega)
  have wk : IntKind.i64.wrap (14 + (a : Int)) = (K : Int) := by rw [IntWalk.i64_in _ (by omega)]; omega
  have HK : Hid (K ≤ 17) := Lib.hid (by omega)
  clear hK
  have hn := opened_any w
  go_enter Tryz.func5, Tryz.ntmps5
  go_wp2_with (go_at_call 12; refine hn.mono ?_; clear hn; rintro e w1 ⟨rfl, ⟨k, hc1, -⟩, hb1⟩; have HC1 := Lib.hid hc1; have HB1 := Lib.hid hb1; clear hc1 hb1)
  clear wa wk ha1
  generalize hG : w.heap.size = g at *
  have HG := Lib.hid hG
  clear hG
  go_loopg [5] K (queRel w g k K)
  case atStart => exact ⟨0, Nat.zero_le _, by decide, rfl, rfl, _, HC1.out, OwnE.nil _ _ _ _ _, HB1.out⟩
  case round =>
    obtain ⟨i, hi, hi16, rfl, rfl, hst⟩ := hrel
    have HST := Lib.hid hst
    clear hst HC1 HB1
    by_cases hlt : i < K
    · have q0 : (i : Int) < (K : Int) := by omega
      go_wp2_with fail
      go_loopg [6] 2 (inRel w g k i)
      case atStart => exact ⟨0, Nat.zero_le _, rfl, rfl, .inl rfl, HST.out⟩
      case round =>
        obtain ⟨j, hj, rfl, rfl, hj0, v, hc, ho, hb⟩ := hrel
        have HC := Lib.hid hc
        have HB := Lib.hid hb
        clear hc hb HST
        have hi17 : i < 17 := by have := HK.out; omega
        have hsl := slice_name i hi17
        have hcat : (ByteArray.mk #[113]) ++ (ByteArray.mk (digQ i).toArray) = ByteArray.mk (nameQ i).toArray := by rw [ByteArray.mk_append_mk]; rfl
        have hds := dig_size i
        obtain ⟨D, hD⟩ : ∃ D : ByteArray, D = ⟨(digQ i).toArray⟩ := ⟨_, rfl⟩
        rw [← hD] at hsl hcat hds
        clear hD
        have HCAT := Lib.hid hcat
        clear hcat
        have s1 : IntKind.i64.wrap ((i : Int) + 1) = (i : Int) + 1 := IntWalk.i64_in _ (by omega)
        by_cases h0 : j = 0
        · subst h0
          have HO : Hid (OwnS wr g v (qs i)) := Lib.hid ho
          clear ho
          by_cases h16 : i < 16
          · have q1 : ¬ (16 : Int) ≤ (i : Int) := by omega
            have q2 : ((i : Int) + 1 != (i : Int) + 1) = false := by simp
            have hk := op_new g g _ _ v _ _ _ _ (qs i) (nameQ i) wr (Nat.le_of_lt HC.out.lt) (qs_new i hi17) (by unfold nameQ; simp) (name_len i hi17) (by rw [qs_len]; exact h16) HC.out HO.out
            rw [← qs_succ, qs_len] at hk
            have HKK := Lib.hid hk
            clear hk
            generalize nameQ i = nn at *
            go_wp2_with (go_at_call 9; rw [HCAT.out]; refine HKK.out.mono ?_; clear HKK; rintro e w2 ⟨s2, v2, rfl, hm2, hc2, ho2, hk2, -⟩; have HC2 := Lib.hid hc2; have HO2 := Lib.hid ho2; have d7 : w2.cell? ⟨s2, 7, none⟩ = some (.int .i64 ((i : Int) + 1)) := me_count hm2 (by show ((i + 1 : Nat) : Int) = _; omega); have HB2 := Lib.hid (kept_wrt HB.out (Nat.le_refl _) HC.out.lt HO.out hk2); clear hm2 hc2 ho2 hk2)
            go_roundg (2 - 1)
            case measure => omega
            case rel => exact ⟨1, by decide, rfl, by go_num, .inr h16, v2, HC2.out, HO2.out, HB2.out⟩
          · have q1 : (16 : Int) ≤ (i : Int) := by omega
            have hk := op_full g g _ _ v _ _ _ _ (qs i) (nameQ i) wr (qs_new i hi17) (by unfold nameQ; simp) (name_len i hi17) (by rw [qs_len]; omega) HC.out HO.out
            have HKK := Lib.hid hk
            clear hk
            generalize nameQ i = nn at *
            go_wp2_with (first
              | (go_at_call 9; rw [HCAT.out]; refine HKK.out.mono ?_; rintro e w2 ⟨s2, rfl, -, hc2, hk2⟩; have HC2 := Lib.hid hc2; have HB2 := Lib.hid (kept_g HB.out HC.out.lt hk2); clear hc2 hk2)
              | (go_at_call 10; refine (HT.out _).mono ?_; rintro e w9 ⟨rfl, hb9⟩; have HC9 := Lib.hid (HC2.out.below hb9); have HB9 := Lib.hid (HB2.out.trans (hb9.mono (Nat.le_of_lt HC2.out.lt))); clear hb9)
              | (go_at_call 11; refine (open_any g 2 _ _ _ _ _ _ _ _ HC9.out).mono ?_; rintro e w10 ⟨rfl, rfl⟩)
              | fail)
            go_ret
            exact ⟨rfl, HG.out ▸ HB9.out⟩
        · have h16 : i < 16 := hj0.resolve_left h0
          have HO : Hid (OwnS wr g v (qs (i + 1))) := Lib.hid (by rw [if_neg h0] at ho; exact ho)
          clear ho
          by_cases h1 : j = 1
          · subst h1
            have q1 : ¬ (16 : Int) ≤ (i : Int) := by omega
            have q2 : ((i : Int) + 1 != (i : Int) + 1) = false := by simp
            have hk := op_again g g _ _ v _ _ _ _ (qs (i + 1)) (nameQ i) wr (qs_has i) (name_len i hi17) HC.out HO.out
            rw [qs_len] at hk
            have HKK := Lib.hid hk
            clear hk
            generalize nameQ i = nn at *
            go_wp2_with (go_at_call 9; rw [HCAT.out]; refine HKK.out.mono ?_; clear HKK; rintro e w2 ⟨s2, rfl, hm2, hb2⟩; have HC2 := Lib.hid (HC.out.below hb2); have HO2 := Lib.hid (OwnE.below1 HO.out hb2); have d7 : w2.cell? ⟨s2, 7, none⟩ = some (.int .i64 ((i : Int) + 1)) := me_count hm2 (by show ((i + 1 : Nat) : Int) = _; omega); have HB2 := Lib.hid (HB.out.trans (hb2.mono (Nat.le_of_lt HC.out.lt))); clear hm2 hb2)
            go_roundg (2 - 2)
            case measure => omega
            case rel => exact ⟨2, by decide, rfl, by go_num, .inr h16, v, HC2.out, HO2.out, HB2.out⟩
          · obtain rfl : j = 2 := by omega
            go_wp2_with fail
            go_roundg (K - (i + 1))
            case measure => omega
            case rel => exact ⟨i + 1, by omega, by omega, rfl, by go_num, v, HC.out, HO.out, HB.out⟩
    · obtain rfl : i = K := by omega
      have q0 : ¬ (i : Int) < (i : Int) := by omega
      obtain ⟨v, hc, ho, hb⟩ := HST.out
      obtain ⟨va, vc, rfl, hr, -⟩ := OwnE.at stE ho
      have HC := Lib.hid hc
      have HR := Lib.hid hr
      have HB := Lib.hid hb
      have HL := Lib.hid (qs_len i)
      have q2 : ((i : Int) == (i : Int)) = true := by simp
      clear hc ho hb hr
      go_wp2_with (first
        | (go_at_call 10; refine (HT.out _).mono ?_; rintro e w9 ⟨rfl, hb9⟩; have HC9 := Lib.hid (HC.out.below hb9); have HR9 := Lib.hid (HR.out.below hb9); have HB9 := Lib.hid (HB.out.trans (hb9.mono (Nat.le_of_lt HC.out.lt))); clear hb9)
        | (go_at_call 13; refine (queues_any g 1 _ _ va _ vc _ _ _ _ (qs i) w9 rfl (by rw [HL.out]; omega) HC9.out HR9.out).mono ?_; rintro e w10 ⟨v10, rfl, ho10, hb10⟩; obtain ⟨a10, c10, rfl, -, -⟩ := OwnE.at stE ho10; rw [HL.out]; have HC10 := Lib.hid (HC9.out.below hb10); have HB10 := Lib.hid (HB9.out.trans (hb10.mono (Nat.le_of_lt HC9.out.lt))); clear ho10 hb10)
        | (go_at_call 11; refine (open_any g 1 _ _ _ _ _ _ _ _ HC10.out).mono ?_; rintro e w11 ⟨rfl, rfl⟩)
        | fail)
      go_ret
      exact ⟨rfl, HG.out ▸ HB10.out⟩

end Go.Proofs.YtiobcgolcoocnaaGreatDoor.Ch
