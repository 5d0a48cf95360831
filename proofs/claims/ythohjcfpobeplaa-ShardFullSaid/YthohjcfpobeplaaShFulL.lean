/-
  Law ShardFull, walked.
-/
import Derived.Test.YthohjcfpobeplaaShTold
import Derived.Test.YthohjcfpobeplaaShFulP
import Derived.StillTailTactics
import Derived.BigRegion
namespace Go.Proofs.Ythohjcfpobeplaa.Sh
open Go.RowKit Rg Go.Sort
set_option linter.unusedVariables false
set_option linter.unusedSimpArgs false

theorem ext_ful : ∀ i : Fin 60, (⟨#[107]⟩ : ByteArray) ++ (⟨#[48, 49, 50, 51, 52, 53, 54, 55, 56, 57]⟩ : ByteArray).extract (i.val % 10) (i.val % 10 + 1) ++ (⟨#[48, 49, 50, 51, 52, 53, 54, 55, 56, 57]⟩ : ByteArray).extract (i.val / 10) (i.val / 10 + 1) = ⟨(fulM false i.val).key.toArray⟩ := by decide +kernel
theorem ful_i (i : Nat) : fulM true i = ⟨2, (i : Int) + 1, [107], [], false⟩ := rfl
theorem ful_j (i : Nat) : (fulM false i).pub = 2 ∧ (fulM false i).seq = 1 ∧ (fulM false i).body = [] ∧ (fulM false i).again = false := ⟨rfl, rfl, rfl, rfl⟩
theorem ful_call (one : Bool) (i : Nat) (hi : i < 60) (ra : Option Addr) (rc : Nat) (ha : Option Addr) (hc : Nat) (ma : Option Addr) (mc : Nat) (g : Nat) (w : World) (hs : SdAt w ra rc ha hc ma mc (fulS one i)) (h : w.heap[g]? = some (.cells #[.int .i64 (fulM one i).pub, .int .i64 (fulM one i).seq, .string ⟨(fulM one i).key.toArray⟩, .string ⟨(fulM one i).body.toArray⟩, .bool (fulM one i).again] 35 (0, 0))) :
    Calls Try.prog 20 #[.agg #[.bool (fulS one i).fr, .int .i64 (fulS one i).nx, .slice ra (fulS one i).rd.length rc, .slice ha (fulS one i).hd.length hc, .slice ma (fulS one i).ms.length mc], .slice (some ⟨g, 0, none⟩) 1 1] w (ShO (fulS one (i + 1)) (if i < 48 then 0 else 4) w) := by
  have h1 := put_any (fulS one i) ra rc ha hc ma mc (some ⟨g, 0, none⟩) 1 [fulM one i] (by simp) w hs (mgs_one h) (fun e => by cases e)
  rw [(ful_put one i hi).1] at h1
  exact h1
def fulRel (W : World) (one : Bool) (k g : Nat) (m : Nat) (v7 : Value) (wr : World) : Prop :=
  ∃ i : Nat, i ≤ k ∧ m = k - i ∧ v7 = .int .i64 i ∧ Below W.heap.size W wr ∧ ∃ ra rc ha hc ma mc, Bx wr g ra rc ha hc ma mc (fulS one i)

set_option maxRecDepth 100000 in
set_option maxHeartbeats 4000000 in
theorem full_law (p0 : Int) (p1 : Bool) (w : World) :
    Calls Try.prog 7 #[.int .i64 p0, .bool p1] w fun e w' => e = .returned (.bool true) ∧ Below w.heap.size w w' := by
  have HT := Lib.hid told_any
  have HNEW := Lib.hid (new_any w)
  obtain ⟨k, hk, lk⟩ := u64_rem p0 61 (by decide)
  rw [show ((61 : Nat) : Int) = 61 from rfl] at hk
  have wk : IntKind.i64.wrap (k : Int) = (k : Int) := IntWalk.i64_in _ (by omega)
  go_enter Try.func7, Try.ntmps7
  go_wp2_with fail
  refine HNEW.out.mono ?_
  rintro e w1 ⟨rfl, hb1⟩
  have HB1 := Lib.hid hb1
  clear hb1
  go_wp2_with fail
  obtain ⟨hx1, hn1, hz1⟩ := one_box (w := w1) (.cells #[.bool false, .int .i64 1, .slice none 0 0, .slice none 0 0, .slice none 0 0] 26)
  have hn1' := hn1.trans (Below.refl _ _)
  have HB := Lib.hid (HB1.out.trans (hn1.mono HB1.out.size))
  have HX1 := Lib.hid (show Bx (w1.alloc (.cells #[.bool false, .int .i64 1, .slice none 0 0, .slice none 0 0, .slice none 0 0] 26)) w1.heap.size none 0 none 0 none 0 (fulS p1 0) from ⟨hx1, sd_nil _⟩)
  have hg1 : w.heap.size ≤ w1.heap.size := HB1.out.size
  clear hn1' hn1 hz1 hx1 HNEW
  go_loopg [7] k (fulRel w p1 k w1.heap.size)
  case atStart => exact ⟨0, Nat.zero_le _, rfl, rfl, HB.out, none, 0, none, 0, none, 0, HX1.out⟩
  case round =>
    obtain ⟨i, hi, rfl, rfl, hb, ra, rc, ha, hc, ma, mc, hx⟩ := hrel
    have HB2 := Lib.hid hb
    have HX := Lib.hid hx
    clear HX1 HB hb hx
    by_cases hlt : i < k
    · have h1 : (i : Int) < (k : Int) := by omega
      have h2 : IntKind.i64.wrap ((i : Int) + 1) = (i : Int) + 1 := IntWalk.i64_in _ (by omega)
      obtain ⟨⟨b0, b1, b2, b3, b4⟩, f0, f1, f2, f3, f4⟩ := box5 HX.out.bx
      obtain ⟨g0, g1, g2⟩ := box_lt HX.out.bx
      cases p1
      case true =>
        go_wp2_with fail
        obtain ⟨t1, t2, t3, t4⟩ := two_box (w := wr) (.cells #[.int .i64 2, .int .i64 ((i : Int) + 1), .string ⟨#[107]⟩, .string ⟨#[]⟩, .bool false] 35) (.cells #[.int .i64 2, .int .i64 ((i : Int) + 1), .string ⟨#[107]⟩, .string ⟨#[]⟩, .bool false] 35)
        have hb5 := HB2.out.trans (t3.mono HB2.out.size)
        have hx5 := HX.out.below _ _ _ _ _ _ t3
        refine (ful_call true i (by omega) ra rc ha hc ma mc (wr.heap.size + 1) _ hx5.sd t2).mono ?_
        rintro e w2 ⟨ra2, rc2, ha2, hc2, ma2, mc2, rfl, ho, hsm, hb⟩
        have hbb := hb5.trans (hb.mono hb5.size)
        have g2' : w1.heap.size < ((wr.alloc (.cells #[.int .i64 2, .int .i64 ((i : Int) + 1), .string ⟨#[107]⟩, .string ⟨#[]⟩, .bool false] 35)).alloc (.cells #[.int .i64 2, .int .i64 ((i : Int) + 1), .string ⟨#[107]⟩, .string ⟨#[]⟩, .bool false] 35)).heap.size := by rw [t4]; omega
        have hx6 := hx5.below _ _ _ _ _ _ hb
        have HW2 := Lib.hid (And.intro hbb (And.intro ho (And.intro hsm (And.intro hx6.bx g2'))))
        clear t1 t2 t3 t4 hb5 hx5 ho hsm hb hbb hx6 b0 b1 b2 b3 b4 f0 f1 f2 f3 f4 g0 g1 g2 g2'
        obtain ⟨⟨b0, b1, b2, b3, b4⟩, f0, f1, f2, f3, f4⟩ := box5 HW2.out.2.2.2.1
        obtain ⟨g0, g1, g2⟩ := box_lt HW2.out.2.2.2.1
        by_cases h48 : i < 48
        · have g48 : decide ((i : Int) < 48) = true := decide_eq_true (by omega)
          rw [if_pos h48]
          clear h48
          go_wp2_with fail
          go_roundg (k - (i + 1))
          case measure => omega
          case rel =>
            have hh := bx_alloc _ _ _ _ _ _ (.cells #[.bool (fulS true (i + 1)).fr, .int .i64 (fulS true (i + 1)).nx, .slice ra2 (fulS true (i + 1)).rd.length rc2, .slice ha2 (fulS true (i + 1)).hd.length hc2, .slice ma2 (fulS true (i + 1)).ms.length mc2] 26) (bx_store _ _ _ _ _ _ HW2.out.1 hg1 HW2.out.2.2.2.2 HW2.out.2.1 HW2.out.2.2.1 HW2.out.2.2.2.1) (Nat.le_trans HW2.out.1.size (by rw [set5_size]; exact Nat.le_refl _))
            exact ⟨i + 1, by omega, rfl, by simp, hh.1, _, _, _, _, _, _, hh.2⟩
        · have g48 : decide ((i : Int) < 48) = false := decide_eq_false (by omega)
          rw [if_neg h48]
          clear h48
          go_wp2_with fail
          go_roundg (k - (i + 1))
          case measure => omega
          case rel =>
            have hh := bx_alloc _ _ _ _ _ _ (.cells #[.bool (fulS true (i + 1)).fr, .int .i64 (fulS true (i + 1)).nx, .slice ra2 (fulS true (i + 1)).rd.length rc2, .slice ha2 (fulS true (i + 1)).hd.length hc2, .slice ma2 (fulS true (i + 1)).ms.length mc2] 26) (bx_store _ _ _ _ _ _ HW2.out.1 hg1 HW2.out.2.2.2.2 HW2.out.2.1 HW2.out.2.2.1 HW2.out.2.2.2.1) (Nat.le_trans HW2.out.1.size (by rw [set5_size]; exact Nat.le_refl _))
            exact ⟨i + 1, by omega, rfl, by simp, hh.1, _, _, _, _, _, _, hh.2⟩
      case false =>
        have EXF := ext_ful ⟨i, by omega⟩
        have hj9 : i / 10 < 10 := by omega
        have hr9 : i % 10 < 10 := by omega
        have g30 : (i : Int).tdiv 10 = ((i / 10 : Nat) : Int) := by rw [Int.natCast_ediv]; exact Int.tdiv_eq_ediv_of_nonneg (by omega)
        have g40 : (i : Int).tmod 10 = ((i % 10 : Nat) : Int) := by rw [Int.natCast_emod]; exact Int.tmod_eq_emod_of_nonneg (by omega)
        have g50 : (i : Int) / 10 = ((i / 10 : Nat) : Int) := by omega
        have g60 : (i : Int) % 10 = ((i % 10 : Nat) : Int) := by omega
        obtain ⟨j, hj⟩ : ∃ j, i / 10 = j := ⟨_, rfl⟩
        obtain ⟨r, hr⟩ : ∃ r, i % 10 = r := ⟨_, rfl⟩
        simp only at EXF
        rw [hj, hr] at EXF
        rw [hj] at hj9 g30 g50
        rw [hr] at hr9 g40 g60
        have EX := Lib.hid EXF
        clear EXF hj hr
        have q1 : IntKind.i64.wrap (j : Int) = (j : Int) := IntWalk.i64_in _ (by omega)
        have q2 : IntKind.i64.wrap ((j : Int) + 1) = (j : Int) + 1 := IntWalk.i64_in _ (by omega)
        have q3 : IntKind.i64.wrap (r : Int) = (r : Int) := IntWalk.i64_in _ (by omega)
        have q4 : IntKind.i64.wrap ((r : Int) + 1) = (r : Int) + 1 := IntWalk.i64_in _ (by omega)
        have q5 : (0 : Int) ≤ (j : Int) := by omega
        have q6 : (j : Int) + 1 ≤ 10 := by omega
        have q7 : (0 : Int) ≤ (r : Int) := by omega
        have q8 : (r : Int) + 1 ≤ 10 := by omega
        have q9 : (j : Int) ≤ (j : Int) + 1 := by omega
        have q10 : (r : Int) ≤ (r : Int) + 1 := by omega
        have q11 : ¬ (9223372036854775807 < 1 + (min (r + 1) 10 - r)) := by omega
        have q12 : ¬ (9223372036854775807 < 1 + (min (r + 1) 10 - r) + (min (j + 1) 10 - j)) := by omega
        go_wp2_with fail
        go_region
        rw [EX.out]
        clear q1 q2 q3 q4 q5 q6 q7 q8 q9 q10 q11 q12 g30 g40 g50 g60 hj9 hr9
        go_wp2_with fail
        obtain ⟨t2, t3, t4⟩ := two_boxd (w := wr) (.cells #[.int .i64 2, .int .i64 1, .string ⟨(fulM false i).key.toArray⟩, .string ⟨#[]⟩, .bool false] 35) (.cells #[.int .i64 2, .int .i64 1, .string ⟨(fulM false i).key.toArray⟩, .string ⟨#[]⟩, .bool false] 35)
        have hb5 := HB2.out.trans (t3.mono HB2.out.size)
        have hx5 := HX.out.below _ _ _ _ _ _ t3
        refine (ful_call false i (by omega) ra rc ha hc ma mc (wr.heap.size + 1) _ hx5.sd t2).mono ?_
        rintro e w2 ⟨ra2, rc2, ha2, hc2, ma2, mc2, rfl, ho, hsm, hb⟩
        have hbb := hb5.trans (hb.mono hb5.size)
        have g2' : w1.heap.size < ((wr.alloc (.cells #[.int .i64 2, .int .i64 1, .string ⟨(fulM false i).key.toArray⟩, .string ⟨#[]⟩, .bool false] 35)).drew.alloc (.cells #[.int .i64 2, .int .i64 1, .string ⟨(fulM false i).key.toArray⟩, .string ⟨#[]⟩, .bool false] 35)).heap.size := by rw [t4]; omega
        have hx6 := hx5.below _ _ _ _ _ _ hb
        have HW2 := Lib.hid (And.intro hbb (And.intro ho (And.intro hsm (And.intro hx6.bx g2'))))
        clear t2 t3 t4 hb5 hx5 ho hsm hb hbb hx6 b0 b1 b2 b3 b4 f0 f1 f2 f3 f4 g0 g1 g2 g2'
        obtain ⟨⟨b0, b1, b2, b3, b4⟩, f0, f1, f2, f3, f4⟩ := box5 HW2.out.2.2.2.1
        obtain ⟨g0, g1, g2⟩ := box_lt HW2.out.2.2.2.1
        by_cases h48 : i < 48
        · have g48 : decide ((i : Int) < 48) = true := decide_eq_true (by omega)
          rw [if_pos h48]
          clear h48
          go_wp2_with fail
          go_roundg (k - (i + 1))
          case measure => omega
          case rel =>
            have hh := bx_alloc _ _ _ _ _ _ (.cells #[.bool (fulS false (i + 1)).fr, .int .i64 (fulS false (i + 1)).nx, .slice ra2 (fulS false (i + 1)).rd.length rc2, .slice ha2 (fulS false (i + 1)).hd.length hc2, .slice ma2 (fulS false (i + 1)).ms.length mc2] 26) (bx_store _ _ _ _ _ _ HW2.out.1 hg1 HW2.out.2.2.2.2 HW2.out.2.1 HW2.out.2.2.1 HW2.out.2.2.2.1) (Nat.le_trans HW2.out.1.size (by rw [set5_size]; exact Nat.le_refl _))
            exact ⟨i + 1, by omega, rfl, by simp, hh.1, _, _, _, _, _, _, hh.2⟩
        · have g48 : decide ((i : Int) < 48) = false := decide_eq_false (by omega)
          rw [if_neg h48]
          clear h48
          go_wp2_with fail
          go_roundg (k - (i + 1))
          case measure => omega
          case rel =>
            have hh := bx_alloc _ _ _ _ _ _ (.cells #[.bool (fulS false (i + 1)).fr, .int .i64 (fulS false (i + 1)).nx, .slice ra2 (fulS false (i + 1)).rd.length rc2, .slice ha2 (fulS false (i + 1)).hd.length hc2, .slice ma2 (fulS false (i + 1)).ms.length mc2] 26) (bx_store _ _ _ _ _ _ HW2.out.1 hg1 HW2.out.2.2.2.2 HW2.out.2.1 HW2.out.2.2.1 HW2.out.2.2.2.1) (Nat.le_trans HW2.out.1.size (by rw [set5_size]; exact Nat.le_refl _))
            exact ⟨i + 1, by omega, rfl, by simp, hh.1, _, _, _, _, _, _, hh.2⟩
    · obtain rfl : i = k := by omega
      have h1 : ¬ ((i : Int) < (i : Int)) := by omega
      go_wp2_with fail
      have HLEN := Lib.hid (ful_len p1 i (by omega))
      refine (HT.out wr).mono ?_
      rintro e w2 ⟨rfl, hb⟩
      have hx := HX.out.below _ _ _ _ _ _ hb
      obtain ⟨⟨b0, b1, b2, b3, b4⟩, f0, f1, f2, f3, f4⟩ := box5 hx.bx
      have hmin : (((fulS p1 i).rd.length : Int) == min (i : Int) 48) = true := by rw [HLEN.out]; simp; omega
      have HB3 := Lib.hid (HB2.out.trans (hb.mono HB2.out.size))
      clear hb hx
      go_wp2_with fail
      go_ret
      exact ⟨rfl, HB3.out⟩

end Go.Proofs.Ythohjcfpobeplaa.Sh
