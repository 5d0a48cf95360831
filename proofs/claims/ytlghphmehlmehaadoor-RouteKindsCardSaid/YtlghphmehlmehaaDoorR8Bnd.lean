/-
  Law RouteBounds, walked.
-/
import Derived.Test.YtlghphmehlmehaaDoorR8BndD
import Derived.Test.YtlghphmehlmehaaDoorR8Again
import Derived.Deep.RegionHeld3
import Derived.StillTailTactics
import Derived.BigRegion
namespace Go.Proofs.YtlghphmehlmehaaDoor.Rt
open Go.RowKit Top
set_option linter.unusedVariables false

theorem ext_x : ∀ i : Fin 19, (⟨#[120]⟩ : ByteArray) ++ (⟨#[48, 49, 50, 51, 52, 53, 54, 55, 56, 57, 97, 98, 99, 100, 101, 102, 103, 104, 105]⟩ : ByteArray).extract i.val (i.val + 1) = ⟨(exN i.val).name.toArray⟩ := by decide +kernel

theorem ext_q : ∀ i : Fin 65, (⟨#[113]⟩ : ByteArray) ++ (⟨#[48, 49, 50, 51, 52, 53, 54, 55, 56, 57]⟩ : ByteArray).extract (i.val / 10) (i.val / 10 + 1) = ⟨(bdN i.val).q.toArray⟩ := by decide +kernel
theorem ext_k : ∀ i : Fin 65, (⟨#[48, 49, 50, 51, 52, 53, 54, 55, 56, 57]⟩ : ByteArray).extract (i.val % 10) (i.val % 10 + 1) = ⟨(bdN i.val).key.toArray⟩ := by decide +kernel
def bnd2Rel (w : World) (a : Option Addr) (cap m2 : Nat) (N : Nat) (m : Nat) (v8 v9 : Value) (wr : World) : Prop :=
  ∃ i : Nat, i ≤ N ∧ m = N - i ∧ v9 = .int .i64 i ∧ Below w.heap.size w wr ∧ XsAt wr a cap (xsN (14 + m2)) ∧ ∃ c cc, v8 = .slice c (min i 64) cc ∧ BsAt wr c cc (bsN (min i 64))
def bnd1Rel (w : World) (N : Nat) (m : Nat) (v4 v5 : Value) (wr : World) : Prop :=
  ∃ i : Nat, i ≤ N ∧ m = N - i ∧ v5 = .int .i64 i ∧ Below w.heap.size w wr ∧ ∃ a cap, v4 = .slice a (min i 16) cap ∧ XsAt wr a cap (xsN (min i 16))

set_option maxRecDepth 100000 in
set_option maxHeartbeats 1000000 in
theorem bounds_any (p0 : Int) (w : World) :
    Calls Tryd.prog 6 #[.int .i64 p0] w fun e w' => e = .returned (.bool true) ∧ Below w.heap.size w w' := by
  have HT := Lib.hid told_any
  obtain ⟨q, hq, lq⟩ := u64_rem p0 4 (by decide)
  rw [show ((4 : Nat) : Int) = 4 from rfl] at hq
  have wq : IntKind.i64.wrap (q : Int) = (q : Int) := IntWalk.i64_in _ (by omega)
  have wq1 : IntKind.i64.wrap (14 + (q : Int)) = 14 + (q : Int) := IntWalk.i64_in _ (by omega)
  have wq2 : IntKind.i64.wrap (62 + (q : Int)) = 62 + (q : Int) := IntWalk.i64_in _ (by omega)
  go_enter Tryd.func6, Tryd.ntmps6
  go_wp2_with fail
  go_loopg [4, 5] (14 + q) (bnd1Rel w (14 + q))
  case atStart => exact ⟨0, Nat.zero_le _, rfl, rfl, Below.refl _ _, none, 0, rfl, RowsAt.nil _ _ _ _ _ (by decide)⟩
  case round =>
    obtain ⟨i, hi, rfl, rfl, hb, a, cap, rfl, hx⟩ := hrel
    have HB := Lib.hid hb
    have HX := Lib.hid hx
    clear hb hx
    by_cases hlt : i < 14 + q
    · have h1 : (i : Int) < 14 + (q : Int) := by omega
      have h0 : (0 : Int) ≤ (i : Int) := by omega
      have h2 : IntKind.i64.wrap ((i : Int) + 1) = (i : Int) + 1 := IntWalk.i64_in _ (by omega)
      have h3 : (i : Int) + 1 ≤ 19 := by omega
      have HE := Lib.hid (ext_x ⟨i, by omega⟩)
      have hD := declare_is a cap (xsN (min i 16)) (exN i) _ _ (decl_N i (by omega)) (by rw [xsN_length]; omega) wr HX.out
      rw [xsN_length, xsN_length] at hD
      have HD := Lib.hid hD
      clear hD
      go_wp2_with fail
      rw [HE.out]
      refine HD.out.mono ?_
      rintro r w2 ⟨hb2, va, vc, rfl, hx2⟩
      have HB2 := Lib.hid (HB.out.trans (hb2.mono HB.out.size))
      have HX2 := Lib.hid hx2
      clear hb2 hx2
      by_cases h16 : i < 16
      · have h16' : (i : Int) < 16 := by omega
        rw [if_pos h16]
        go_wp2_with fail
        go_roundg (14 + q - (i + 1))
        case measure => omega
        case rel => exact ⟨i + 1, by omega, rfl, by simp, HB2.out, va, vc, rfl, HX2.out⟩
      · have h16' : decide ((i : Int) < 16) = false := by rw [decide_eq_false_iff_not]; omega
        rw [if_neg h16]
        go_wp2_with fail
        go_roundg (14 + q - (i + 1))
        case measure => omega
        case rel => exact ⟨i + 1, by omega, rfl, by simp, HB2.out, va, vc, rfl, HX2.out⟩
    · obtain rfl : i = 14 + q := by omega
      have h1 : ¬ (((14 + q : Nat) : Int) < 14 + (q : Int)) := by omega
      have hmin : min (14 + q) 16 = 14 + min q 2 := by omega
      rw [hmin] at HX
      rw [hmin]
      have hq2 : min q 2 < 3 := by omega
      have hq22 : ((14 + min q 2 : Nat) : Int) = min (14 + (q : Int)) 16 := by omega
      have HQ22 := Lib.hid hq22
      obtain ⟨m2, hm2⟩ : ∃ m2, min q 2 = m2 := ⟨_, rfl⟩
      rw [hm2] at hq2 HX HQ22 ⊢
      have HM2 := Lib.hid hm2
      clear hmin hm2 hq22 hlt hi
      go_wp2_with fail
      go_loopg [8, 9] (62 + q) (bnd2Rel w a cap m2 (62 + q))
      case atStart => exact ⟨0, Nat.zero_le _, rfl, rfl, HB.out, HX.out, none, 0, rfl, RowsAt.nil _ _ _ _ _ (by decide)⟩
      case round =>
        obtain ⟨i, hi, rfl, rfl, hb, hx, c, cc, rfl, hl⟩ := hrel
        have HB2 := Lib.hid hb
        have HX2 := Lib.hid hx
        have HL2 := Lib.hid hl
        clear hb hx hl
        by_cases hlt : i < 62 + q
        · have g1 : (i : Int) < 62 + (q : Int) := by omega
          have g2 : IntKind.i64.wrap ((i : Int) + 1) = (i : Int) + 1 := IntWalk.i64_in _ (by omega)
          have EQ0 := ext_q ⟨i, by omega⟩
          have EK0 := ext_k ⟨i, by omega⟩
          have hj9 : i / 10 < 10 := by omega
          have hr9 : i % 10 < 10 := by omega
          have g30 : (i : Int).tdiv 10 = ((i / 10 : Nat) : Int) := by rw [Int.natCast_ediv]; exact Int.tdiv_eq_ediv_of_nonneg (by omega)
          have g40 : (i : Int).tmod 10 = ((i % 10 : Nat) : Int) := by rw [Int.natCast_emod]; exact Int.tmod_eq_emod_of_nonneg (by omega)
          have g50 : (i : Int) / 10 = ((i / 10 : Nat) : Int) := by omega
          have g60 : (i : Int) % 10 = ((i % 10 : Nat) : Int) := by omega
          obtain ⟨j, hj⟩ : ∃ j, i / 10 = j := ⟨_, rfl⟩
          obtain ⟨r, hr⟩ : ∃ r, i % 10 = r := ⟨_, rfl⟩
          simp only at EQ0 EK0
          rw [hj] at EQ0 hj9 g30 g50
          rw [hr] at EK0 hr9 g40 g60
          have EQ := Lib.hid EQ0
          have EK := Lib.hid EK0
          clear EQ0 EK0 hj hr
          have f1 : IntKind.i64.wrap (j : Int) = (j : Int) := IntWalk.i64_in _ (by omega)
          have f2 : IntKind.i64.wrap ((j : Int) + 1) = (j : Int) + 1 := IntWalk.i64_in _ (by omega)
          have f3 : IntKind.i64.wrap (r : Int) = (r : Int) := IntWalk.i64_in _ (by omega)
          have f4 : IntKind.i64.wrap ((r : Int) + 1) = (r : Int) + 1 := IntWalk.i64_in _ (by omega)
          have f5 : (0 : Int) ≤ (j : Int) := by omega
          have f6 : (j : Int) + 1 ≤ 10 := by omega
          have f7 : (0 : Int) ≤ (r : Int) := by omega
          have f8 : (r : Int) + 1 ≤ 10 := by omega
          have f11 : ¬ (9223372036854775807 < 1 + (min (j + 1) 10 - j)) := by omega
          obtain ⟨e, he⟩ : ∃ e : Int, (if i < 64 then 0 else 1) = e := ⟨_, rfl⟩
          have he2 : (e = 0 ∧ decide ((i : Int) < 64) = true) ∨ (e = 1 ∧ decide ((i : Int) < 64) = false) := by
            by_cases h : i < 64
            · rw [if_pos h] at he; exact .inl ⟨he.symm, by rw [decide_eq_true_iff]; omega⟩
            · rw [if_neg h] at he; exact .inr ⟨he.symm, by rw [decide_eq_false_iff_not]; omega⟩
          have f9 : (j : Int) ≤ (j : Int) + 1 := by omega
          have f10 : (r : Int) ≤ (r : Int) + 1 := by omega
          have hD := fun wx (hb : Below wr.heap.size wr wx) => bind_is a cap (xsN (14 + m2)) c cc (bsN (min i 64)) (bdN i) _ _ (bind_N m2 hq2 i (by omega)) (by rw [bsN_length]; omega) wx (HX2.out.below hb) (HL2.out.below hb)
          rw [xsN_length, bsN_length, bsN_length, he] at hD
          have HD := Lib.hid hD
          have HE2 := Lib.hid he2
          clear hD he2 he
          have KH := Lib.hid (show ∀ wx, Below wr.heap.size wr wx → (0 : Nat) ≤ wx.heap.size ∧ Below wr.heap.size wr wx from fun wx hx => ⟨Nat.zero_le _, hx⟩)
          go_wp2_with fail
          go_region_held3 (fun wx => (0 : Nat) ≤ wx.heap.size ∧ Below wr.heap.size wr wx)
            (first | exact KH.out _ (Below.refl _ _).drew | exact KH.out _ (by assumption))
            (first
              | (go_at_call 12; have hbx := (by assumption : _ ∧ Below _ _ _).2; rw [EQ.out, EK.out]; refine (HD.out _ hbx).mono ?_; rintro r2 w2 ⟨hb2, va, vc, rfl, hl2⟩; have hbz := hbx.trans (hb2.mono hbx.size); have HL3 := Lib.hid hl2; clear hb2 hbx hl2))
          have HB3 := Lib.hid (HB2.out.trans (hbz.mono HB2.out.size))
          have HX3 := Lib.hid (HX2.out.below hbz)
          clear hbz
          have he2 := HE2.out
          rcases he2 with ⟨rfl, e2⟩ | ⟨rfl, e2⟩
          all_goals
            go_wp2_with fail
            go_roundg (62 + q - (i + 1))
            case measure => omega
            case rel => exact ⟨i + 1, by omega, rfl, by simp, HB3.out, HX3.out, va, vc, rfl, HL3.out⟩
        · obtain rfl : i = 62 + q := by omega
          have g1 : ¬ (((62 + q : Nat) : Int) < 62 + (q : Int)) := by omega
          have hmin : min (62 + q) 64 = 62 + m2 := by have := HM2.out; omega
          have hA : (14 + (m2 : Int) == min (14 + (q : Int)) 16) = true := by have := HM2.out; simp; omega
          have hB : (62 + (m2 : Int) == min (62 + (q : Int)) 64) = true := by have := HM2.out; simp; omega
          rw [hmin] at HL2 ⊢
          have hm := fun wx (hb : Below wr.heap.size wr wx) => mayR_any a cap (xsN (14 + m2)) c cc (bsN (62 + m2)) wx (HX2.out.below hb) (HL2.out.below hb)
          rw [xsN_length, bsN_length, decide_eq_true (bs_may m2 hq2 (62 + m2) (by omega))] at hm
          have HMAY := Lib.hid hm
          clear hmin hm hi hlt
          go_wp2_with (first | (go_at_call 9; refine (HT.out _).mono ?_; rintro r w2 ⟨rfl, hb2⟩; have HBT := Lib.hid hb2; clear hb2) | (go_at_call 8; refine (HMAY.out _ HBT.out).mono ?_; rintro r w3 ⟨rfl, hb3⟩; have HB4 := Lib.hid (HB2.out.trans ((HBT.out.trans (hb3.mono HBT.out.size)).mono HB2.out.size)); clear hb3))
          go_ret
          exact ⟨rfl, HB4.out⟩

end Go.Proofs.YtlghphmehlmehaaDoor.Rt
