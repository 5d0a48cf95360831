/-
  Law RouteAgain, walked.
-/
import Derived.Test.YtlghphmehlmehaaDoorR8Told
namespace Go.Proofs.YtlghphmehlmehaaDoor.Rt
open Go.RowKit Top
set_option linter.unusedVariables false

theorem u64_rem (p : Int) (k : Nat) (hk : 0 < k) : ∃ q : Nat, (IntKind.u64.wrap p).tmod k = (q : Int) ∧ q < k := by
  have h : 0 ≤ IntKind.u64.wrap p := by rw [IntKind.wrap_u64]; omega
  rw [Int.tmod_eq_emod_of_nonneg h]
  have h1 := Int.emod_nonneg (IntKind.u64.wrap p) (show (k : Int) ≠ 0 by omega)
  have h2 := Int.emod_lt_of_pos (IntKind.u64.wrap p) (show (0 : Int) < (k : Int) by omega)
  exact ⟨((IntKind.u64.wrap p) % k).toNat, by omega, by omega⟩

theorem fnd_one (s : List UInt8) (k : Int) : fnd s [⟨s, k⟩] = some 0 := by simp [fnd, List.findIdx?_cons]
theorem mayX_one (s : List UInt8) (k : Int) (hs : MayNm s) (h1 : 1 ≤ k) (h4 : k ≤ 4) : MayX [⟨s, k⟩] := by
  refine ⟨by simp, fun i hi => ?_⟩
  obtain rfl : i = 0 := by simpa using hi
  exact ⟨hs, h1, h4, fnd_one s k⟩
theorem decl_new (s : List UInt8) (k : Int) (hs : MayNm s) (h1 : 1 ≤ k) (h4 : k ≤ 4) : declF [] ⟨s, k⟩ = ([⟨s, k⟩], 0) := by
  have hm : MayR [(⟨s, k⟩ : Ex)] [] := ⟨mayX_one s k hs h1 h4, by simp, fun i hi => by simp at hi⟩
  simp [declF, fnd, hm]
theorem decl_old (s : List UInt8) (k l : Int) : declF [⟨s, k⟩] ⟨s, l⟩ = ([⟨s, k⟩], if k = l then 0 else 406) := by
  unfold declF
  rw [show fnd (⟨s, l⟩ : Ex).name [(⟨s, k⟩ : Ex)] = some 0 from fnd_one s k]
  simp
theorem mayL_one (s : List UInt8) (m : Int) (hs : MayNm s) (h1 : 1 ≤ m) (h4 : m ≤ 4) : MayR [⟨s, 4⟩] [⟨s, [113], [], m⟩] := by
  refine ⟨mayX_one s 4 hs (by decide) (by decide), by simp, fun i hi => ?_⟩
  obtain rfl : i = 0 := by simpa using hi
  refine ⟨⟨0, fnd_one s 4, by show MayNm [113]; decide, by simp, .inl ⟨rfl, h1, h4⟩⟩, ?_⟩
  simp [alk, lk, List.findIdx?_cons]
theorem bind_new (s : List UInt8) (m : Int) (hs : MayNm s) (h1 : 1 ≤ m) (h4 : m ≤ 4) : bindF [⟨s, 4⟩] [] ⟨s, [113], [], m⟩ = ([⟨s, [113], [], m⟩], 0) := by
  unfold bindF
  rw [show fnd (⟨s, [113], [], m⟩ : Bd).ex [(⟨s, 4⟩ : Ex)] = some 0 from fnd_one s 4]
  simp [alk, mayL_one s m hs h1 h4]
theorem bind_old (s : List UInt8) (m n : Int) : bindF [⟨s, 4⟩] [⟨s, [113], [], m⟩] ⟨s, [113], [], n⟩ = ([⟨s, [113], [], m⟩], if m = n then 0 else 406) := by
  unfold bindF
  rw [show fnd (⟨s, [113], [], n⟩ : Bd).ex [(⟨s, 4⟩ : Ex)] = some 0 from fnd_one s 4]
  rw [show alk ⟨s, [113], [], n⟩ [(⟨s, [113], [], m⟩ : Bd)] = some 0 by simp [alk, lk, List.findIdx?_cons]]
  simp

/-- a literal row of one exchange. -/
theorem xs_lit (w : World) (e : Ex) : XsAt (w.alloc (.cells #[.string ⟨e.name.toArray⟩, .int .i64 e.kind] 25)) (some ⟨w.heap.size, 0, none⟩) 1 [e] := by
  refine ⟨by simp, by decide, fun _ => ⟨w.heap.size, 0, rfl, fun i hi r v hv => ?_⟩⟩
  obtain rfl : i = 0 := by simpa using hi
  rw [cell_of_row _ _ _ _ _ _ (heap_alloc_new w _)]
  have h2 : (exC e)[r]? = some v := hv
  have : r < 2 := (List.getElem?_eq_some_iff.1 h2).1
  match r, this with
  | 0, _ => simpa [exC, str] using h2
  | 1, _ => simpa [exC, str] using h2

set_option maxRecDepth 100000 in
set_option maxHeartbeats 1000000 in
theorem again_any (p0 : ByteArray) (p1 p2 p3 p4 : Int) (w : World) (w0 : p0.size ≤ maxLen) :
    Calls Tryd.prog 5 #[.string p0, .int .i64 p1, .int .i64 p2, .int .i64 p3, .int .i64 p4] w fun e w' => e = .returned (.bool true) ∧ Below w.heap.size w w' := by
  obtain ⟨s, rfl⟩ : ∃ s : List UInt8, p0 = ⟨s.toArray⟩ := ⟨p0.data.toList, by cases p0; simp⟩
  have hsz : (⟨s.toArray⟩ : ByteArray).size = s.length := rfl
  have HT := Lib.hid told_any
  rw [hsz] at w0
  unfold maxLen at w0
  by_cases h1 : s.length < 1
  · have h1' : (s.length : Int) < 1 := by omega
    go_enter Tryd.func5, Tryd.ntmps5
    go_wp2_with (go_at_call 9; refine (HT.out _).mono ?_; rintro e w2 ⟨rfl, hb2⟩; have HB2 := Lib.hid hb2; clear hb2)
    go_ret
    exact ⟨rfl, HB2.out⟩
  by_cases h40 : 40 < s.length
  · have h1' : ((s.length : Int) < 1) = False := by simp; omega
    have h40' : (40 : Int) < (s.length : Int) := by omega
    go_enter Tryd.func5, Tryd.ntmps5
    go_wp2_with (go_at_call 9; refine (HT.out _).mono ?_; rintro e w2 ⟨rfl, hb2⟩; have HB2 := Lib.hid hb2; clear hb2)
    go_ret
    exact ⟨rfl, HB2.out⟩
  have h1' : ((s.length : Int) < 1) = False := by simp; omega
  have h40' : ((40 : Int) < (s.length : Int)) = False := by simp; omega
  have HS := Lib.hid (show MayNm s from ⟨by intro h; subst h; simp at h1, by omega⟩)
  obtain ⟨qa, ha, la⟩ := u64_rem p1 4 (by decide)
  obtain ⟨qb, hb, lb⟩ := u64_rem p2 4 (by decide)
  obtain ⟨qv, hv, lv⟩ := u64_rem p3 4 (by decide)
  obtain ⟨qw, hw, lw⟩ := u64_rem p4 4 (by decide)
  rw [show ((4 : Nat) : Int) = 4 from rfl] at ha hb hv hw
  have wa : IntKind.i64.wrap (qa : Int) = (qa : Int) := IntWalk.i64_in _ (by omega)
  have wb : IntKind.i64.wrap (qb : Int) = (qb : Int) := IntWalk.i64_in _ (by omega)
  have wv : IntKind.i64.wrap (qv : Int) = (qv : Int) := IntWalk.i64_in _ (by omega)
  have ww : IntKind.i64.wrap (qw : Int) = (qw : Int) := IntWalk.i64_in _ (by omega)
  have wa1 : IntKind.i64.wrap (1 + (qa : Int)) = 1 + (qa : Int) := IntWalk.i64_in _ (by omega)
  have wb1 : IntKind.i64.wrap (1 + (qb : Int)) = 1 + (qb : Int) := IntWalk.i64_in _ (by omega)
  have wv1 : IntKind.i64.wrap (1 + (qv : Int)) = 1 + (qv : Int) := IntWalk.i64_in _ (by omega)
  have ww1 : IntKind.i64.wrap (1 + (qw : Int)) = 1 + (qw : Int) := IntWalk.i64_in _ (by omega)
  have D1 := Lib.hid (decl_new s (1 + (qa : Int)) HS.out (by omega) (by omega))
  have BN := Lib.hid (bind_new s (1 + (qv : Int)) HS.out (by omega) (by omega))
  clear h1 h40
  obtain ⟨c1, hc1⟩ : ∃ c : Int, (if (1 + (qa : Int)) = 1 + (qb : Int) then 0 else 406) = c := ⟨_, rfl⟩
  obtain ⟨c2, hc2⟩ : ∃ c : Int, (if (1 + (qv : Int)) = 1 + (qw : Int) then 0 else 406) = c := ⟨_, rfl⟩
  have D2 := Lib.hid (decl_old s (1 + (qa : Int)) (1 + (qb : Int)))
  have BO := Lib.hid (bind_old s (1 + (qv : Int)) (1 + (qw : Int)))
  rw [hc1] at D2
  rw [hc2] at BO
  have hc1' : ((c1 = 0 ∧ ((1 + (qa : Int)) == 1 + (qb : Int)) = true) ∨ (c1 = 406 ∧ ((1 + (qa : Int)) == 1 + (qb : Int)) = false)) := by
    by_cases h : (1 + (qa : Int)) = 1 + (qb : Int)
    · rw [if_pos h] at hc1; exact .inl ⟨hc1.symm, by simpa using h⟩
    · rw [if_neg h] at hc1; exact .inr ⟨hc1.symm, by simpa using h⟩
  have hc2' : ((c2 = 0 ∧ ((1 + (qv : Int)) == 1 + (qw : Int)) = true) ∨ (c2 = 406 ∧ ((1 + (qv : Int)) == 1 + (qw : Int)) = false)) := by
    by_cases h : (1 + (qv : Int)) = 1 + (qw : Int)
    · rw [if_pos h] at hc2; exact .inl ⟨hc2.symm, by simpa using h⟩
    · rw [if_neg h] at hc2; exact .inr ⟨hc2.symm, by simpa using h⟩
  have HC2 := Lib.hid hc2'
  clear hc1 hc2 hc2'
  go_enter Tryd.func5, Tryd.ntmps5
  go_wp2_with fail
  refine (declare_is none 0 [] ⟨s, 1 + (qa : Int)⟩ _ 0 D1.out (by decide) _ (RowsAt.nil _ _ _ _ _ (by decide))).mono ?_
  rintro r w1 ⟨hb1, xa, xc, rfl, hx1⟩
  have X1 := Lib.hid hx1
  have B1 := Lib.hid hb1
  clear hb1 hx1
  go_wp2_with fail
  refine (declare_is xa xc [⟨s, 1 + (qa : Int)⟩] ⟨s, 1 + (qb : Int)⟩ _ c1 D2.out (by simp) _ X1.out).mono ?_
  rintro r w2 ⟨hb2, ya, yc, rfl, hx2⟩
  have B2 := Lib.hid (B1.out.trans (hb2.mono B1.out.size))
  clear hb2 hx2
  have HX := Lib.hid (xs_lit w2 ⟨s, 4⟩)
  have BX := Lib.hid (B2.out.alloc B2.out.size (.cells #[.string ⟨s.toArray⟩, .int .i64 4] 25))
  rcases hc1' with ⟨rfl, e1⟩ | ⟨rfl, e1⟩
  all_goals
    go_wp2_with fail
    refine (bind_is (some ⟨w2.heap.size, 0, none⟩) 1 [⟨s, 4⟩] none 0 [] ⟨s, [113], [], 1 + (qv : Int)⟩ _ 0 BN.out (by decide) _ HX.out (RowsAt.nil _ _ _ _ _ (by decide))).mono ?_
    rintro r w3 ⟨hb3, la, lc, rfl, hl3⟩
    have L3 := Lib.hid hl3
    have X3 := Lib.hid (HX.out.below hb3)
    have B3 := Lib.hid (BX.out.trans (hb3.mono BX.out.size))
    clear hb3 hl3
    go_wp2_with fail
    refine (bind_is (some ⟨w2.heap.size, 0, none⟩) 1 [⟨s, 4⟩] la lc [⟨s, [113], [], 1 + (qv : Int)⟩] ⟨s, [113], [], 1 + (qw : Int)⟩ _ c2 BO.out (by simp) _ X3.out L3.out).mono ?_
    rintro r w4 ⟨hb4, ma, mc, rfl, hl4⟩
    have B4 := Lib.hid (B3.out.trans (hb4.mono B3.out.size))
    clear hb4 hl4
    go_wp2_with fail
    refine (HT.out _).mono ?_
    rintro r w5 ⟨rfl, hb5⟩
    have B5 := Lib.hid (B4.out.trans (hb5.mono B4.out.size))
    clear hb5
    have hc2' := HC2.out
    rcases hc2' with ⟨rfl, e2⟩ | ⟨rfl, e2⟩
    all_goals
      go_wp2_with fail
      go_ret
      exact ⟨rfl, B5.out⟩

end Go.Proofs.YtlghphmehlmehaaDoor.Rt
