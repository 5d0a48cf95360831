/-
  TopicLong.
-/
import Derived.Test.YtidedmmfmifgjaaLPure
namespace Go.Proofs.Ytidedmmfmifgjaa
open Go.RowKit
set_option linter.unusedVariables false

theorem u64_rem (p : Int) (k : Nat) (hk : 0 < k) : ∃ q : Nat, (IntKind.u64.wrap p).tmod k = (q : Int) ∧ q < k := by
  have h : 0 ≤ IntKind.u64.wrap p := by rw [IntKind.wrap_u64]; omega
  rw [Int.tmod_eq_emod_of_nonneg h]
  have h1 := Int.emod_nonneg (IntKind.u64.wrap p) (show (k : Int) ≠ 0 by omega)
  have h2 := Int.emod_lt_of_pos (IntKind.u64.wrap p) (show (0 : Int) < (k : Int) by omega)
  exact ⟨((IntKind.u64.wrap p) % k).toNat, by omega, by omega⟩

/-- so many copies of one word have been put. -/
def repRel (x : List UInt8) (W : World) (N : Nat) (n : Nat) (v i' : Value) (wr : World) : Prop :=
  ∃ i : Nat, i ≤ N ∧ n = N - i ∧ i' = .int .i64 i ∧ Below W.heap.size W wr ∧ Own wr W.heap.size v (List.replicate i x)

theorem rep_succ (i : Nat) (x : List UInt8) : List.replicate (i + 1) x = List.replicate i x ++ [x] := by
  rw [List.replicate_succ', ]

set_option maxRecDepth 100000 in
set_option maxHeartbeats 1000000 in
theorem long_any (p0 p1 : Int) (w : World) (w0 : (Lit.int .i64 p0).wf = true) (w1 : (Lit.int .i64 p1).wf = true) :
    Calls Try.prog 6 #[.int .i64 p0, .int .i64 p1] w fun e w' => e = .returned (.bool true) ∧ Below w.heap.size w w' := by
  clear w0 w1
  obtain ⟨a, ha, ha9⟩ := u64_rem p0 24 (by decide)
  obtain ⟨b, hb, hb9⟩ := u64_rem p1 24 (by decide)
  rw [show ((24 : Nat) : Int) = 24 from rfl] at ha hb
  have ha1 : IntKind.i64.wrap (a : Int) = a := IntWalk.i64_in _ (by omega)
  have ha2 : IntKind.i64.wrap (1 + (a : Int)) = 1 + (a : Int) := IntWalk.i64_in _ (by omega)
  have hb1 : IntKind.i64.wrap (b : Int) = b := IntWalk.i64_in _ (by omega)
  have hb2 : IntKind.i64.wrap (1 + (b : Int)) = 1 + (b : Int) := IntWalk.i64_in _ (by omega)
  go_enter Try.func6, Try.ntmps6
  go_wp2_with fail
  go_loopg [7, 9] (1 + a) (repRel [42] w (1 + a))
  case atStart => exact ⟨0, by omega, by omega, rfl, Below.refl _ _, Own.nil _ _⟩
  case round =>
    obtain ⟨i, hi, rfl, rfl, hb', hown⟩ := hrel
    obtain ⟨la, lc, rfl⟩ := hown.form
    have HB := Lib.hid hb'
    have HOWN := Lib.hid hown
    have hwr := hb'.size
    clear hb' hown
    by_cases hlt : i < 1 + a
    · have i1 : (i : Int) < 1 + (a : Int) := by omega
      have i2 : IntKind.i64.wrap ((i : Int) + 1) = (i : Int) + 1 := IntWalk.i64_in _ (by omega)
      have hgl : (List.replicate i ([42] : List UInt8)).length ≤ 1000000000 := by rw [List.length_replicate]; omega
      go_wp2_with (at_builtin; refine put_str [42] rfl (.tmp 26) (.tmp 27) rfl HOWN.out hwr hgl rfl _ rfl rfl ?_; intro g4 cap4 w4 hown4 hg4 hat4; have HOWN4 := Lib.hid hown4; have HG4 := Lib.hid hg4; clear hown4 hg4 hat4)
      go_roundg (1 + a - (i + 1))
      case measure => omega
      case rel => exact ⟨i + 1, by omega, rfl, rfl, Own.grown HB.out HOWN.out HG4.out hwr, by rw [rep_succ]; have := HOWN4.out; simpa using this⟩
    · obtain rfl : i = 1 + a := by omega
      have i1 : ¬ (((1 + a : Nat) : Int)) < 1 + (a : Int) := by omega
      have HOWN1 := HOWN
      have HB1 := HB
      clear HOWN HB hlt hi
      rw [List.length_replicate, show ((1 + a : Nat) : Int) = 1 + (a : Int) from rfl] at *
      go_wp2_with fail
      go_loopg [8, 10] (1 + b) (repRel [119] wr (1 + b))
      case atStart => exact ⟨0, by omega, by omega, rfl, Below.refl _ _, Own.nil _ _⟩
      case round =>
        obtain ⟨i, hi, rfl, rfl, hb', hown⟩ := hrel
        obtain ⟨lb, lc2, rfl⟩ := hown.form
        have HB := Lib.hid hb'
        have HOWN := Lib.hid hown
        have hwr1 := hb'.size
        clear hb' hown
        by_cases hlt : i < 1 + b
        · have i1 : (i : Int) < 1 + (b : Int) := by omega
          have i2 : IntKind.i64.wrap ((i : Int) + 1) = (i : Int) + 1 := IntWalk.i64_in _ (by omega)
          have hgl : (List.replicate i ([119] : List UInt8)).length ≤ 1000000000 := by rw [List.length_replicate]; omega
          go_wp2_with (at_builtin; refine put_str [119] rfl (.tmp 34) (.tmp 35) rfl HOWN.out hwr1 hgl rfl _ rfl rfl ?_; intro g4 cap4 w4 hown4 hg4 hat4; have HOWN4 := Lib.hid hown4; have HG4 := Lib.hid hg4; clear hown4 hg4 hat4)
          go_roundg (1 + b - (i + 1))
          case measure => omega
          case rel => exact ⟨i + 1, by omega, rfl, rfl, Own.grown HB.out HOWN.out HG4.out hwr1, by rw [rep_succ]; have := HOWN4.out; simpa using this⟩
        · obtain rfl : i = 1 + b := by omega
          have i1 : ¬ (((1 + b : Nat) : Int)) < 1 + (b : Int) := by omega
          rw [List.length_replicate, show ((1 + b : Nat) : Int) = 1 + (b : Int) from rfl] at *
          clear hlt hi
          obtain ⟨P, hP⟩ : ∃ P, P = List.replicate (1 + a) ([42] : List UInt8) := ⟨_, rfl⟩
          obtain ⟨K, hK⟩ : ∃ K, K = List.replicate (1 + b) ([119] : List UInt8) := ⟨_, rfl⟩
          have hpl : P.length = 1 + a := by rw [hP, List.length_replicate]
          have hkl : K.length = 1 + b := by rw [hK, List.length_replicate]
          have op : One P := by rw [hP]; exact One.rep _ (by decide)
          have ok : One K := by rw [hK]; exact One.rep _ (by decide)
          have hmp : mayB (joinW P) = decide (1 + a ≤ 20) := by
            rw [may_join op (by omega), hpl, hP, rep_all _ _ (by decide), Bool.and_true]
          have hmm : matchB (joinW P) (joinW K) = (decide (a = b) && decide (1 + a ≤ 20)) := by
            rw [match_join op ok (by omega) (by omega), hpl, hkl, hP, hK, rep_all _ _ (by decide), stars, Bool.and_true, Bool.eq_iff_iff]
            simp only [Bool.and_eq_true, decide_eq_true_eq]
            omega
          have hma : matchB [35] (joinW K) = decide (1 + b ≤ 20) := by rw [match_all ok (by omega), hkl]
          obtain ⟨a1, c1, he1, hc1, hat1⟩ := HOWN1.out.strs
          obtain ⟨a2, c2, he2, hc2, hat2⟩ := HOWN.out.strs
          rw [← hP] at hat1 he1
          rw [← hK] at hat2 he2
          rw [hpl] at he1
          rw [hkl] at he2
          obtain ⟨rfl, -, rfl⟩ := Value.slice.inj he1
          obtain ⟨rfl, -, rfl⟩ := Value.slice.inj he2
          have jp := joinW_one op
          have jk := joinW_one ok
          have HAT1 := Lib.hid (hat1.below HB.out)
          have HAT2 := Lib.hid hat2
          have HM := Lib.hid (And.intro hmp (And.intro hmm hma))
          have HBB := Lib.hid (HB1.out.trans (HB.out.mono HB1.out.size))
          clear hat1 hat2 hmp hmm hma he1 he2 hP hK op ok HOWN HOWN1 hc1 hc2
          have cp := fun (wx : World) (h : StrsAt wx la lc P) => join_any P (by omega) (by omega) la lc wx h
          have ck := fun (wx : World) (h : StrsAt wx lb lc2 K) => join_any K (by omega) (by omega) lb lc2 wx h
          rw [hpl] at cp
          rw [hkl] at ck
          have CP := Lib.hid cp
          have CK := Lib.hid ck
          have HJ := Lib.hid (And.intro (show (joinW P).length ≤ 1000000 by omega) (show (joinW K).length ≤ 1000000 by omega))
          clear cp ck jp jk hpl hkl
          obtain ⟨b1, hb1⟩ : ∃ b1, decide (1 + a ≤ 20) = b1 := ⟨_, rfl⟩
          obtain ⟨b2, hb2⟩ : ∃ b2, decide (1 + b ≤ 20) = b2 := ⟨_, rfl⟩
          have d1 : decide (1 + (a : Int) ≤ 20) = b1 := by rw [← hb1, decide_eq_decide]; omega
          have d2 : decide (1 + (b : Int) ≤ 20) = b2 := by rw [← hb2, decide_eq_decide]; omega
          have HB12 := Lib.hid (And.intro hb1 hb2)
          clear hb1 hb2
          go_wp2_with fail
          refine (told_any _).mono ?_
          rintro e w3 ⟨rfl, hb3⟩
          have HB3 := Lib.hid (HBB.out.trans (hb3.mono HBB.out.size))
          have HAT3 := Lib.hid (And.intro (HAT1.out.below hb3) (HAT2.out.below hb3))
          clear hb3
          go_wp2_with fail
          refine (CP.out _ HAT3.out.1).mono ?_
          rintro e w4 ⟨rfl, rfl⟩
          go_wp2_with fail
          refine (may_is _ HJ.out.1 b1 (by rw [HM.out.1]; exact HB12.out.1) _).mono ?_
          rintro e w5 ⟨rfl, hb5⟩
          have HB5 := Lib.hid (HB3.out.trans (hb5.mono HB3.out.size))
          have HAT5 := Lib.hid (And.intro (HAT3.out.1.below hb5) (HAT3.out.2.below hb5))
          clear hb5
          go_wp2_with fail
          refine (CP.out _ HAT5.out.1).mono ?_
          rintro e w4 ⟨rfl, rfl⟩
          go_wp2_with fail
          refine (CK.out _ HAT5.out.2).mono ?_
          rintro e w4 ⟨rfl, rfl⟩
          by_cases hab : a = b
          · have HAB := Lib.hid (decide_eq_true hab)
            have d3 : ((1 + (a : Int)) == 1 + (b : Int)) = true := by rw [beq_iff_eq]; omega
            clear hab
            go_wp2_with fail
            refine (match_is _ _ HJ.out.1 HJ.out.2 b1 (by rw [HM.out.2.1, HB12.out.1, HAB.out]; rfl) _).mono ?_
            rintro e w6 ⟨rfl, hb6⟩
            have HB6 := Lib.hid (HB5.out.trans (hb6.mono HB5.out.size))
            have HAT6 := Lib.hid (HAT5.out.2.below hb6)
            clear hb6
            go_wp2_with fail
            refine (CK.out _ HAT6.out).mono ?_
            rintro e w7 ⟨rfl, rfl⟩
            go_wp2_with fail
            refine (match_is [35] _ (by decide) HJ.out.2 b2 (by rw [HM.out.2.2]; exact HB12.out.2) _).mono ?_
            rintro e w8 ⟨rfl, hb8⟩
            have HB8 := Lib.hid (HB6.out.trans (hb8.mono HB6.out.size))
            clear hb8
            go_wp2_with fail
            go_ret
            exact ⟨rfl, HB8.out⟩
          · have HAB := Lib.hid (decide_eq_false hab)
            have d3 : ((1 + (a : Int)) == 1 + (b : Int)) = false := by rw [beq_eq_false_iff_ne]; omega
            clear hab
            go_wp2_with fail
            refine (match_is _ _ HJ.out.1 HJ.out.2 false (by rw [HM.out.2.1, HB12.out.1, HAB.out]; rfl) _).mono ?_
            rintro e w6 ⟨rfl, hb6⟩
            have HB6 := Lib.hid (HB5.out.trans (hb6.mono HB5.out.size))
            have HAT6 := Lib.hid (HAT5.out.2.below hb6)
            clear hb6
            go_wp2_with fail
            refine (CK.out _ HAT6.out).mono ?_
            rintro e w7 ⟨rfl, rfl⟩
            go_wp2_with fail
            refine (match_is [35] _ (by decide) HJ.out.2 b2 (by rw [HM.out.2.2]; exact HB12.out.2) _).mono ?_
            rintro e w8 ⟨rfl, hb8⟩
            have HB8 := Lib.hid (HB6.out.trans (hb8.mono HB6.out.size))
            clear hb8
            go_wp2_with fail
            go_ret
            exact ⟨rfl, HB8.out⟩
end Go.Proofs.Ytidedmmfmifgjaa
