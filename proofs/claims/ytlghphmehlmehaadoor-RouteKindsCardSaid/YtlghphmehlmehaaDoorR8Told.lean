/-
  Law 8's told: true.
-/
import Derived.Test.YtlghphmehlmehaaDoorRtF
namespace Go.Proofs.YtlghphmehlmehaaDoor.Rt
open Go.RowKit Top
set_option linter.unusedVariables false

abbrev ea : Ex := ⟨[97], 1⟩
abbrev ba : Bd := ⟨[97], [113], [107], 0⟩

set_option maxRecDepth 100000 in
set_option maxHeartbeats 1000000 in
theorem told_any (w : World) : Calls Tryd.prog 9 #[] w fun e w' => e = .returned (.bool true) ∧ Below w.heap.size w w' := by
  have hk1 : declF [] ea = ([ea], 0) := by decide +kernel
  have hk2 : declF [ea] ⟨[97], 2⟩ = ([ea], 406) := by decide +kernel
  have hk3 : bindF [ea] [] ba = ([ba], 0) := by decide +kernel
  have hk4 : bindF [ea] [] ⟨[98], [113], [], 0⟩ = ([], 404) := by decide +kernel
  have hk5 : wantL ea [107] [ba] = [[113]] := by decide +kernel
  have hk6 : fnd [97] [ea] = some 0 := by decide +kernel
  have hk7 : fnd [98] [ea] = none := by decide +kernel
  have hk8 : decide (MayR [ea] [ba]) = true := by decide +kernel
  have K1 := Lib.hid hk1
  have K2 := Lib.hid hk2
  have K3 := Lib.hid hk3
  have K4 := Lib.hid hk4
  have K5 := Lib.hid hk5
  have K6 := Lib.hid hk6
  have K7 := Lib.hid hk7
  have K8 := Lib.hid hk8
  clear hk1 hk2 hk3 hk4 hk5 hk6 hk7 hk8
  go_enter Tryd.func9, Tryd.ntmps9
  go_wp2_with fail
  refine (declare_is none 0 [] ea [ea] 0 K1.out (by decide) _ (RowsAt.nil _ _ _ _ _ (by decide))).mono ?_
  rintro r w1 ⟨hb1, xa, xc, rfl, hx1⟩
  have X1 := Lib.hid hx1
  have B1 := Lib.hid hb1
  clear hb1 hx1
  go_wp2_with fail
  refine (declare_is xa xc [ea] ⟨[97], 2⟩ [ea] 406 K2.out (by decide) _ X1.out).mono ?_
  rintro r w2 ⟨hb2, ya, yc, rfl, hx2⟩
  have X2 := Lib.hid (X1.out.below hb2)
  have B2 := Lib.hid (B1.out.trans (hb2.mono B1.out.size))
  clear hb2 hx2
  go_wp2_with fail
  refine (bind_is xa xc [ea] none 0 [] ba [ba] 0 K3.out (by decide) _ X2.out (RowsAt.nil _ _ _ _ _ (by decide))).mono ?_
  rintro r w3 ⟨hb3, la, lc, rfl, hl3⟩
  have X3 := Lib.hid (X2.out.below hb3)
  have L3 := Lib.hid hl3
  have B3 := Lib.hid (B2.out.trans (hb3.mono B2.out.size))
  clear hb3 hl3
  go_wp2_with fail
  refine (bind_is xa xc [ea] none 0 [] ⟨[98], [113], [], 0⟩ [] 404 K4.out (by decide) _ X3.out (RowsAt.nil _ _ _ _ _ (by decide))).mono ?_
  rintro r w4 ⟨hb4, ma, mc, rfl, hl4⟩
  have X4 := Lib.hid (X3.out.below hb4)
  have L4 := Lib.hid (L3.out.below hb4)
  have B4 := Lib.hid (B3.out.trans (hb4.mono B3.out.size))
  clear hb4 hl4
  go_wp2_with fail
  refine (queues_some xa xc [ea] la lc [ba] [97] [107] 0 (by decide) (by decide) K6.out (by decide) (by decide) (by decide) (by decide) _ X4.out L4.out).mono ?_
  rintro r w5 ⟨hb5, v5, rfl, hown5⟩
  have hown5' : Own w5 w4.heap.size v5 [[113]] := by rw [← K5.out]; exact hown5
  obtain ⟨qa, qc, rfl, hqc, hqat⟩ := hown5'.strs
  obtain ⟨qb, qo, rfl, hqq⟩ := hqat.at' (by decide)
  have q5 := hqq 0 (by decide)
  have X5 := Lib.hid (X4.out.below hb5)
  have L5 := Lib.hid (L4.out.below hb5)
  have B5 := Lib.hid (B4.out.trans (hb5.mono B4.out.size))
  have Q5 := Lib.hid (show w5.cell? ⟨qb, qo, none⟩ = some (.string ⟨#[113]⟩) from q5)
  clear hb5 hown5 hown5' hqat hqq q5
  go_wp2_with fail
  refine (queues_def none 0 0 none 0 0 [113] _).mono ?_
  rintro r w6 ⟨hb6, rfl, hd6⟩
  have X6 := Lib.hid (X5.out.below hb6)
  have L6 := Lib.hid (L5.out.below hb6)
  have B6 := Lib.hid (B5.out.trans (hb6.mono B5.out.size))
  have Q6 := Lib.hid ((hb6.cell (lt_of_cell Q5.out)).trans Q5.out)
  clear hb6 hd6
  go_wp2_with fail
  refine (queues_none xa xc [ea] la lc [ba].length [98] [107] (by decide) K7.out _ X6.out).mono ?_
  rintro r w7 ⟨hb7, rfl⟩
  have X7 := Lib.hid (X6.out.below hb7)
  have L7 := Lib.hid (L6.out.below hb7)
  have B7 := Lib.hid (B6.out.trans (hb7.mono B6.out.size))
  have q7 := (hb7.cell (lt_of_cell Q6.out)).trans Q6.out
  clear hb7
  go_wp2_with fail
  refine (find_any xa xc [ea] [97] _ X7.out).mono ?_
  rw [K6.out]
  rintro r w8 ⟨rfl, hb8⟩
  have X8 := Lib.hid (X7.out.below hb8)
  have L8 := Lib.hid (L7.out.below hb8)
  have B8 := Lib.hid (B7.out.trans (hb8.mono B7.out.size))
  clear hb8
  have hp0 : pl (some 0) = 0 := rfl
  go_wp2_with fail
  refine (find_any xa xc [ea] [98] _ X8.out).mono ?_
  rw [K7.out]
  rintro r w9 ⟨rfl, hb9⟩
  have X9 := Lib.hid (X8.out.below hb9)
  have L9 := Lib.hid (L8.out.below hb9)
  have B9 := Lib.hid (B8.out.trans (hb9.mono B8.out.size))
  clear hb9
  have hp1 : pl none = -1 := rfl
  go_wp2_with fail
  refine (mayR_any xa xc [ea] la lc [ba] _ X9.out L9.out).mono ?_
  rw [K8.out]
  rintro r w10 ⟨rfl, hb10⟩
  have B10 := Lib.hid (B9.out.trans (hb10.mono B9.out.size))
  clear hb10
  go_wp2_with fail
  go_ret
  exact ⟨rfl, B10.out⟩

end Go.Proofs.YtlghphmehlmehaaDoor.Rt
