/-
  Law 15's told, walked.
-/
import Derived.Test.YtibaccgghofmmaaCrSettle
namespace Go.Proofs.Ytibaccgghofmmaa.Cr
open Go.RowKit Rg Sh Bt
set_option linter.unusedVariables false
set_option linter.unusedSimpArgs false

theorem up_nil : Up [] := fun i j hi => by simp at hi
theorem up_one (x : Int) : Up [x] := fun i j hi hj h => by simp at hi hj; omega
theorem c_free : freeF 1 0 = 1 ∧ freeF 1 1 = 0 := by decide
theorem c_set1 : fromF [5] 9 true = 0 ∧ toF [5] 9 true = 1 := by decide
theorem c_set2 : fromF [] 5 false = 0 ∧ toF [] 5 false = 0 := by decide
set_option maxRecDepth 100000 in
set_option maxHeartbeats 4000000 in
theorem told_any (w : World) : Calls Try.prog 10 #[] w fun e w' => e = .returned (.bool true) ∧ Below w.heap.size w w' := by
  have hn := new_any 1 (by decide) w
  go_enter Try.func10, Try.ntmps10
  go_upto_region 4 with (go_at_call 5; refine hn.mono ?_; clear hn; rintro e w1 ⟨rfl, hv1, hb1, -⟩; have HV1 := Lib.hid hv1; have HB1 := Lib.hid hb1; clear hv1 hb1)
  have ht5 := take_any w.heap.size w.heap.size 1 0 5 [] _ w1 (by decide) (by decide) (by rw [show freeF 1 ([] : List Int).length = 1 from c_free.1]; decide) (by simp) HB1.out.size HV1.out
  have hsz : ∀ x, Below w.heap.size w x → w.heap.size ≤ x.heap.size := fun x h => h.size
  generalize hG : w.heap.size = g at *
  have HSZ := Lib.hid hsz
  have HG := Lib.hid hG
  clear hsz hG
  go_upto_region 5 with (first | (go_at_call 6; (with_reducible refine ht5.mono ?_); clear ht5; rintro e w2 ⟨rfl, v2, hv2, hb2⟩; have hv2 : CrV g w2 g 1 5 [5] v2 := hv2; obtain ⟨a2, c2, rfl, hx2⟩ := hv2.x; have ht6 := take_full g 1 5 6 [5] a2 c2 w2 (by decide) (by decide) c_free.2 hx2; have HT6 := Lib.hid ht6; have HV2 := Lib.hid hv2; have HB2 := Lib.hid (HB1.out.trans hb2); clear hv2 hb2 hx2 ht6) | (go_at_call 6; (with_reducible refine HT6.out.mono ?_); rintro e w3 ⟨rfl, rfl⟩) | fail)
  have hs := settle_any g g 1 5 9 true _ _ w2 (up_one 5) (.inl (by decide)) (HSZ.out _ HB2.out) HV2.out
  rw [show fromF [5] 9 true = 0 from c_set1.1, show toF [5] 9 true = 1 from c_set1.2] at hs
  clear HT6 HV1 HB1
  go_upto_region 6 with (go_at_call 9; refine hs.mono ?_; clear hs; rintro e w4 ⟨a4, c4, a5, c5, rfl, hr4, hx4, hb4⟩; have HR4 := Lib.hid (show UsAt w4 a4 c4 [5] from hr4); have HX4 := Lib.hid (show CrX w4 g 1 5 [] a5 c5 from hx4); have HB4 := Lib.hid (HB2.out.trans hb4); clear hr4 hx4 hb4)
  have hs := settle_none g 1 5 5 false _ _ _ w4 up_nil (by decide) (by decide) HX4.out
  clear HV2 HB2
  go_upto_region 8 with (go_at_call 9; refine hs.mono ?_; clear hs; rintro e w5 ⟨rfl, hd⟩; have HR5 := Lib.hid (HR4.out.below hd.below); have HX5 := Lib.hid (HX4.out.below hd.below); have HB5 := Lib.hid (HB4.out.trans (hd.below.mono (HSZ.out _ HB4.out))); clear hd)
  obtain ⟨b, o, rfl, d0⟩ := UsAt.get HR5.out 0 (by decide)
  rw [Nat.add_zero] at d0
  have d0' : w5.cell? ⟨b, o, none⟩ = some (.int .u64 5) := d0
  have HO := Lib.hid (take_old g 1 5 5 _ _ _ w5 (by decide) HX5.out)
  have HF := Lib.hid (free_any g 1 5 _ _ _ w5 (by decide) HX5.out)
  have HOP := Lib.hid (open_any g 1 5 _ _ _ w5 HX5.out)
  rw [show freeF 1 ([] : List Int).length = 1 from c_free.1] at HF
  clear HR4 HX4 HB4 HR5 HX5 d0
  go_wp2_with (first | (go_at_call 6; (with_reducible refine HO.out.mono ?_); rintro e w6 ⟨rfl, rfl⟩) | (go_at_call 8; (with_reducible refine HF.out.mono ?_); rintro e w6 ⟨rfl, rfl⟩) | (go_at_call 7; refine HOP.out.mono ?_; rintro e w7 ⟨a7, c7, rfl, -, hb7⟩; have HB7 := Lib.hid (HB5.out.trans (hb7.mono (HSZ.out _ HB5.out))); clear hb7) | (go_at_call 5; refine (new_bad (-1) (by decide) _).mono ?_; rintro e w8 ⟨rfl, rfl⟩) | (go_at_call 6; (with_reducible refine (take_nil 1 _).mono ?_); rintro e w9 ⟨rfl, rfl⟩) | (go_at_call 8; (with_reducible refine (free_nil _).mono ?_); rintro e w9 ⟨rfl, rfl⟩) | (go_at_call 12; refine (limit_nil 1 _).mono ?_; rintro e w9 ⟨rfl, rfl⟩) | fail)
  go_ret
  exact ⟨rfl, HG.out ▸ HB7.out⟩

end Go.Proofs.Ytibaccgghofmmaa.Cr
