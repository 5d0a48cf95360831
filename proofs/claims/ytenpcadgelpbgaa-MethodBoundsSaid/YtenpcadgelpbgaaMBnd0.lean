/-
  MethodBounds, at the bounds.
-/
import Derived.Test.YtenpcadgelpbgaaMBndD
namespace Go.Proofs.Ytenpcadgelpbgaa
open Go.RowKit
set_option linter.unusedVariables false

set_option maxRecDepth 100000 in
set_option maxHeartbeats 8000000 in
theorem bnd0_0 {p0 q0 : Int} {w : World} (hq0 : IntKind.u64.wrap p0 = q0) (hj : q0.tmod 7 = 0) :
    Calls Try.prog 6 #[.int .i64 p0, .bool false] w fun e w' => e = .returned (.bool true) ∧ Below w.heap.size w w' := by
  have hmk : (Instr.makeSlice 26 (.int .i64 255) (.int .i64 255)).run Try.prog w = .ok (.slice (some ⟨w.heap.size, 0, none⟩) 255 255) (w.alloc (.cells (madeCells #[.int .u8 0] 255) 5)) := make_bytes 255 (by omega) w
  have hcv := conv_made (heap_alloc_new w (.cells (madeCells #[.int .u8 0] 255) 5))
  have hwj : IntKind.i64.wrap (0 : Int) = 0 := by decide
  have hs := zeros_size 255
  have hw7 : IntKind.u64.wrap 7 = 7 := by decide
  have h70 : ¬ (7 : Int) = 0 := by decide
  go_enter Try.func6, Try.ntmps6
  go_wp2_with fail
  have henv : BEnv w ((w.alloc (.cells (madeCells #[.int .u8 0] 255) 5)).alloc (.cells #[.int .i64 5010, .string (zeros 255), .string ⟨#[]⟩, .string ⟨#[]⟩, .string ⟨#[]⟩, .string ⟨#[]⟩, .int .i64 0, .int .i64 0, .int .u64 0, .bool false, .bool false, .slice none 0 0] 25)) (w.heap.size + 1) (bnd 5010 .n (zeros 255) 0) := ⟨alloc_new1 w _ _, alloc_two w _ _⟩
  have HE := Lib.hid henv
  have hwf := bnd_wf (id := 5010) (l := [.n]) rfl .n (s := zeros 255) (n := 0) (by rw [hs]; omega) (by omega)
  have HWF := Lib.hid hwf
  have hgood := bnd_good (id := 5010) (l := [.n]) rfl (p := .n) (by decide) hs
  have HG := Lib.hid hgood
  clear hmk hcv hwj hs hw7 h70 hq0 hj henv hwf hgood
  generalize (w.alloc (.cells (madeCells #[.int .u8 0] 255) 5)).alloc (.cells #[.int .i64 5010, .string (zeros 255), .string ⟨#[]⟩, .string ⟨#[]⟩, .string ⟨#[]⟩, .string ⟨#[]⟩, .int .i64 0, .int .i64 0, .int .u64 0, .bool false, .bool false, .slice none 0 0] 25) = w1 at *
  refine (putM_any (m := (bnd 5010 .n (zeros 255) 0)) (a := none) (cap := 0) (Tb.nil _ none (by decide)) HWF.out).mono ?_
  intro e w2 h
  obtain ⟨hb, gb, capb, rfl, -, hbb⟩ := put_good HG.out h
  have hlmax := putM_le HG.out
  have HE := Lib.hid (HE.out.below hb)
  have HBB := Lib.hid hbb
  have hcb := hbb.len
  have hcm := hbb.max
  unfold maxLen at hcm
  clear h hb hbb
  obtain ⟨N, hN⟩ : ∃ N, N = (putM (bnd 5010 .n (zeros 255) 0)).length := ⟨_, rfl⟩
  rw [← hN] at hlmax hcb ⊢
  have HL := Lib.hid hN
  clear hN
  go_wp2_with fail
  refine (getM_any (B := w2.heap.size) _ (putM (bnd 5010 .n (zeros 255) 0)) w2 (Nat.le_refl _) (by rw [HL.out]; exact HBB.out.in)).mono ?_
  intro e w3 h
  obtain ⟨hb, a3, cap3, bs3, he, hs3, ho3⟩ := get_good HG.out h
  replace he : e = .returned (.tuple #[.agg #[.int .i64 5010, .string (zeros 255), .string ⟨#[]⟩, .string ⟨#[]⟩, .string ⟨#[]⟩, .string ⟨#[]⟩, .int .i64 0, .int .i64 0, .int .u64 0, .bool false, .bool false, .slice a3 0 cap3], .int .i64 0]) := he
  subst he
  have hM : MeAt (w3.alloc (.cells #[.int .i64 5010, .string (zeros 255), .string ⟨#[]⟩, .string ⟨#[]⟩, .string ⟨#[]⟩, .string ⟨#[]⟩, .int .i64 0, .int .i64 0, .int .u64 0, .bool false, .bool false, .slice a3 0 cap3] 25)) w3.heap.size (bnd 5010 .n (zeros 255) 0) a3 cap3 := heap_alloc_new w3 _
  have hb3 : Below w3.heap.size w3 (w3.alloc (.cells #[.int .i64 5010, .string (zeros 255), .string ⟨#[]⟩, .string ⟨#[]⟩, .string ⟨#[]⟩, .string ⟨#[]⟩, .int .i64 0, .int .i64 0, .int .u64 0, .bool false, .bool false, .slice a3 0 cap3] 25)) := (Below.refl _ _).alloc (Nat.le_refl _) _
  have HE := Lib.hid ((HE.out.below hb).below hb3)
  have HM := Lib.hid hM
  have htb : Tb w3 a3 cap3 ((bnd 5010 .n (zeros 255) 0).args) := ⟨_, hs3⟩
  have hcap := htb.len.2
  have HCAP := Lib.hid hcap
  clear h hb hs3 ho3 hM hb3 hcb hcm htb hcap HL HBB
  go_wp2_with fail
  generalize hw4 : w3.alloc (.cells #[.int .i64 5010, .string (zeros 255), .string ⟨#[]⟩, .string ⟨#[]⟩, .string ⟨#[]⟩, .string ⟨#[]⟩, .int .i64 0, .int .i64 0, .int .u64 0, .bool false, .bool false, .slice a3 0 cap3] 25) = w4 at *
  obtain ⟨g3, hg3⟩ : ∃ g, g = w3.heap.size := ⟨_, rfl⟩
  rw [← hg3] at HM ⊢
  clear hg3 hw4
  refine (told_any _).mono ?_
  rintro e w5 ⟨rfl, hb⟩
  have HE := Lib.hid (HE.out.below hb)
  have HM := Lib.hid (HM.out.keep (hb.block _ HM.out.lt))
  obtain ⟨⟨c0, c1, c2, c3, c4, c5⟩, c6, c7, c8, c9, c10, c11⟩ := HE.out.at_.cells
  clear hb
  go_wp2_with fail
  refine (mayM_any (m := (bnd 5010 .n (zeros 255) 0)) (a := none) (cap := 0) (Tb.nil _ none (by decide)) HWF.out).mono ?_
  rintro e w6 ⟨r, hr, rfl, hb⟩
  obtain rfl : r = true := hr.2 HG.out.may
  have HE := Lib.hid (HE.out.below hb)
  have HM := Lib.hid (HM.out.keep (hb.block _ HM.out.lt))
  clear hb hr c0 c1 c2 c3 c4 c5 c6 c7 c8 c9 c10 c11
  obtain ⟨⟨c0, c1, c2, c3, c4, c5⟩, c6, c7, c8, c9, c10, c11⟩ := HE.out.at_.cells
  obtain ⟨⟨d0, d1, d2, d3, d4, d5⟩, d6, d7, d8, d9, d10, d11⟩ := HM.out.cells
  go_wp2_with fail
  refine (sameM_any (m := (bnd 5010 .n (zeros 255) 0)) (s := (bnd 5010 .n (zeros 255) 0)) (a := a3) (cap := cap3) (b := none) (cap' := 0) (fun r => r = true) (fun wx hbx => (same_two False (bs := []) (SlAt.nil wx a3 HCAP.out) (Tb.nil wx none (by decide)) (by simp [weigh]) (fun h => h.elim)).mono (by
    rintro e wy ⟨r, rfl, hby, hr, _⟩
    exact ⟨r, rfl, hby, hr rfl⟩))).mono ?_
  rintro e w7 ⟨r, rfl, hb, hr⟩
  obtain rfl : r = true := by
    rcases hr with ⟨_, h⟩ | ⟨h, _⟩
    · exact h
    · exact (h (HeadEq.refl _)).elim
  have HE := Lib.hid (HE.out.below hb)
  clear hb hr HM c0 c1 c2 c3 c4 c5 c6 c7 c8 c9 c10 c11 d0 d1 d2 d3 d4 d5 d6 d7 d8 d9 d10 d11
  go_wp2_with fail
  go_ret
  exact ⟨by first | rfl | (simp [*]; done), HE.out.bel⟩

set_option maxRecDepth 100000 in
set_option maxHeartbeats 8000000 in
theorem bnd0_1 {p0 q0 : Int} {w : World} (hq0 : IntKind.u64.wrap p0 = q0) (hj : q0.tmod 7 = 1) :
    Calls Try.prog 6 #[.int .i64 p0, .bool false] w fun e w' => e = .returned (.bool true) ∧ Below w.heap.size w w' := by
  have hmk : (Instr.makeSlice 26 (.int .i64 255) (.int .i64 255)).run Try.prog w = .ok (.slice (some ⟨w.heap.size, 0, none⟩) 255 255) (w.alloc (.cells (madeCells #[.int .u8 0] 255) 5)) := make_bytes 255 (by omega) w
  have hcv := conv_made (heap_alloc_new w (.cells (madeCells #[.int .u8 0] 255) 5))
  have hwj : IntKind.i64.wrap (1 : Int) = 1 := by decide
  have hs := zeros_size 255
  have hw7 : IntKind.u64.wrap 7 = 7 := by decide
  have h70 : ¬ (7 : Int) = 0 := by decide
  go_enter Try.func6, Try.ntmps6
  go_wp2_with fail
  have henv : BEnv w ((w.alloc (.cells (madeCells #[.int .u8 0] 255) 5)).alloc (.cells #[.int .i64 4010, .string ⟨#[]⟩, .string (zeros 255), .string ⟨#[]⟩, .string ⟨#[]⟩, .string ⟨#[]⟩, .int .i64 0, .int .i64 0, .int .u64 0, .bool false, .bool false, .slice none 0 0] 25)) (w.heap.size + 1) (bnd 4010 .y (zeros 255) 0) := ⟨alloc_new1 w _ _, alloc_two w _ _⟩
  have HE := Lib.hid henv
  have hwf := bnd_wf (id := 4010) (l := [.n, .y]) rfl .y (s := zeros 255) (n := 0) (by rw [hs]; omega) (by omega)
  have HWF := Lib.hid hwf
  have hgood := bnd_good (id := 4010) (l := [.n, .y]) rfl (p := .y) (by decide) hs
  have HG := Lib.hid hgood
  clear hmk hcv hwj hs hw7 h70 hq0 hj henv hwf hgood
  generalize (w.alloc (.cells (madeCells #[.int .u8 0] 255) 5)).alloc (.cells #[.int .i64 4010, .string ⟨#[]⟩, .string (zeros 255), .string ⟨#[]⟩, .string ⟨#[]⟩, .string ⟨#[]⟩, .int .i64 0, .int .i64 0, .int .u64 0, .bool false, .bool false, .slice none 0 0] 25) = w1 at *
  refine (putM_any (m := (bnd 4010 .y (zeros 255) 0)) (a := none) (cap := 0) (Tb.nil _ none (by decide)) HWF.out).mono ?_
  intro e w2 h
  obtain ⟨hb, gb, capb, rfl, -, hbb⟩ := put_good HG.out h
  have hlmax := putM_le HG.out
  have HE := Lib.hid (HE.out.below hb)
  have HBB := Lib.hid hbb
  have hcb := hbb.len
  have hcm := hbb.max
  unfold maxLen at hcm
  clear h hb hbb
  obtain ⟨N, hN⟩ : ∃ N, N = (putM (bnd 4010 .y (zeros 255) 0)).length := ⟨_, rfl⟩
  rw [← hN] at hlmax hcb ⊢
  have HL := Lib.hid hN
  clear hN
  go_wp2_with fail
  refine (getM_any (B := w2.heap.size) _ (putM (bnd 4010 .y (zeros 255) 0)) w2 (Nat.le_refl _) (by rw [HL.out]; exact HBB.out.in)).mono ?_
  intro e w3 h
  obtain ⟨hb, a3, cap3, bs3, he, hs3, ho3⟩ := get_good HG.out h
  replace he : e = .returned (.tuple #[.agg #[.int .i64 4010, .string ⟨#[]⟩, .string (zeros 255), .string ⟨#[]⟩, .string ⟨#[]⟩, .string ⟨#[]⟩, .int .i64 0, .int .i64 0, .int .u64 0, .bool false, .bool false, .slice a3 0 cap3], .int .i64 0]) := he
  subst he
  have hM : MeAt (w3.alloc (.cells #[.int .i64 4010, .string ⟨#[]⟩, .string (zeros 255), .string ⟨#[]⟩, .string ⟨#[]⟩, .string ⟨#[]⟩, .int .i64 0, .int .i64 0, .int .u64 0, .bool false, .bool false, .slice a3 0 cap3] 25)) w3.heap.size (bnd 4010 .y (zeros 255) 0) a3 cap3 := heap_alloc_new w3 _
  have hb3 : Below w3.heap.size w3 (w3.alloc (.cells #[.int .i64 4010, .string ⟨#[]⟩, .string (zeros 255), .string ⟨#[]⟩, .string ⟨#[]⟩, .string ⟨#[]⟩, .int .i64 0, .int .i64 0, .int .u64 0, .bool false, .bool false, .slice a3 0 cap3] 25)) := (Below.refl _ _).alloc (Nat.le_refl _) _
  have HE := Lib.hid ((HE.out.below hb).below hb3)
  have HM := Lib.hid hM
  have htb : Tb w3 a3 cap3 ((bnd 4010 .y (zeros 255) 0).args) := ⟨_, hs3⟩
  have hcap := htb.len.2
  have HCAP := Lib.hid hcap
  clear h hb hs3 ho3 hM hb3 hcb hcm htb hcap HL HBB
  go_wp2_with fail
  generalize hw4 : w3.alloc (.cells #[.int .i64 4010, .string ⟨#[]⟩, .string (zeros 255), .string ⟨#[]⟩, .string ⟨#[]⟩, .string ⟨#[]⟩, .int .i64 0, .int .i64 0, .int .u64 0, .bool false, .bool false, .slice a3 0 cap3] 25) = w4 at *
  obtain ⟨g3, hg3⟩ : ∃ g, g = w3.heap.size := ⟨_, rfl⟩
  rw [← hg3] at HM ⊢
  clear hg3 hw4
  refine (told_any _).mono ?_
  rintro e w5 ⟨rfl, hb⟩
  have HE := Lib.hid (HE.out.below hb)
  have HM := Lib.hid (HM.out.keep (hb.block _ HM.out.lt))
  obtain ⟨⟨c0, c1, c2, c3, c4, c5⟩, c6, c7, c8, c9, c10, c11⟩ := HE.out.at_.cells
  clear hb
  go_wp2_with fail
  refine (mayM_any (m := (bnd 4010 .y (zeros 255) 0)) (a := none) (cap := 0) (Tb.nil _ none (by decide)) HWF.out).mono ?_
  rintro e w6 ⟨r, hr, rfl, hb⟩
  obtain rfl : r = true := hr.2 HG.out.may
  have HE := Lib.hid (HE.out.below hb)
  have HM := Lib.hid (HM.out.keep (hb.block _ HM.out.lt))
  clear hb hr c0 c1 c2 c3 c4 c5 c6 c7 c8 c9 c10 c11
  obtain ⟨⟨c0, c1, c2, c3, c4, c5⟩, c6, c7, c8, c9, c10, c11⟩ := HE.out.at_.cells
  obtain ⟨⟨d0, d1, d2, d3, d4, d5⟩, d6, d7, d8, d9, d10, d11⟩ := HM.out.cells
  go_wp2_with fail
  refine (sameM_any (m := (bnd 4010 .y (zeros 255) 0)) (s := (bnd 4010 .y (zeros 255) 0)) (a := a3) (cap := cap3) (b := none) (cap' := 0) (fun r => r = true) (fun wx hbx => (same_two False (bs := []) (SlAt.nil wx a3 HCAP.out) (Tb.nil wx none (by decide)) (by simp [weigh]) (fun h => h.elim)).mono (by
    rintro e wy ⟨r, rfl, hby, hr, _⟩
    exact ⟨r, rfl, hby, hr rfl⟩))).mono ?_
  rintro e w7 ⟨r, rfl, hb, hr⟩
  obtain rfl : r = true := by
    rcases hr with ⟨_, h⟩ | ⟨h, _⟩
    · exact h
    · exact (h (HeadEq.refl _)).elim
  have HE := Lib.hid (HE.out.below hb)
  clear hb hr HM c0 c1 c2 c3 c4 c5 c6 c7 c8 c9 c10 c11 d0 d1 d2 d3 d4 d5 d6 d7 d8 d9 d10 d11
  go_wp2_with fail
  go_ret
  exact ⟨by first | rfl | (simp [*]; done), HE.out.bel⟩

set_option maxRecDepth 100000 in
set_option maxHeartbeats 8000000 in
theorem bnd0_2 {p0 q0 : Int} {w : World} (hq0 : IntKind.u64.wrap p0 = q0) (hj : q0.tmod 7 = 2) :
    Calls Try.prog 6 #[.int .i64 p0, .bool false] w fun e w' => e = .returned (.bool true) ∧ Below w.heap.size w w' := by
  have hmk : (Instr.makeSlice 26 (.int .i64 255) (.int .i64 255)).run Try.prog w = .ok (.slice (some ⟨w.heap.size, 0, none⟩) 255 255) (w.alloc (.cells (madeCells #[.int .u8 0] 255) 5)) := make_bytes 255 (by omega) w
  have hcv := conv_made (heap_alloc_new w (.cells (madeCells #[.int .u8 0] 255) 5))
  have hwj : IntKind.i64.wrap (2 : Int) = 2 := by decide
  have hs := zeros_size 255
  have hw7 : IntKind.u64.wrap 7 = 7 := by decide
  have h70 : ¬ (7 : Int) = 0 := by decide
  go_enter Try.func6, Try.ntmps6
  go_wp2_with fail
  have henv : BEnv w ((w.alloc (.cells (madeCells #[.int .u8 0] 255) 5)).alloc (.cells #[.int .i64 6040, .string ⟨#[]⟩, .string ⟨#[]⟩, .string (zeros 255), .string ⟨#[]⟩, .string ⟨#[]⟩, .int .i64 0, .int .i64 0, .int .u64 0, .bool false, .bool false, .slice none 0 0] 25)) (w.heap.size + 1) (bnd 6040 .e (zeros 255) 0) := ⟨alloc_new1 w _ _, alloc_two w _ _⟩
  have HE := Lib.hid henv
  have hwf := bnd_wf (id := 6040) (l := [.e, .k, .f]) rfl .e (s := zeros 255) (n := 0) (by rw [hs]; omega) (by omega)
  have HWF := Lib.hid hwf
  have hgood := bnd_good (id := 6040) (l := [.e, .k, .f]) rfl (p := .e) (by decide) hs
  have HG := Lib.hid hgood
  clear hmk hcv hwj hs hw7 h70 hq0 hj henv hwf hgood
  generalize (w.alloc (.cells (madeCells #[.int .u8 0] 255) 5)).alloc (.cells #[.int .i64 6040, .string ⟨#[]⟩, .string ⟨#[]⟩, .string (zeros 255), .string ⟨#[]⟩, .string ⟨#[]⟩, .int .i64 0, .int .i64 0, .int .u64 0, .bool false, .bool false, .slice none 0 0] 25) = w1 at *
  refine (putM_any (m := (bnd 6040 .e (zeros 255) 0)) (a := none) (cap := 0) (Tb.nil _ none (by decide)) HWF.out).mono ?_
  intro e w2 h
  obtain ⟨hb, gb, capb, rfl, -, hbb⟩ := put_good HG.out h
  have hlmax := putM_le HG.out
  have HE := Lib.hid (HE.out.below hb)
  have HBB := Lib.hid hbb
  have hcb := hbb.len
  have hcm := hbb.max
  unfold maxLen at hcm
  clear h hb hbb
  obtain ⟨N, hN⟩ : ∃ N, N = (putM (bnd 6040 .e (zeros 255) 0)).length := ⟨_, rfl⟩
  rw [← hN] at hlmax hcb ⊢
  have HL := Lib.hid hN
  clear hN
  go_wp2_with fail
  refine (getM_any (B := w2.heap.size) _ (putM (bnd 6040 .e (zeros 255) 0)) w2 (Nat.le_refl _) (by rw [HL.out]; exact HBB.out.in)).mono ?_
  intro e w3 h
  obtain ⟨hb, a3, cap3, bs3, he, hs3, ho3⟩ := get_good HG.out h
  replace he : e = .returned (.tuple #[.agg #[.int .i64 6040, .string ⟨#[]⟩, .string ⟨#[]⟩, .string (zeros 255), .string ⟨#[]⟩, .string ⟨#[]⟩, .int .i64 0, .int .i64 0, .int .u64 0, .bool false, .bool false, .slice a3 0 cap3], .int .i64 0]) := he
  subst he
  have hM : MeAt (w3.alloc (.cells #[.int .i64 6040, .string ⟨#[]⟩, .string ⟨#[]⟩, .string (zeros 255), .string ⟨#[]⟩, .string ⟨#[]⟩, .int .i64 0, .int .i64 0, .int .u64 0, .bool false, .bool false, .slice a3 0 cap3] 25)) w3.heap.size (bnd 6040 .e (zeros 255) 0) a3 cap3 := heap_alloc_new w3 _
  have hb3 : Below w3.heap.size w3 (w3.alloc (.cells #[.int .i64 6040, .string ⟨#[]⟩, .string ⟨#[]⟩, .string (zeros 255), .string ⟨#[]⟩, .string ⟨#[]⟩, .int .i64 0, .int .i64 0, .int .u64 0, .bool false, .bool false, .slice a3 0 cap3] 25)) := (Below.refl _ _).alloc (Nat.le_refl _) _
  have HE := Lib.hid ((HE.out.below hb).below hb3)
  have HM := Lib.hid hM
  have htb : Tb w3 a3 cap3 ((bnd 6040 .e (zeros 255) 0).args) := ⟨_, hs3⟩
  have hcap := htb.len.2
  have HCAP := Lib.hid hcap
  clear h hb hs3 ho3 hM hb3 hcb hcm htb hcap HL HBB
  go_wp2_with fail
  generalize hw4 : w3.alloc (.cells #[.int .i64 6040, .string ⟨#[]⟩, .string ⟨#[]⟩, .string (zeros 255), .string ⟨#[]⟩, .string ⟨#[]⟩, .int .i64 0, .int .i64 0, .int .u64 0, .bool false, .bool false, .slice a3 0 cap3] 25) = w4 at *
  obtain ⟨g3, hg3⟩ : ∃ g, g = w3.heap.size := ⟨_, rfl⟩
  rw [← hg3] at HM ⊢
  clear hg3 hw4
  refine (told_any _).mono ?_
  rintro e w5 ⟨rfl, hb⟩
  have HE := Lib.hid (HE.out.below hb)
  have HM := Lib.hid (HM.out.keep (hb.block _ HM.out.lt))
  obtain ⟨⟨c0, c1, c2, c3, c4, c5⟩, c6, c7, c8, c9, c10, c11⟩ := HE.out.at_.cells
  clear hb
  go_wp2_with fail
  refine (mayM_any (m := (bnd 6040 .e (zeros 255) 0)) (a := none) (cap := 0) (Tb.nil _ none (by decide)) HWF.out).mono ?_
  rintro e w6 ⟨r, hr, rfl, hb⟩
  obtain rfl : r = true := hr.2 HG.out.may
  have HE := Lib.hid (HE.out.below hb)
  have HM := Lib.hid (HM.out.keep (hb.block _ HM.out.lt))
  clear hb hr c0 c1 c2 c3 c4 c5 c6 c7 c8 c9 c10 c11
  obtain ⟨⟨c0, c1, c2, c3, c4, c5⟩, c6, c7, c8, c9, c10, c11⟩ := HE.out.at_.cells
  obtain ⟨⟨d0, d1, d2, d3, d4, d5⟩, d6, d7, d8, d9, d10, d11⟩ := HM.out.cells
  go_wp2_with fail
  refine (sameM_any (m := (bnd 6040 .e (zeros 255) 0)) (s := (bnd 6040 .e (zeros 255) 0)) (a := a3) (cap := cap3) (b := none) (cap' := 0) (fun r => r = true) (fun wx hbx => (same_two False (bs := []) (SlAt.nil wx a3 HCAP.out) (Tb.nil wx none (by decide)) (by simp [weigh]) (fun h => h.elim)).mono (by
    rintro e wy ⟨r, rfl, hby, hr, _⟩
    exact ⟨r, rfl, hby, hr rfl⟩))).mono ?_
  rintro e w7 ⟨r, rfl, hb, hr⟩
  obtain rfl : r = true := by
    rcases hr with ⟨_, h⟩ | ⟨h, _⟩
    · exact h
    · exact (h (HeadEq.refl _)).elim
  have HE := Lib.hid (HE.out.below hb)
  clear hb hr HM c0 c1 c2 c3 c4 c5 c6 c7 c8 c9 c10 c11 d0 d1 d2 d3 d4 d5 d6 d7 d8 d9 d10 d11
  go_wp2_with fail
  go_ret
  exact ⟨by first | rfl | (simp [*]; done), HE.out.bel⟩

set_option maxRecDepth 100000 in
set_option maxHeartbeats 8000000 in
theorem bnd0_3 {p0 q0 : Int} {w : World} (hq0 : IntKind.u64.wrap p0 = q0) (hj : q0.tmod 7 = 3) :
    Calls Try.prog 6 #[.int .i64 p0, .bool false] w fun e w' => e = .returned (.bool true) ∧ Below w.heap.size w w' := by
  have hmk : (Instr.makeSlice 26 (.int .i64 255) (.int .i64 255)).run Try.prog w = .ok (.slice (some ⟨w.heap.size, 0, none⟩) 255 255) (w.alloc (.cells (madeCells #[.int .u8 0] 255) 5)) := make_bytes 255 (by omega) w
  have hcv := conv_made (heap_alloc_new w (.cells (madeCells #[.int .u8 0] 255) 5))
  have hwj : IntKind.i64.wrap (3 : Int) = 3 := by decide
  have hs := zeros_size 255
  have hw7 : IntKind.u64.wrap 7 = 7 := by decide
  have h70 : ¬ (7 : Int) = 0 := by decide
  go_enter Try.func6, Try.ntmps6
  go_wp2_with fail
  have henv : BEnv w ((w.alloc (.cells (madeCells #[.int .u8 0] 255) 5)).alloc (.cells #[.int .i64 6040, .string ⟨#[]⟩, .string ⟨#[]⟩, .string ⟨#[]⟩, .string (zeros 255), .string ⟨#[]⟩, .int .i64 0, .int .i64 0, .int .u64 0, .bool false, .bool false, .slice none 0 0] 25)) (w.heap.size + 1) (bnd 6040 .k (zeros 255) 0) := ⟨alloc_new1 w _ _, alloc_two w _ _⟩
  have HE := Lib.hid henv
  have hwf := bnd_wf (id := 6040) (l := [.e, .k, .f]) rfl .k (s := zeros 255) (n := 0) (by rw [hs]; omega) (by omega)
  have HWF := Lib.hid hwf
  have hgood := bnd_good (id := 6040) (l := [.e, .k, .f]) rfl (p := .k) (by decide) hs
  have HG := Lib.hid hgood
  clear hmk hcv hwj hs hw7 h70 hq0 hj henv hwf hgood
  generalize (w.alloc (.cells (madeCells #[.int .u8 0] 255) 5)).alloc (.cells #[.int .i64 6040, .string ⟨#[]⟩, .string ⟨#[]⟩, .string ⟨#[]⟩, .string (zeros 255), .string ⟨#[]⟩, .int .i64 0, .int .i64 0, .int .u64 0, .bool false, .bool false, .slice none 0 0] 25) = w1 at *
  refine (putM_any (m := (bnd 6040 .k (zeros 255) 0)) (a := none) (cap := 0) (Tb.nil _ none (by decide)) HWF.out).mono ?_
  intro e w2 h
  obtain ⟨hb, gb, capb, rfl, -, hbb⟩ := put_good HG.out h
  have hlmax := putM_le HG.out
  have HE := Lib.hid (HE.out.below hb)
  have HBB := Lib.hid hbb
  have hcb := hbb.len
  have hcm := hbb.max
  unfold maxLen at hcm
  clear h hb hbb
  obtain ⟨N, hN⟩ : ∃ N, N = (putM (bnd 6040 .k (zeros 255) 0)).length := ⟨_, rfl⟩
  rw [← hN] at hlmax hcb ⊢
  have HL := Lib.hid hN
  clear hN
  go_wp2_with fail
  refine (getM_any (B := w2.heap.size) _ (putM (bnd 6040 .k (zeros 255) 0)) w2 (Nat.le_refl _) (by rw [HL.out]; exact HBB.out.in)).mono ?_
  intro e w3 h
  obtain ⟨hb, a3, cap3, bs3, he, hs3, ho3⟩ := get_good HG.out h
  replace he : e = .returned (.tuple #[.agg #[.int .i64 6040, .string ⟨#[]⟩, .string ⟨#[]⟩, .string ⟨#[]⟩, .string (zeros 255), .string ⟨#[]⟩, .int .i64 0, .int .i64 0, .int .u64 0, .bool false, .bool false, .slice a3 0 cap3], .int .i64 0]) := he
  subst he
  have hM : MeAt (w3.alloc (.cells #[.int .i64 6040, .string ⟨#[]⟩, .string ⟨#[]⟩, .string ⟨#[]⟩, .string (zeros 255), .string ⟨#[]⟩, .int .i64 0, .int .i64 0, .int .u64 0, .bool false, .bool false, .slice a3 0 cap3] 25)) w3.heap.size (bnd 6040 .k (zeros 255) 0) a3 cap3 := heap_alloc_new w3 _
  have hb3 : Below w3.heap.size w3 (w3.alloc (.cells #[.int .i64 6040, .string ⟨#[]⟩, .string ⟨#[]⟩, .string ⟨#[]⟩, .string (zeros 255), .string ⟨#[]⟩, .int .i64 0, .int .i64 0, .int .u64 0, .bool false, .bool false, .slice a3 0 cap3] 25)) := (Below.refl _ _).alloc (Nat.le_refl _) _
  have HE := Lib.hid ((HE.out.below hb).below hb3)
  have HM := Lib.hid hM
  have htb : Tb w3 a3 cap3 ((bnd 6040 .k (zeros 255) 0).args) := ⟨_, hs3⟩
  have hcap := htb.len.2
  have HCAP := Lib.hid hcap
  clear h hb hs3 ho3 hM hb3 hcb hcm htb hcap HL HBB
  go_wp2_with fail
  generalize hw4 : w3.alloc (.cells #[.int .i64 6040, .string ⟨#[]⟩, .string ⟨#[]⟩, .string ⟨#[]⟩, .string (zeros 255), .string ⟨#[]⟩, .int .i64 0, .int .i64 0, .int .u64 0, .bool false, .bool false, .slice a3 0 cap3] 25) = w4 at *
  obtain ⟨g3, hg3⟩ : ∃ g, g = w3.heap.size := ⟨_, rfl⟩
  rw [← hg3] at HM ⊢
  clear hg3 hw4
  refine (told_any _).mono ?_
  rintro e w5 ⟨rfl, hb⟩
  have HE := Lib.hid (HE.out.below hb)
  have HM := Lib.hid (HM.out.keep (hb.block _ HM.out.lt))
  obtain ⟨⟨c0, c1, c2, c3, c4, c5⟩, c6, c7, c8, c9, c10, c11⟩ := HE.out.at_.cells
  clear hb
  go_wp2_with fail
  refine (mayM_any (m := (bnd 6040 .k (zeros 255) 0)) (a := none) (cap := 0) (Tb.nil _ none (by decide)) HWF.out).mono ?_
  rintro e w6 ⟨r, hr, rfl, hb⟩
  obtain rfl : r = true := hr.2 HG.out.may
  have HE := Lib.hid (HE.out.below hb)
  have HM := Lib.hid (HM.out.keep (hb.block _ HM.out.lt))
  clear hb hr c0 c1 c2 c3 c4 c5 c6 c7 c8 c9 c10 c11
  obtain ⟨⟨c0, c1, c2, c3, c4, c5⟩, c6, c7, c8, c9, c10, c11⟩ := HE.out.at_.cells
  obtain ⟨⟨d0, d1, d2, d3, d4, d5⟩, d6, d7, d8, d9, d10, d11⟩ := HM.out.cells
  go_wp2_with fail
  refine (sameM_any (m := (bnd 6040 .k (zeros 255) 0)) (s := (bnd 6040 .k (zeros 255) 0)) (a := a3) (cap := cap3) (b := none) (cap' := 0) (fun r => r = true) (fun wx hbx => (same_two False (bs := []) (SlAt.nil wx a3 HCAP.out) (Tb.nil wx none (by decide)) (by simp [weigh]) (fun h => h.elim)).mono (by
    rintro e wy ⟨r, rfl, hby, hr, _⟩
    exact ⟨r, rfl, hby, hr rfl⟩))).mono ?_
  rintro e w7 ⟨r, rfl, hb, hr⟩
  obtain rfl : r = true := by
    rcases hr with ⟨_, h⟩ | ⟨h, _⟩
    · exact h
    · exact (h (HeadEq.refl _)).elim
  have HE := Lib.hid (HE.out.below hb)
  clear hb hr HM c0 c1 c2 c3 c4 c5 c6 c7 c8 c9 c10 c11 d0 d1 d2 d3 d4 d5 d6 d7 d8 d9 d10 d11
  go_wp2_with fail
  go_ret
  exact ⟨by first | rfl | (simp [*]; done), HE.out.bel⟩

set_option maxRecDepth 100000 in
set_option maxHeartbeats 8000000 in
theorem bnd0_4 {p0 q0 : Int} {w : World} (hq0 : IntKind.u64.wrap p0 = q0) (hj : q0.tmod 7 = 4) :
    Calls Try.prog 6 #[.int .i64 p0, .bool false] w fun e w' => e = .returned (.bool true) ∧ Below w.heap.size w w' := by
  have hmk : (Instr.makeSlice 26 (.int .i64 255) (.int .i64 255)).run Try.prog w = .ok (.slice (some ⟨w.heap.size, 0, none⟩) 255 255) (w.alloc (.cells (madeCells #[.int .u8 0] 255) 5)) := make_bytes 255 (by omega) w
  have hcv := conv_made (heap_alloc_new w (.cells (madeCells #[.int .u8 0] 255) 5))
  have hwj : IntKind.i64.wrap (4 : Int) = 4 := by decide
  have hs := zeros_size 255
  have hw7 : IntKind.u64.wrap 7 = 7 := by decide
  have h70 : ¬ (7 : Int) = 0 := by decide
  go_enter Try.func6, Try.ntmps6
  go_wp2_with fail
  have henv : BEnv w ((w.alloc (.cells (madeCells #[.int .u8 0] 255) 5)).alloc (.cells #[.int .i64 6021, .string ⟨#[]⟩, .string ⟨#[]⟩, .string ⟨#[]⟩, .string ⟨#[]⟩, .string (zeros 255), .int .i64 0, .int .i64 0, .int .u64 0, .bool false, .bool false, .slice none 0 0] 25)) (w.heap.size + 1) (bnd 6021 .x (zeros 255) 0) := ⟨alloc_new1 w _ _, alloc_two w _ _⟩
  have HE := Lib.hid henv
  have hwf := bnd_wf (id := 6021) (l := [.x]) rfl .x (s := zeros 255) (n := 0) (by rw [hs]; omega) (by omega)
  have HWF := Lib.hid hwf
  have hgood := bnd_good (id := 6021) (l := [.x]) rfl (p := .x) (by decide) hs
  have HG := Lib.hid hgood
  clear hmk hcv hwj hs hw7 h70 hq0 hj henv hwf hgood
  generalize (w.alloc (.cells (madeCells #[.int .u8 0] 255) 5)).alloc (.cells #[.int .i64 6021, .string ⟨#[]⟩, .string ⟨#[]⟩, .string ⟨#[]⟩, .string ⟨#[]⟩, .string (zeros 255), .int .i64 0, .int .i64 0, .int .u64 0, .bool false, .bool false, .slice none 0 0] 25) = w1 at *
  refine (putM_any (m := (bnd 6021 .x (zeros 255) 0)) (a := none) (cap := 0) (Tb.nil _ none (by decide)) HWF.out).mono ?_
  intro e w2 h
  obtain ⟨hb, gb, capb, rfl, -, hbb⟩ := put_good HG.out h
  have hlmax := putM_le HG.out
  have HE := Lib.hid (HE.out.below hb)
  have HBB := Lib.hid hbb
  have hcb := hbb.len
  have hcm := hbb.max
  unfold maxLen at hcm
  clear h hb hbb
  obtain ⟨N, hN⟩ : ∃ N, N = (putM (bnd 6021 .x (zeros 255) 0)).length := ⟨_, rfl⟩
  rw [← hN] at hlmax hcb ⊢
  have HL := Lib.hid hN
  clear hN
  go_wp2_with fail
  refine (getM_any (B := w2.heap.size) _ (putM (bnd 6021 .x (zeros 255) 0)) w2 (Nat.le_refl _) (by rw [HL.out]; exact HBB.out.in)).mono ?_
  intro e w3 h
  obtain ⟨hb, a3, cap3, bs3, he, hs3, ho3⟩ := get_good HG.out h
  replace he : e = .returned (.tuple #[.agg #[.int .i64 6021, .string ⟨#[]⟩, .string ⟨#[]⟩, .string ⟨#[]⟩, .string ⟨#[]⟩, .string (zeros 255), .int .i64 0, .int .i64 0, .int .u64 0, .bool false, .bool false, .slice a3 0 cap3], .int .i64 0]) := he
  subst he
  have hM : MeAt (w3.alloc (.cells #[.int .i64 6021, .string ⟨#[]⟩, .string ⟨#[]⟩, .string ⟨#[]⟩, .string ⟨#[]⟩, .string (zeros 255), .int .i64 0, .int .i64 0, .int .u64 0, .bool false, .bool false, .slice a3 0 cap3] 25)) w3.heap.size (bnd 6021 .x (zeros 255) 0) a3 cap3 := heap_alloc_new w3 _
  have hb3 : Below w3.heap.size w3 (w3.alloc (.cells #[.int .i64 6021, .string ⟨#[]⟩, .string ⟨#[]⟩, .string ⟨#[]⟩, .string ⟨#[]⟩, .string (zeros 255), .int .i64 0, .int .i64 0, .int .u64 0, .bool false, .bool false, .slice a3 0 cap3] 25)) := (Below.refl _ _).alloc (Nat.le_refl _) _
  have HE := Lib.hid ((HE.out.below hb).below hb3)
  have HM := Lib.hid hM
  have htb : Tb w3 a3 cap3 ((bnd 6021 .x (zeros 255) 0).args) := ⟨_, hs3⟩
  have hcap := htb.len.2
  have HCAP := Lib.hid hcap
  clear h hb hs3 ho3 hM hb3 hcb hcm htb hcap HL HBB
  go_wp2_with fail
  generalize hw4 : w3.alloc (.cells #[.int .i64 6021, .string ⟨#[]⟩, .string ⟨#[]⟩, .string ⟨#[]⟩, .string ⟨#[]⟩, .string (zeros 255), .int .i64 0, .int .i64 0, .int .u64 0, .bool false, .bool false, .slice a3 0 cap3] 25) = w4 at *
  obtain ⟨g3, hg3⟩ : ∃ g, g = w3.heap.size := ⟨_, rfl⟩
  rw [← hg3] at HM ⊢
  clear hg3 hw4
  refine (told_any _).mono ?_
  rintro e w5 ⟨rfl, hb⟩
  have HE := Lib.hid (HE.out.below hb)
  have HM := Lib.hid (HM.out.keep (hb.block _ HM.out.lt))
  obtain ⟨⟨c0, c1, c2, c3, c4, c5⟩, c6, c7, c8, c9, c10, c11⟩ := HE.out.at_.cells
  clear hb
  go_wp2_with fail
  refine (mayM_any (m := (bnd 6021 .x (zeros 255) 0)) (a := none) (cap := 0) (Tb.nil _ none (by decide)) HWF.out).mono ?_
  rintro e w6 ⟨r, hr, rfl, hb⟩
  obtain rfl : r = true := hr.2 HG.out.may
  have HE := Lib.hid (HE.out.below hb)
  have HM := Lib.hid (HM.out.keep (hb.block _ HM.out.lt))
  clear hb hr c0 c1 c2 c3 c4 c5 c6 c7 c8 c9 c10 c11
  obtain ⟨⟨c0, c1, c2, c3, c4, c5⟩, c6, c7, c8, c9, c10, c11⟩ := HE.out.at_.cells
  obtain ⟨⟨d0, d1, d2, d3, d4, d5⟩, d6, d7, d8, d9, d10, d11⟩ := HM.out.cells
  go_wp2_with fail
  refine (sameM_any (m := (bnd 6021 .x (zeros 255) 0)) (s := (bnd 6021 .x (zeros 255) 0)) (a := a3) (cap := cap3) (b := none) (cap' := 0) (fun r => r = true) (fun wx hbx => (same_two False (bs := []) (SlAt.nil wx a3 HCAP.out) (Tb.nil wx none (by decide)) (by simp [weigh]) (fun h => h.elim)).mono (by
    rintro e wy ⟨r, rfl, hby, hr, _⟩
    exact ⟨r, rfl, hby, hr rfl⟩))).mono ?_
  rintro e w7 ⟨r, rfl, hb, hr⟩
  obtain rfl : r = true := by
    rcases hr with ⟨_, h⟩ | ⟨h, _⟩
    · exact h
    · exact (h (HeadEq.refl _)).elim
  have HE := Lib.hid (HE.out.below hb)
  clear hb hr HM c0 c1 c2 c3 c4 c5 c6 c7 c8 c9 c10 c11 d0 d1 d2 d3 d4 d5 d6 d7 d8 d9 d10 d11
  go_wp2_with fail
  go_ret
  exact ⟨by first | rfl | (simp [*]; done), HE.out.bel⟩

set_option maxRecDepth 100000 in
set_option maxHeartbeats 8000000 in
theorem bnd0_5 {p0 q0 : Int} {w : World} (hq0 : IntKind.u64.wrap p0 = q0) (hj : q0.tmod 7 = 5) :
    Calls Try.prog 6 #[.int .i64 p0, .bool false] w fun e w' => e = .returned (.bool true) ∧ Below w.heap.size w w' := by
  have hmk : (Instr.makeSlice 26 (.int .i64 255) (.int .i64 255)).run Try.prog w = .ok (.slice (some ⟨w.heap.size, 0, none⟩) 255 255) (w.alloc (.cells (madeCells #[.int .u8 0] 255) 5)) := make_bytes 255 (by omega) w
  have hcv := conv_made (heap_alloc_new w (.cells (madeCells #[.int .u8 0] 255) 5))
  have hwj : IntKind.i64.wrap (5 : Int) = 5 := by decide
  have hs := zeros_size 255
  have hw7 : IntKind.u64.wrap 7 = 7 := by decide
  have h70 : ¬ (7 : Int) = 0 := by decide
  go_enter Try.func6, Try.ntmps6
  go_wp2_with fail
  have henv : BEnv w ((w.alloc (.cells (madeCells #[.int .u8 0] 255) 5)).alloc (.cells #[.int .i64 2040, .string ⟨#[]⟩, .string ⟨#[]⟩, .string ⟨#[]⟩, .string ⟨#[]⟩, .string ⟨#[]⟩, .int .i64 65535, .int .i64 0, .int .u64 0, .bool false, .bool false, .slice none 0 0] 25)) (w.heap.size + 1) (bnd 2040 .c (zeros 255) 0) := ⟨alloc_new1 w _ _, alloc_two w _ _⟩
  have HE := Lib.hid henv
  have hwf := bnd_wf (id := 2040) (l := [.c, .x]) rfl .c (s := zeros 255) (n := 0) (by rw [hs]; omega) (by omega)
  have HWF := Lib.hid hwf
  have hgood := bnd_good (id := 2040) (l := [.c, .x]) rfl (p := .c) (by decide) hs
  have HG := Lib.hid hgood
  clear hmk hcv hwj hs hw7 h70 hq0 hj henv hwf hgood
  generalize (w.alloc (.cells (madeCells #[.int .u8 0] 255) 5)).alloc (.cells #[.int .i64 2040, .string ⟨#[]⟩, .string ⟨#[]⟩, .string ⟨#[]⟩, .string ⟨#[]⟩, .string ⟨#[]⟩, .int .i64 65535, .int .i64 0, .int .u64 0, .bool false, .bool false, .slice none 0 0] 25) = w1 at *
  refine (putM_any (m := (bnd 2040 .c (zeros 255) 0)) (a := none) (cap := 0) (Tb.nil _ none (by decide)) HWF.out).mono ?_
  intro e w2 h
  obtain ⟨hb, gb, capb, rfl, -, hbb⟩ := put_good HG.out h
  have hlmax := putM_le HG.out
  have HE := Lib.hid (HE.out.below hb)
  have HBB := Lib.hid hbb
  have hcb := hbb.len
  have hcm := hbb.max
  unfold maxLen at hcm
  clear h hb hbb
  obtain ⟨N, hN⟩ : ∃ N, N = (putM (bnd 2040 .c (zeros 255) 0)).length := ⟨_, rfl⟩
  rw [← hN] at hlmax hcb ⊢
  have HL := Lib.hid hN
  clear hN
  go_wp2_with fail
  refine (getM_any (B := w2.heap.size) _ (putM (bnd 2040 .c (zeros 255) 0)) w2 (Nat.le_refl _) (by rw [HL.out]; exact HBB.out.in)).mono ?_
  intro e w3 h
  obtain ⟨hb, a3, cap3, bs3, he, hs3, ho3⟩ := get_good HG.out h
  replace he : e = .returned (.tuple #[.agg #[.int .i64 2040, .string ⟨#[]⟩, .string ⟨#[]⟩, .string ⟨#[]⟩, .string ⟨#[]⟩, .string ⟨#[]⟩, .int .i64 65535, .int .i64 0, .int .u64 0, .bool false, .bool false, .slice a3 0 cap3], .int .i64 0]) := he
  subst he
  have hM : MeAt (w3.alloc (.cells #[.int .i64 2040, .string ⟨#[]⟩, .string ⟨#[]⟩, .string ⟨#[]⟩, .string ⟨#[]⟩, .string ⟨#[]⟩, .int .i64 65535, .int .i64 0, .int .u64 0, .bool false, .bool false, .slice a3 0 cap3] 25)) w3.heap.size (bnd 2040 .c (zeros 255) 0) a3 cap3 := heap_alloc_new w3 _
  have hb3 : Below w3.heap.size w3 (w3.alloc (.cells #[.int .i64 2040, .string ⟨#[]⟩, .string ⟨#[]⟩, .string ⟨#[]⟩, .string ⟨#[]⟩, .string ⟨#[]⟩, .int .i64 65535, .int .i64 0, .int .u64 0, .bool false, .bool false, .slice a3 0 cap3] 25)) := (Below.refl _ _).alloc (Nat.le_refl _) _
  have HE := Lib.hid ((HE.out.below hb).below hb3)
  have HM := Lib.hid hM
  have htb : Tb w3 a3 cap3 ((bnd 2040 .c (zeros 255) 0).args) := ⟨_, hs3⟩
  have hcap := htb.len.2
  have HCAP := Lib.hid hcap
  clear h hb hs3 ho3 hM hb3 hcb hcm htb hcap HL HBB
  go_wp2_with fail
  generalize hw4 : w3.alloc (.cells #[.int .i64 2040, .string ⟨#[]⟩, .string ⟨#[]⟩, .string ⟨#[]⟩, .string ⟨#[]⟩, .string ⟨#[]⟩, .int .i64 65535, .int .i64 0, .int .u64 0, .bool false, .bool false, .slice a3 0 cap3] 25) = w4 at *
  obtain ⟨g3, hg3⟩ : ∃ g, g = w3.heap.size := ⟨_, rfl⟩
  rw [← hg3] at HM ⊢
  clear hg3 hw4
  refine (told_any _).mono ?_
  rintro e w5 ⟨rfl, hb⟩
  have HE := Lib.hid (HE.out.below hb)
  have HM := Lib.hid (HM.out.keep (hb.block _ HM.out.lt))
  obtain ⟨⟨c0, c1, c2, c3, c4, c5⟩, c6, c7, c8, c9, c10, c11⟩ := HE.out.at_.cells
  clear hb
  go_wp2_with fail
  refine (mayM_any (m := (bnd 2040 .c (zeros 255) 0)) (a := none) (cap := 0) (Tb.nil _ none (by decide)) HWF.out).mono ?_
  rintro e w6 ⟨r, hr, rfl, hb⟩
  obtain rfl : r = true := hr.2 HG.out.may
  have HE := Lib.hid (HE.out.below hb)
  have HM := Lib.hid (HM.out.keep (hb.block _ HM.out.lt))
  clear hb hr c0 c1 c2 c3 c4 c5 c6 c7 c8 c9 c10 c11
  obtain ⟨⟨c0, c1, c2, c3, c4, c5⟩, c6, c7, c8, c9, c10, c11⟩ := HE.out.at_.cells
  obtain ⟨⟨d0, d1, d2, d3, d4, d5⟩, d6, d7, d8, d9, d10, d11⟩ := HM.out.cells
  go_wp2_with fail
  refine (sameM_any (m := (bnd 2040 .c (zeros 255) 0)) (s := (bnd 2040 .c (zeros 255) 0)) (a := a3) (cap := cap3) (b := none) (cap' := 0) (fun r => r = true) (fun wx hbx => (same_two False (bs := []) (SlAt.nil wx a3 HCAP.out) (Tb.nil wx none (by decide)) (by simp [weigh]) (fun h => h.elim)).mono (by
    rintro e wy ⟨r, rfl, hby, hr, _⟩
    exact ⟨r, rfl, hby, hr rfl⟩))).mono ?_
  rintro e w7 ⟨r, rfl, hb, hr⟩
  obtain rfl : r = true := by
    rcases hr with ⟨_, h⟩ | ⟨h, _⟩
    · exact h
    · exact (h (HeadEq.refl _)).elim
  have HE := Lib.hid (HE.out.below hb)
  clear hb hr HM c0 c1 c2 c3 c4 c5 c6 c7 c8 c9 c10 c11 d0 d1 d2 d3 d4 d5 d6 d7 d8 d9 d10 d11
  go_wp2_with fail
  go_ret
  exact ⟨by first | rfl | (simp [*]; done), HE.out.bel⟩

set_option maxRecDepth 100000 in
set_option maxHeartbeats 8000000 in
theorem bnd0_6 {p0 q0 : Int} {w : World} (hq0 : IntKind.u64.wrap p0 = q0) (hj : q0.tmod 7 = 6) :
    Calls Try.prog 6 #[.int .i64 p0, .bool false] w fun e w' => e = .returned (.bool true) ∧ Below w.heap.size w w' := by
  have hmk : (Instr.makeSlice 26 (.int .i64 255) (.int .i64 255)).run Try.prog w = .ok (.slice (some ⟨w.heap.size, 0, none⟩) 255 255) (w.alloc (.cells (madeCells #[.int .u8 0] 255) 5)) := make_bytes 255 (by omega) w
  have hcv := conv_made (heap_alloc_new w (.cells (madeCells #[.int .u8 0] 255) 5))
  have hwj : IntKind.i64.wrap (6 : Int) = 6 := by decide
  have hs := zeros_size 255
  have hw7 : IntKind.u64.wrap 7 = 7 := by decide
  have h70 : ¬ (7 : Int) = 0 := by decide
  go_enter Try.func6, Try.ntmps6
  go_wp2_with fail
  have henv : BEnv w ((w.alloc (.cells (madeCells #[.int .u8 0] 255) 5)).alloc (.cells #[.int .i64 6010, .string ⟨#[]⟩, .string ⟨#[]⟩, .string ⟨#[]⟩, .string ⟨#[]⟩, .string ⟨#[]⟩, .int .i64 0, .int .i64 4294967295, .int .u64 0, .bool false, .bool false, .slice none 0 0] 25)) (w.heap.size + 1) (bnd 6010 .u (zeros 255) 0) := ⟨alloc_new1 w _ _, alloc_two w _ _⟩
  have HE := Lib.hid henv
  have hwf := bnd_wf (id := 6010) (l := [.u]) rfl .u (s := zeros 255) (n := 0) (by rw [hs]; omega) (by omega)
  have HWF := Lib.hid hwf
  have hgood := bnd_good (id := 6010) (l := [.u]) rfl (p := .u) (by decide) hs
  have HG := Lib.hid hgood
  clear hmk hcv hwj hs hw7 h70 hq0 hj henv hwf hgood
  generalize (w.alloc (.cells (madeCells #[.int .u8 0] 255) 5)).alloc (.cells #[.int .i64 6010, .string ⟨#[]⟩, .string ⟨#[]⟩, .string ⟨#[]⟩, .string ⟨#[]⟩, .string ⟨#[]⟩, .int .i64 0, .int .i64 4294967295, .int .u64 0, .bool false, .bool false, .slice none 0 0] 25) = w1 at *
  refine (putM_any (m := (bnd 6010 .u (zeros 255) 0)) (a := none) (cap := 0) (Tb.nil _ none (by decide)) HWF.out).mono ?_
  intro e w2 h
  obtain ⟨hb, gb, capb, rfl, -, hbb⟩ := put_good HG.out h
  have hlmax := putM_le HG.out
  have HE := Lib.hid (HE.out.below hb)
  have HBB := Lib.hid hbb
  have hcb := hbb.len
  have hcm := hbb.max
  unfold maxLen at hcm
  clear h hb hbb
  obtain ⟨N, hN⟩ : ∃ N, N = (putM (bnd 6010 .u (zeros 255) 0)).length := ⟨_, rfl⟩
  rw [← hN] at hlmax hcb ⊢
  have HL := Lib.hid hN
  clear hN
  go_wp2_with fail
  refine (getM_any (B := w2.heap.size) _ (putM (bnd 6010 .u (zeros 255) 0)) w2 (Nat.le_refl _) (by rw [HL.out]; exact HBB.out.in)).mono ?_
  intro e w3 h
  obtain ⟨hb, a3, cap3, bs3, he, hs3, ho3⟩ := get_good HG.out h
  replace he : e = .returned (.tuple #[.agg #[.int .i64 6010, .string ⟨#[]⟩, .string ⟨#[]⟩, .string ⟨#[]⟩, .string ⟨#[]⟩, .string ⟨#[]⟩, .int .i64 0, .int .i64 4294967295, .int .u64 0, .bool false, .bool false, .slice a3 0 cap3], .int .i64 0]) := he
  subst he
  have hM : MeAt (w3.alloc (.cells #[.int .i64 6010, .string ⟨#[]⟩, .string ⟨#[]⟩, .string ⟨#[]⟩, .string ⟨#[]⟩, .string ⟨#[]⟩, .int .i64 0, .int .i64 4294967295, .int .u64 0, .bool false, .bool false, .slice a3 0 cap3] 25)) w3.heap.size (bnd 6010 .u (zeros 255) 0) a3 cap3 := heap_alloc_new w3 _
  have hb3 : Below w3.heap.size w3 (w3.alloc (.cells #[.int .i64 6010, .string ⟨#[]⟩, .string ⟨#[]⟩, .string ⟨#[]⟩, .string ⟨#[]⟩, .string ⟨#[]⟩, .int .i64 0, .int .i64 4294967295, .int .u64 0, .bool false, .bool false, .slice a3 0 cap3] 25)) := (Below.refl _ _).alloc (Nat.le_refl _) _
  have HE := Lib.hid ((HE.out.below hb).below hb3)
  have HM := Lib.hid hM
  have htb : Tb w3 a3 cap3 ((bnd 6010 .u (zeros 255) 0).args) := ⟨_, hs3⟩
  have hcap := htb.len.2
  have HCAP := Lib.hid hcap
  clear h hb hs3 ho3 hM hb3 hcb hcm htb hcap HL HBB
  go_wp2_with fail
  generalize hw4 : w3.alloc (.cells #[.int .i64 6010, .string ⟨#[]⟩, .string ⟨#[]⟩, .string ⟨#[]⟩, .string ⟨#[]⟩, .string ⟨#[]⟩, .int .i64 0, .int .i64 4294967295, .int .u64 0, .bool false, .bool false, .slice a3 0 cap3] 25) = w4 at *
  obtain ⟨g3, hg3⟩ : ∃ g, g = w3.heap.size := ⟨_, rfl⟩
  rw [← hg3] at HM ⊢
  clear hg3 hw4
  refine (told_any _).mono ?_
  rintro e w5 ⟨rfl, hb⟩
  have HE := Lib.hid (HE.out.below hb)
  have HM := Lib.hid (HM.out.keep (hb.block _ HM.out.lt))
  obtain ⟨⟨c0, c1, c2, c3, c4, c5⟩, c6, c7, c8, c9, c10, c11⟩ := HE.out.at_.cells
  clear hb
  go_wp2_with fail
  refine (mayM_any (m := (bnd 6010 .u (zeros 255) 0)) (a := none) (cap := 0) (Tb.nil _ none (by decide)) HWF.out).mono ?_
  rintro e w6 ⟨r, hr, rfl, hb⟩
  obtain rfl : r = true := hr.2 HG.out.may
  have HE := Lib.hid (HE.out.below hb)
  have HM := Lib.hid (HM.out.keep (hb.block _ HM.out.lt))
  clear hb hr c0 c1 c2 c3 c4 c5 c6 c7 c8 c9 c10 c11
  obtain ⟨⟨c0, c1, c2, c3, c4, c5⟩, c6, c7, c8, c9, c10, c11⟩ := HE.out.at_.cells
  obtain ⟨⟨d0, d1, d2, d3, d4, d5⟩, d6, d7, d8, d9, d10, d11⟩ := HM.out.cells
  go_wp2_with fail
  refine (sameM_any (m := (bnd 6010 .u (zeros 255) 0)) (s := (bnd 6010 .u (zeros 255) 0)) (a := a3) (cap := cap3) (b := none) (cap' := 0) (fun r => r = true) (fun wx hbx => (same_two False (bs := []) (SlAt.nil wx a3 HCAP.out) (Tb.nil wx none (by decide)) (by simp [weigh]) (fun h => h.elim)).mono (by
    rintro e wy ⟨r, rfl, hby, hr, _⟩
    exact ⟨r, rfl, hby, hr rfl⟩))).mono ?_
  rintro e w7 ⟨r, rfl, hb, hr⟩
  obtain rfl : r = true := by
    rcases hr with ⟨_, h⟩ | ⟨h, _⟩
    · exact h
    · exact (h (HeadEq.refl _)).elim
  have HE := Lib.hid (HE.out.below hb)
  clear hb hr HM c0 c1 c2 c3 c4 c5 c6 c7 c8 c9 c10 c11 d0 d1 d2 d3 d4 d5 d6 d7 d8 d9 d10 d11
  go_wp2_with fail
  go_ret
  exact ⟨by first | rfl | (simp [*]; done), HE.out.bel⟩

end Go.Proofs.Ytenpcadgelpbgaa
