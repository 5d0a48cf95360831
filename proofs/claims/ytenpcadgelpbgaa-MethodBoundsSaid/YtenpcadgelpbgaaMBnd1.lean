/-
  MethodBounds, one further.
-/
import Derived.Test.YtenpcadgelpbgaaMBndD
namespace Go.Proofs.Ytenpcadgelpbgaa
open Go.RowKit
set_option linter.unusedVariables false

set_option maxRecDepth 100000 in
set_option maxHeartbeats 8000000 in
theorem bnd1_0 {p0 q0 : Int} {w : World} (hq0 : IntKind.u64.wrap p0 = q0) (hj : q0.tmod 7 = 0) :
    Calls Try.prog 6 #[.int .i64 p0, .bool true] w fun e w' => e = .returned (.bool true) ∧ Below w.heap.size w w' := by
  have hmk : (Instr.makeSlice 26 (.int .i64 256) (.int .i64 256)).run Try.prog w = .ok (.slice (some ⟨w.heap.size, 0, none⟩) 256 256) (w.alloc (.cells (madeCells #[.int .u8 0] 256) 5)) := make_bytes 256 (by omega) w
  have hcv := conv_made (heap_alloc_new w (.cells (madeCells #[.int .u8 0] 256) 5))
  have hwj : IntKind.i64.wrap (0 : Int) = 0 := by decide
  have hs := zeros_size 256
  have hw7 : IntKind.u64.wrap 7 = 7 := by decide
  have h70 : ¬ (7 : Int) = 0 := by decide
  go_enter Try.func6, Try.ntmps6
  go_wp2_with fail
  have henv : BEnv w ((w.alloc (.cells (madeCells #[.int .u8 0] 256) 5)).alloc (.cells #[.int .i64 5010, .string (zeros 256), .string ⟨#[]⟩, .string ⟨#[]⟩, .string ⟨#[]⟩, .string ⟨#[]⟩, .int .i64 0, .int .i64 0, .int .u64 0, .bool false, .bool false, .slice none 0 0] 25)) (w.heap.size + 1) (bnd 5010 .n (zeros 256) 1) := ⟨alloc_new1 w _ _, alloc_two w _ _⟩
  have HE := Lib.hid henv
  have hwf := bnd_wf (id := 5010) (l := [.n]) rfl .n (s := zeros 256) (n := 1) (by rw [hs]; omega) (by omega)
  have HWF := Lib.hid hwf
  have hbad := bnd_bad (id := 5010) (p := .n) (by decide) hs
  have HN := Lib.hid hbad
  clear hmk hcv hwj hs hw7 h70 hq0 hj henv hwf hbad
  generalize (w.alloc (.cells (madeCells #[.int .u8 0] 256) 5)).alloc (.cells #[.int .i64 5010, .string (zeros 256), .string ⟨#[]⟩, .string ⟨#[]⟩, .string ⟨#[]⟩, .string ⟨#[]⟩, .int .i64 0, .int .i64 0, .int .u64 0, .bool false, .bool false, .slice none 0 0] 25) = w1 at *
  refine (putM_any (m := (bnd 5010 .n (zeros 256) 1)) (a := none) (cap := 0) (Tb.nil _ none (by decide)) HWF.out).mono ?_
  intro e w2 h
  obtain ⟨hb, rfl⟩ := put_bad HN.out h
  have HE := Lib.hid (HE.out.below hb)
  clear h hb
  go_wp2_with fail
  refine (getM_any (B := w2.heap.size) _ [] w2 (Nat.le_refl _) (bytes_none w2)).mono ?_
  intro e w3 h
  obtain ⟨hb, he⟩ := get_syn (fun m hm hp => by have := putM_short m hm; rw [hp] at this; exact absurd this (by decide)) (.inl (by decide)) h
  replace he : e = .returned (.tuple #[.agg #[.int .i64 0, .string ⟨#[]⟩, .string ⟨#[]⟩, .string ⟨#[]⟩, .string ⟨#[]⟩, .string ⟨#[]⟩, .int .i64 0, .int .i64 0, .int .u64 0, .bool false, .bool false, .slice none 0 0], .int .i64 502]) := he
  subst he
  have hb3 : Below w3.heap.size w3 (w3.alloc (.cells #[.int .i64 0, .string ⟨#[]⟩, .string ⟨#[]⟩, .string ⟨#[]⟩, .string ⟨#[]⟩, .string ⟨#[]⟩, .int .i64 0, .int .i64 0, .int .u64 0, .bool false, .bool false, .slice none 0 0] 25)) := (Below.refl _ _).alloc (Nat.le_refl _) _
  have HE := Lib.hid ((HE.out.below hb).below hb3)
  clear h hb hb3
  go_wp2_with fail
  generalize w3.alloc (.cells #[.int .i64 0, .string ⟨#[]⟩, .string ⟨#[]⟩, .string ⟨#[]⟩, .string ⟨#[]⟩, .string ⟨#[]⟩, .int .i64 0, .int .i64 0, .int .u64 0, .bool false, .bool false, .slice none 0 0] 25) = w4 at *
  refine (told_any _).mono ?_
  rintro e w5 ⟨rfl, hb⟩
  have HE := Lib.hid (HE.out.below hb)
  obtain ⟨⟨c0, c1, c2, c3, c4, c5⟩, c6, c7, c8, c9, c10, c11⟩ := HE.out.at_.cells
  clear hb
  go_wp2_with fail
  refine (mayM_any (m := (bnd 5010 .n (zeros 256) 1)) (a := none) (cap := 0) (Tb.nil _ none (by decide)) HWF.out).mono ?_
  rintro e w6 ⟨r, hr, rfl, hb⟩
  obtain rfl : r = false := by
    cases r
    · rfl
    · exact (HN.out (hr.1 rfl)).elim
  have HE := Lib.hid (HE.out.below hb)
  clear hb hr c0 c1 c2 c3 c4 c5 c6 c7 c8 c9 c10 c11
  go_wp2_with fail
  go_ret
  exact ⟨by first | rfl | (simp [*]; done), HE.out.bel⟩

set_option maxRecDepth 100000 in
set_option maxHeartbeats 8000000 in
theorem bnd1_1 {p0 q0 : Int} {w : World} (hq0 : IntKind.u64.wrap p0 = q0) (hj : q0.tmod 7 = 1) :
    Calls Try.prog 6 #[.int .i64 p0, .bool true] w fun e w' => e = .returned (.bool true) ∧ Below w.heap.size w w' := by
  have hmk : (Instr.makeSlice 26 (.int .i64 256) (.int .i64 256)).run Try.prog w = .ok (.slice (some ⟨w.heap.size, 0, none⟩) 256 256) (w.alloc (.cells (madeCells #[.int .u8 0] 256) 5)) := make_bytes 256 (by omega) w
  have hcv := conv_made (heap_alloc_new w (.cells (madeCells #[.int .u8 0] 256) 5))
  have hwj : IntKind.i64.wrap (1 : Int) = 1 := by decide
  have hs := zeros_size 256
  have hw7 : IntKind.u64.wrap 7 = 7 := by decide
  have h70 : ¬ (7 : Int) = 0 := by decide
  go_enter Try.func6, Try.ntmps6
  go_wp2_with fail
  have henv : BEnv w ((w.alloc (.cells (madeCells #[.int .u8 0] 256) 5)).alloc (.cells #[.int .i64 4010, .string ⟨#[]⟩, .string (zeros 256), .string ⟨#[]⟩, .string ⟨#[]⟩, .string ⟨#[]⟩, .int .i64 0, .int .i64 0, .int .u64 0, .bool false, .bool false, .slice none 0 0] 25)) (w.heap.size + 1) (bnd 4010 .y (zeros 256) 1) := ⟨alloc_new1 w _ _, alloc_two w _ _⟩
  have HE := Lib.hid henv
  have hwf := bnd_wf (id := 4010) (l := [.n, .y]) rfl .y (s := zeros 256) (n := 1) (by rw [hs]; omega) (by omega)
  have HWF := Lib.hid hwf
  have hbad := bnd_bad (id := 4010) (p := .y) (by decide) hs
  have HN := Lib.hid hbad
  clear hmk hcv hwj hs hw7 h70 hq0 hj henv hwf hbad
  generalize (w.alloc (.cells (madeCells #[.int .u8 0] 256) 5)).alloc (.cells #[.int .i64 4010, .string ⟨#[]⟩, .string (zeros 256), .string ⟨#[]⟩, .string ⟨#[]⟩, .string ⟨#[]⟩, .int .i64 0, .int .i64 0, .int .u64 0, .bool false, .bool false, .slice none 0 0] 25) = w1 at *
  refine (putM_any (m := (bnd 4010 .y (zeros 256) 1)) (a := none) (cap := 0) (Tb.nil _ none (by decide)) HWF.out).mono ?_
  intro e w2 h
  obtain ⟨hb, rfl⟩ := put_bad HN.out h
  have HE := Lib.hid (HE.out.below hb)
  clear h hb
  go_wp2_with fail
  refine (getM_any (B := w2.heap.size) _ [] w2 (Nat.le_refl _) (bytes_none w2)).mono ?_
  intro e w3 h
  obtain ⟨hb, he⟩ := get_syn (fun m hm hp => by have := putM_short m hm; rw [hp] at this; exact absurd this (by decide)) (.inl (by decide)) h
  replace he : e = .returned (.tuple #[.agg #[.int .i64 0, .string ⟨#[]⟩, .string ⟨#[]⟩, .string ⟨#[]⟩, .string ⟨#[]⟩, .string ⟨#[]⟩, .int .i64 0, .int .i64 0, .int .u64 0, .bool false, .bool false, .slice none 0 0], .int .i64 502]) := he
  subst he
  have hb3 : Below w3.heap.size w3 (w3.alloc (.cells #[.int .i64 0, .string ⟨#[]⟩, .string ⟨#[]⟩, .string ⟨#[]⟩, .string ⟨#[]⟩, .string ⟨#[]⟩, .int .i64 0, .int .i64 0, .int .u64 0, .bool false, .bool false, .slice none 0 0] 25)) := (Below.refl _ _).alloc (Nat.le_refl _) _
  have HE := Lib.hid ((HE.out.below hb).below hb3)
  clear h hb hb3
  go_wp2_with fail
  generalize w3.alloc (.cells #[.int .i64 0, .string ⟨#[]⟩, .string ⟨#[]⟩, .string ⟨#[]⟩, .string ⟨#[]⟩, .string ⟨#[]⟩, .int .i64 0, .int .i64 0, .int .u64 0, .bool false, .bool false, .slice none 0 0] 25) = w4 at *
  refine (told_any _).mono ?_
  rintro e w5 ⟨rfl, hb⟩
  have HE := Lib.hid (HE.out.below hb)
  obtain ⟨⟨c0, c1, c2, c3, c4, c5⟩, c6, c7, c8, c9, c10, c11⟩ := HE.out.at_.cells
  clear hb
  go_wp2_with fail
  refine (mayM_any (m := (bnd 4010 .y (zeros 256) 1)) (a := none) (cap := 0) (Tb.nil _ none (by decide)) HWF.out).mono ?_
  rintro e w6 ⟨r, hr, rfl, hb⟩
  obtain rfl : r = false := by
    cases r
    · rfl
    · exact (HN.out (hr.1 rfl)).elim
  have HE := Lib.hid (HE.out.below hb)
  clear hb hr c0 c1 c2 c3 c4 c5 c6 c7 c8 c9 c10 c11
  go_wp2_with fail
  go_ret
  exact ⟨by first | rfl | (simp [*]; done), HE.out.bel⟩

set_option maxRecDepth 100000 in
set_option maxHeartbeats 8000000 in
theorem bnd1_2 {p0 q0 : Int} {w : World} (hq0 : IntKind.u64.wrap p0 = q0) (hj : q0.tmod 7 = 2) :
    Calls Try.prog 6 #[.int .i64 p0, .bool true] w fun e w' => e = .returned (.bool true) ∧ Below w.heap.size w w' := by
  have hmk : (Instr.makeSlice 26 (.int .i64 256) (.int .i64 256)).run Try.prog w = .ok (.slice (some ⟨w.heap.size, 0, none⟩) 256 256) (w.alloc (.cells (madeCells #[.int .u8 0] 256) 5)) := make_bytes 256 (by omega) w
  have hcv := conv_made (heap_alloc_new w (.cells (madeCells #[.int .u8 0] 256) 5))
  have hwj : IntKind.i64.wrap (2 : Int) = 2 := by decide
  have hs := zeros_size 256
  have hw7 : IntKind.u64.wrap 7 = 7 := by decide
  have h70 : ¬ (7 : Int) = 0 := by decide
  go_enter Try.func6, Try.ntmps6
  go_wp2_with fail
  have henv : BEnv w ((w.alloc (.cells (madeCells #[.int .u8 0] 256) 5)).alloc (.cells #[.int .i64 6040, .string ⟨#[]⟩, .string ⟨#[]⟩, .string (zeros 256), .string ⟨#[]⟩, .string ⟨#[]⟩, .int .i64 0, .int .i64 0, .int .u64 0, .bool false, .bool false, .slice none 0 0] 25)) (w.heap.size + 1) (bnd 6040 .e (zeros 256) 1) := ⟨alloc_new1 w _ _, alloc_two w _ _⟩
  have HE := Lib.hid henv
  have hwf := bnd_wf (id := 6040) (l := [.e, .k, .f]) rfl .e (s := zeros 256) (n := 1) (by rw [hs]; omega) (by omega)
  have HWF := Lib.hid hwf
  have hbad := bnd_bad (id := 6040) (p := .e) (by decide) hs
  have HN := Lib.hid hbad
  clear hmk hcv hwj hs hw7 h70 hq0 hj henv hwf hbad
  generalize (w.alloc (.cells (madeCells #[.int .u8 0] 256) 5)).alloc (.cells #[.int .i64 6040, .string ⟨#[]⟩, .string ⟨#[]⟩, .string (zeros 256), .string ⟨#[]⟩, .string ⟨#[]⟩, .int .i64 0, .int .i64 0, .int .u64 0, .bool false, .bool false, .slice none 0 0] 25) = w1 at *
  refine (putM_any (m := (bnd 6040 .e (zeros 256) 1)) (a := none) (cap := 0) (Tb.nil _ none (by decide)) HWF.out).mono ?_
  intro e w2 h
  obtain ⟨hb, rfl⟩ := put_bad HN.out h
  have HE := Lib.hid (HE.out.below hb)
  clear h hb
  go_wp2_with fail
  refine (getM_any (B := w2.heap.size) _ [] w2 (Nat.le_refl _) (bytes_none w2)).mono ?_
  intro e w3 h
  obtain ⟨hb, he⟩ := get_syn (fun m hm hp => by have := putM_short m hm; rw [hp] at this; exact absurd this (by decide)) (.inl (by decide)) h
  replace he : e = .returned (.tuple #[.agg #[.int .i64 0, .string ⟨#[]⟩, .string ⟨#[]⟩, .string ⟨#[]⟩, .string ⟨#[]⟩, .string ⟨#[]⟩, .int .i64 0, .int .i64 0, .int .u64 0, .bool false, .bool false, .slice none 0 0], .int .i64 502]) := he
  subst he
  have hb3 : Below w3.heap.size w3 (w3.alloc (.cells #[.int .i64 0, .string ⟨#[]⟩, .string ⟨#[]⟩, .string ⟨#[]⟩, .string ⟨#[]⟩, .string ⟨#[]⟩, .int .i64 0, .int .i64 0, .int .u64 0, .bool false, .bool false, .slice none 0 0] 25)) := (Below.refl _ _).alloc (Nat.le_refl _) _
  have HE := Lib.hid ((HE.out.below hb).below hb3)
  clear h hb hb3
  go_wp2_with fail
  generalize w3.alloc (.cells #[.int .i64 0, .string ⟨#[]⟩, .string ⟨#[]⟩, .string ⟨#[]⟩, .string ⟨#[]⟩, .string ⟨#[]⟩, .int .i64 0, .int .i64 0, .int .u64 0, .bool false, .bool false, .slice none 0 0] 25) = w4 at *
  refine (told_any _).mono ?_
  rintro e w5 ⟨rfl, hb⟩
  have HE := Lib.hid (HE.out.below hb)
  obtain ⟨⟨c0, c1, c2, c3, c4, c5⟩, c6, c7, c8, c9, c10, c11⟩ := HE.out.at_.cells
  clear hb
  go_wp2_with fail
  refine (mayM_any (m := (bnd 6040 .e (zeros 256) 1)) (a := none) (cap := 0) (Tb.nil _ none (by decide)) HWF.out).mono ?_
  rintro e w6 ⟨r, hr, rfl, hb⟩
  obtain rfl : r = false := by
    cases r
    · rfl
    · exact (HN.out (hr.1 rfl)).elim
  have HE := Lib.hid (HE.out.below hb)
  clear hb hr c0 c1 c2 c3 c4 c5 c6 c7 c8 c9 c10 c11
  go_wp2_with fail
  go_ret
  exact ⟨by first | rfl | (simp [*]; done), HE.out.bel⟩

set_option maxRecDepth 100000 in
set_option maxHeartbeats 8000000 in
theorem bnd1_3 {p0 q0 : Int} {w : World} (hq0 : IntKind.u64.wrap p0 = q0) (hj : q0.tmod 7 = 3) :
    Calls Try.prog 6 #[.int .i64 p0, .bool true] w fun e w' => e = .returned (.bool true) ∧ Below w.heap.size w w' := by
  have hmk : (Instr.makeSlice 26 (.int .i64 256) (.int .i64 256)).run Try.prog w = .ok (.slice (some ⟨w.heap.size, 0, none⟩) 256 256) (w.alloc (.cells (madeCells #[.int .u8 0] 256) 5)) := make_bytes 256 (by omega) w
  have hcv := conv_made (heap_alloc_new w (.cells (madeCells #[.int .u8 0] 256) 5))
  have hwj : IntKind.i64.wrap (3 : Int) = 3 := by decide
  have hs := zeros_size 256
  have hw7 : IntKind.u64.wrap 7 = 7 := by decide
  have h70 : ¬ (7 : Int) = 0 := by decide
  go_enter Try.func6, Try.ntmps6
  go_wp2_with fail
  have henv : BEnv w ((w.alloc (.cells (madeCells #[.int .u8 0] 256) 5)).alloc (.cells #[.int .i64 6040, .string ⟨#[]⟩, .string ⟨#[]⟩, .string ⟨#[]⟩, .string (zeros 256), .string ⟨#[]⟩, .int .i64 0, .int .i64 0, .int .u64 0, .bool false, .bool false, .slice none 0 0] 25)) (w.heap.size + 1) (bnd 6040 .k (zeros 256) 1) := ⟨alloc_new1 w _ _, alloc_two w _ _⟩
  have HE := Lib.hid henv
  have hwf := bnd_wf (id := 6040) (l := [.e, .k, .f]) rfl .k (s := zeros 256) (n := 1) (by rw [hs]; omega) (by omega)
  have HWF := Lib.hid hwf
  have hbad := bnd_bad (id := 6040) (p := .k) (by decide) hs
  have HN := Lib.hid hbad
  clear hmk hcv hwj hs hw7 h70 hq0 hj henv hwf hbad
  generalize (w.alloc (.cells (madeCells #[.int .u8 0] 256) 5)).alloc (.cells #[.int .i64 6040, .string ⟨#[]⟩, .string ⟨#[]⟩, .string ⟨#[]⟩, .string (zeros 256), .string ⟨#[]⟩, .int .i64 0, .int .i64 0, .int .u64 0, .bool false, .bool false, .slice none 0 0] 25) = w1 at *
  refine (putM_any (m := (bnd 6040 .k (zeros 256) 1)) (a := none) (cap := 0) (Tb.nil _ none (by decide)) HWF.out).mono ?_
  intro e w2 h
  obtain ⟨hb, rfl⟩ := put_bad HN.out h
  have HE := Lib.hid (HE.out.below hb)
  clear h hb
  go_wp2_with fail
  refine (getM_any (B := w2.heap.size) _ [] w2 (Nat.le_refl _) (bytes_none w2)).mono ?_
  intro e w3 h
  obtain ⟨hb, he⟩ := get_syn (fun m hm hp => by have := putM_short m hm; rw [hp] at this; exact absurd this (by decide)) (.inl (by decide)) h
  replace he : e = .returned (.tuple #[.agg #[.int .i64 0, .string ⟨#[]⟩, .string ⟨#[]⟩, .string ⟨#[]⟩, .string ⟨#[]⟩, .string ⟨#[]⟩, .int .i64 0, .int .i64 0, .int .u64 0, .bool false, .bool false, .slice none 0 0], .int .i64 502]) := he
  subst he
  have hb3 : Below w3.heap.size w3 (w3.alloc (.cells #[.int .i64 0, .string ⟨#[]⟩, .string ⟨#[]⟩, .string ⟨#[]⟩, .string ⟨#[]⟩, .string ⟨#[]⟩, .int .i64 0, .int .i64 0, .int .u64 0, .bool false, .bool false, .slice none 0 0] 25)) := (Below.refl _ _).alloc (Nat.le_refl _) _
  have HE := Lib.hid ((HE.out.below hb).below hb3)
  clear h hb hb3
  go_wp2_with fail
  generalize w3.alloc (.cells #[.int .i64 0, .string ⟨#[]⟩, .string ⟨#[]⟩, .string ⟨#[]⟩, .string ⟨#[]⟩, .string ⟨#[]⟩, .int .i64 0, .int .i64 0, .int .u64 0, .bool false, .bool false, .slice none 0 0] 25) = w4 at *
  refine (told_any _).mono ?_
  rintro e w5 ⟨rfl, hb⟩
  have HE := Lib.hid (HE.out.below hb)
  obtain ⟨⟨c0, c1, c2, c3, c4, c5⟩, c6, c7, c8, c9, c10, c11⟩ := HE.out.at_.cells
  clear hb
  go_wp2_with fail
  refine (mayM_any (m := (bnd 6040 .k (zeros 256) 1)) (a := none) (cap := 0) (Tb.nil _ none (by decide)) HWF.out).mono ?_
  rintro e w6 ⟨r, hr, rfl, hb⟩
  obtain rfl : r = false := by
    cases r
    · rfl
    · exact (HN.out (hr.1 rfl)).elim
  have HE := Lib.hid (HE.out.below hb)
  clear hb hr c0 c1 c2 c3 c4 c5 c6 c7 c8 c9 c10 c11
  go_wp2_with fail
  go_ret
  exact ⟨by first | rfl | (simp [*]; done), HE.out.bel⟩

set_option maxRecDepth 100000 in
set_option maxHeartbeats 8000000 in
theorem bnd1_4 {p0 q0 : Int} {w : World} (hq0 : IntKind.u64.wrap p0 = q0) (hj : q0.tmod 7 = 4) :
    Calls Try.prog 6 #[.int .i64 p0, .bool true] w fun e w' => e = .returned (.bool true) ∧ Below w.heap.size w w' := by
  have hmk : (Instr.makeSlice 26 (.int .i64 256) (.int .i64 256)).run Try.prog w = .ok (.slice (some ⟨w.heap.size, 0, none⟩) 256 256) (w.alloc (.cells (madeCells #[.int .u8 0] 256) 5)) := make_bytes 256 (by omega) w
  have hcv := conv_made (heap_alloc_new w (.cells (madeCells #[.int .u8 0] 256) 5))
  have hwj : IntKind.i64.wrap (4 : Int) = 4 := by decide
  have hs := zeros_size 256
  have hw7 : IntKind.u64.wrap 7 = 7 := by decide
  have h70 : ¬ (7 : Int) = 0 := by decide
  go_enter Try.func6, Try.ntmps6
  go_wp2_with fail
  have henv : BEnv w ((w.alloc (.cells (madeCells #[.int .u8 0] 256) 5)).alloc (.cells #[.int .i64 6021, .string ⟨#[]⟩, .string ⟨#[]⟩, .string ⟨#[]⟩, .string ⟨#[]⟩, .string (zeros 256), .int .i64 0, .int .i64 0, .int .u64 0, .bool false, .bool false, .slice none 0 0] 25)) (w.heap.size + 1) (bnd 6021 .x (zeros 256) 1) := ⟨alloc_new1 w _ _, alloc_two w _ _⟩
  have HE := Lib.hid henv
  have hwf := bnd_wf (id := 6021) (l := [.x]) rfl .x (s := zeros 256) (n := 1) (by rw [hs]; omega) (by omega)
  have HWF := Lib.hid hwf
  have hbad := bnd_bad (id := 6021) (p := .x) (by decide) hs
  have HN := Lib.hid hbad
  clear hmk hcv hwj hs hw7 h70 hq0 hj henv hwf hbad
  generalize (w.alloc (.cells (madeCells #[.int .u8 0] 256) 5)).alloc (.cells #[.int .i64 6021, .string ⟨#[]⟩, .string ⟨#[]⟩, .string ⟨#[]⟩, .string ⟨#[]⟩, .string (zeros 256), .int .i64 0, .int .i64 0, .int .u64 0, .bool false, .bool false, .slice none 0 0] 25) = w1 at *
  refine (putM_any (m := (bnd 6021 .x (zeros 256) 1)) (a := none) (cap := 0) (Tb.nil _ none (by decide)) HWF.out).mono ?_
  intro e w2 h
  obtain ⟨hb, rfl⟩ := put_bad HN.out h
  have HE := Lib.hid (HE.out.below hb)
  clear h hb
  go_wp2_with fail
  refine (getM_any (B := w2.heap.size) _ [] w2 (Nat.le_refl _) (bytes_none w2)).mono ?_
  intro e w3 h
  obtain ⟨hb, he⟩ := get_syn (fun m hm hp => by have := putM_short m hm; rw [hp] at this; exact absurd this (by decide)) (.inl (by decide)) h
  replace he : e = .returned (.tuple #[.agg #[.int .i64 0, .string ⟨#[]⟩, .string ⟨#[]⟩, .string ⟨#[]⟩, .string ⟨#[]⟩, .string ⟨#[]⟩, .int .i64 0, .int .i64 0, .int .u64 0, .bool false, .bool false, .slice none 0 0], .int .i64 502]) := he
  subst he
  have hb3 : Below w3.heap.size w3 (w3.alloc (.cells #[.int .i64 0, .string ⟨#[]⟩, .string ⟨#[]⟩, .string ⟨#[]⟩, .string ⟨#[]⟩, .string ⟨#[]⟩, .int .i64 0, .int .i64 0, .int .u64 0, .bool false, .bool false, .slice none 0 0] 25)) := (Below.refl _ _).alloc (Nat.le_refl _) _
  have HE := Lib.hid ((HE.out.below hb).below hb3)
  clear h hb hb3
  go_wp2_with fail
  generalize w3.alloc (.cells #[.int .i64 0, .string ⟨#[]⟩, .string ⟨#[]⟩, .string ⟨#[]⟩, .string ⟨#[]⟩, .string ⟨#[]⟩, .int .i64 0, .int .i64 0, .int .u64 0, .bool false, .bool false, .slice none 0 0] 25) = w4 at *
  refine (told_any _).mono ?_
  rintro e w5 ⟨rfl, hb⟩
  have HE := Lib.hid (HE.out.below hb)
  obtain ⟨⟨c0, c1, c2, c3, c4, c5⟩, c6, c7, c8, c9, c10, c11⟩ := HE.out.at_.cells
  clear hb
  go_wp2_with fail
  refine (mayM_any (m := (bnd 6021 .x (zeros 256) 1)) (a := none) (cap := 0) (Tb.nil _ none (by decide)) HWF.out).mono ?_
  rintro e w6 ⟨r, hr, rfl, hb⟩
  obtain rfl : r = false := by
    cases r
    · rfl
    · exact (HN.out (hr.1 rfl)).elim
  have HE := Lib.hid (HE.out.below hb)
  clear hb hr c0 c1 c2 c3 c4 c5 c6 c7 c8 c9 c10 c11
  go_wp2_with fail
  go_ret
  exact ⟨by first | rfl | (simp [*]; done), HE.out.bel⟩

set_option maxRecDepth 100000 in
set_option maxHeartbeats 8000000 in
theorem bnd1_5 {p0 q0 : Int} {w : World} (hq0 : IntKind.u64.wrap p0 = q0) (hj : q0.tmod 7 = 5) :
    Calls Try.prog 6 #[.int .i64 p0, .bool true] w fun e w' => e = .returned (.bool true) ∧ Below w.heap.size w w' := by
  have hmk : (Instr.makeSlice 26 (.int .i64 256) (.int .i64 256)).run Try.prog w = .ok (.slice (some ⟨w.heap.size, 0, none⟩) 256 256) (w.alloc (.cells (madeCells #[.int .u8 0] 256) 5)) := make_bytes 256 (by omega) w
  have hcv := conv_made (heap_alloc_new w (.cells (madeCells #[.int .u8 0] 256) 5))
  have hwj : IntKind.i64.wrap (5 : Int) = 5 := by decide
  have hs := zeros_size 256
  have hw7 : IntKind.u64.wrap 7 = 7 := by decide
  have h70 : ¬ (7 : Int) = 0 := by decide
  go_enter Try.func6, Try.ntmps6
  go_wp2_with fail
  have henv : BEnv w ((w.alloc (.cells (madeCells #[.int .u8 0] 256) 5)).alloc (.cells #[.int .i64 2040, .string ⟨#[]⟩, .string ⟨#[]⟩, .string ⟨#[]⟩, .string ⟨#[]⟩, .string ⟨#[]⟩, .int .i64 65536, .int .i64 0, .int .u64 0, .bool false, .bool false, .slice none 0 0] 25)) (w.heap.size + 1) (bnd 2040 .c (zeros 256) 1) := ⟨alloc_new1 w _ _, alloc_two w _ _⟩
  have HE := Lib.hid henv
  have hwf := bnd_wf (id := 2040) (l := [.c, .x]) rfl .c (s := zeros 256) (n := 1) (by rw [hs]; omega) (by omega)
  have HWF := Lib.hid hwf
  have hbad := bnd_bad (id := 2040) (p := .c) (by decide) hs
  have HN := Lib.hid hbad
  clear hmk hcv hwj hs hw7 h70 hq0 hj henv hwf hbad
  generalize (w.alloc (.cells (madeCells #[.int .u8 0] 256) 5)).alloc (.cells #[.int .i64 2040, .string ⟨#[]⟩, .string ⟨#[]⟩, .string ⟨#[]⟩, .string ⟨#[]⟩, .string ⟨#[]⟩, .int .i64 65536, .int .i64 0, .int .u64 0, .bool false, .bool false, .slice none 0 0] 25) = w1 at *
  refine (putM_any (m := (bnd 2040 .c (zeros 256) 1)) (a := none) (cap := 0) (Tb.nil _ none (by decide)) HWF.out).mono ?_
  intro e w2 h
  obtain ⟨hb, rfl⟩ := put_bad HN.out h
  have HE := Lib.hid (HE.out.below hb)
  clear h hb
  go_wp2_with fail
  refine (getM_any (B := w2.heap.size) _ [] w2 (Nat.le_refl _) (bytes_none w2)).mono ?_
  intro e w3 h
  obtain ⟨hb, he⟩ := get_syn (fun m hm hp => by have := putM_short m hm; rw [hp] at this; exact absurd this (by decide)) (.inl (by decide)) h
  replace he : e = .returned (.tuple #[.agg #[.int .i64 0, .string ⟨#[]⟩, .string ⟨#[]⟩, .string ⟨#[]⟩, .string ⟨#[]⟩, .string ⟨#[]⟩, .int .i64 0, .int .i64 0, .int .u64 0, .bool false, .bool false, .slice none 0 0], .int .i64 502]) := he
  subst he
  have hb3 : Below w3.heap.size w3 (w3.alloc (.cells #[.int .i64 0, .string ⟨#[]⟩, .string ⟨#[]⟩, .string ⟨#[]⟩, .string ⟨#[]⟩, .string ⟨#[]⟩, .int .i64 0, .int .i64 0, .int .u64 0, .bool false, .bool false, .slice none 0 0] 25)) := (Below.refl _ _).alloc (Nat.le_refl _) _
  have HE := Lib.hid ((HE.out.below hb).below hb3)
  clear h hb hb3
  go_wp2_with fail
  generalize w3.alloc (.cells #[.int .i64 0, .string ⟨#[]⟩, .string ⟨#[]⟩, .string ⟨#[]⟩, .string ⟨#[]⟩, .string ⟨#[]⟩, .int .i64 0, .int .i64 0, .int .u64 0, .bool false, .bool false, .slice none 0 0] 25) = w4 at *
  refine (told_any _).mono ?_
  rintro e w5 ⟨rfl, hb⟩
  have HE := Lib.hid (HE.out.below hb)
  obtain ⟨⟨c0, c1, c2, c3, c4, c5⟩, c6, c7, c8, c9, c10, c11⟩ := HE.out.at_.cells
  clear hb
  go_wp2_with fail
  refine (mayM_any (m := (bnd 2040 .c (zeros 256) 1)) (a := none) (cap := 0) (Tb.nil _ none (by decide)) HWF.out).mono ?_
  rintro e w6 ⟨r, hr, rfl, hb⟩
  obtain rfl : r = false := by
    cases r
    · rfl
    · exact (HN.out (hr.1 rfl)).elim
  have HE := Lib.hid (HE.out.below hb)
  clear hb hr c0 c1 c2 c3 c4 c5 c6 c7 c8 c9 c10 c11
  go_wp2_with fail
  go_ret
  exact ⟨by first | rfl | (simp [*]; done), HE.out.bel⟩

set_option maxRecDepth 100000 in
set_option maxHeartbeats 8000000 in
theorem bnd1_6 {p0 q0 : Int} {w : World} (hq0 : IntKind.u64.wrap p0 = q0) (hj : q0.tmod 7 = 6) :
    Calls Try.prog 6 #[.int .i64 p0, .bool true] w fun e w' => e = .returned (.bool true) ∧ Below w.heap.size w w' := by
  have hmk : (Instr.makeSlice 26 (.int .i64 256) (.int .i64 256)).run Try.prog w = .ok (.slice (some ⟨w.heap.size, 0, none⟩) 256 256) (w.alloc (.cells (madeCells #[.int .u8 0] 256) 5)) := make_bytes 256 (by omega) w
  have hcv := conv_made (heap_alloc_new w (.cells (madeCells #[.int .u8 0] 256) 5))
  have hwj : IntKind.i64.wrap (6 : Int) = 6 := by decide
  have hs := zeros_size 256
  have hw7 : IntKind.u64.wrap 7 = 7 := by decide
  have h70 : ¬ (7 : Int) = 0 := by decide
  go_enter Try.func6, Try.ntmps6
  go_wp2_with fail
  have henv : BEnv w ((w.alloc (.cells (madeCells #[.int .u8 0] 256) 5)).alloc (.cells #[.int .i64 6010, .string ⟨#[]⟩, .string ⟨#[]⟩, .string ⟨#[]⟩, .string ⟨#[]⟩, .string ⟨#[]⟩, .int .i64 0, .int .i64 4294967296, .int .u64 0, .bool false, .bool false, .slice none 0 0] 25)) (w.heap.size + 1) (bnd 6010 .u (zeros 256) 1) := ⟨alloc_new1 w _ _, alloc_two w _ _⟩
  have HE := Lib.hid henv
  have hwf := bnd_wf (id := 6010) (l := [.u]) rfl .u (s := zeros 256) (n := 1) (by rw [hs]; omega) (by omega)
  have HWF := Lib.hid hwf
  have hbad := bnd_bad (id := 6010) (p := .u) (by decide) hs
  have HN := Lib.hid hbad
  clear hmk hcv hwj hs hw7 h70 hq0 hj henv hwf hbad
  generalize (w.alloc (.cells (madeCells #[.int .u8 0] 256) 5)).alloc (.cells #[.int .i64 6010, .string ⟨#[]⟩, .string ⟨#[]⟩, .string ⟨#[]⟩, .string ⟨#[]⟩, .string ⟨#[]⟩, .int .i64 0, .int .i64 4294967296, .int .u64 0, .bool false, .bool false, .slice none 0 0] 25) = w1 at *
  refine (putM_any (m := (bnd 6010 .u (zeros 256) 1)) (a := none) (cap := 0) (Tb.nil _ none (by decide)) HWF.out).mono ?_
  intro e w2 h
  obtain ⟨hb, rfl⟩ := put_bad HN.out h
  have HE := Lib.hid (HE.out.below hb)
  clear h hb
  go_wp2_with fail
  refine (getM_any (B := w2.heap.size) _ [] w2 (Nat.le_refl _) (bytes_none w2)).mono ?_
  intro e w3 h
  obtain ⟨hb, he⟩ := get_syn (fun m hm hp => by have := putM_short m hm; rw [hp] at this; exact absurd this (by decide)) (.inl (by decide)) h
  replace he : e = .returned (.tuple #[.agg #[.int .i64 0, .string ⟨#[]⟩, .string ⟨#[]⟩, .string ⟨#[]⟩, .string ⟨#[]⟩, .string ⟨#[]⟩, .int .i64 0, .int .i64 0, .int .u64 0, .bool false, .bool false, .slice none 0 0], .int .i64 502]) := he
  subst he
  have hb3 : Below w3.heap.size w3 (w3.alloc (.cells #[.int .i64 0, .string ⟨#[]⟩, .string ⟨#[]⟩, .string ⟨#[]⟩, .string ⟨#[]⟩, .string ⟨#[]⟩, .int .i64 0, .int .i64 0, .int .u64 0, .bool false, .bool false, .slice none 0 0] 25)) := (Below.refl _ _).alloc (Nat.le_refl _) _
  have HE := Lib.hid ((HE.out.below hb).below hb3)
  clear h hb hb3
  go_wp2_with fail
  generalize w3.alloc (.cells #[.int .i64 0, .string ⟨#[]⟩, .string ⟨#[]⟩, .string ⟨#[]⟩, .string ⟨#[]⟩, .string ⟨#[]⟩, .int .i64 0, .int .i64 0, .int .u64 0, .bool false, .bool false, .slice none 0 0] 25) = w4 at *
  refine (told_any _).mono ?_
  rintro e w5 ⟨rfl, hb⟩
  have HE := Lib.hid (HE.out.below hb)
  obtain ⟨⟨c0, c1, c2, c3, c4, c5⟩, c6, c7, c8, c9, c10, c11⟩ := HE.out.at_.cells
  clear hb
  go_wp2_with fail
  refine (mayM_any (m := (bnd 6010 .u (zeros 256) 1)) (a := none) (cap := 0) (Tb.nil _ none (by decide)) HWF.out).mono ?_
  rintro e w6 ⟨r, hr, rfl, hb⟩
  obtain rfl : r = false := by
    cases r
    · rfl
    · exact (HN.out (hr.1 rfl)).elim
  have HE := Lib.hid (HE.out.below hb)
  clear hb hr c0 c1 c2 c3 c4 c5 c6 c7 c8 c9 c10 c11
  go_wp2_with fail
  go_ret
  exact ⟨by first | rfl | (simp [*]; done), HE.out.bel⟩

end Go.Proofs.Ytenpcadgelpbgaa
