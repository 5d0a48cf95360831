/-
  QuadBack, walked: of whole numbers the four sums lead back.
-/
import Derived.Test.YtlnfghmkfgihjaaTold
import Derived.Test.YtlnfghmkfgihjaaRow
import Derived.Deep.QuietTactic
import Derived.BigQuiet
import Derived.Deep.RegionHeld3
namespace Go.Proofs.Ytlnfghmkfgihjaa
open Go.RowKit

theorem modm (a : Int) : ∃ m, IntKind.i64.wrap ((IntKind.u64.wrap a).tmod 2001) = m + 1000 ∧ IntKind.i64.wrap m = m ∧ -1000 ≤ m ∧ m ≤ 1000 := by
  have h : IntKind.u64.wrap a = a % 18446744073709551616 := by simp [IntKind.wrap, IntKind.bits, IntKind.signed]
  refine ⟨a % 18446744073709551616 % 2001 - 1000, ?_, ?_, by omega, by omega⟩
  · rw [h, Int.tmod_eq_emod_of_nonneg (by omega), IntKind.wrap_i64]
    omega
  · rw [IntKind.wrap_i64]
    omega

theorem wrap_lit (n : Int) (h : 0 ≤ n ∧ n ≤ 8) : IntKind.i64.wrap n = n := by
  rw [IntKind.wrap_i64]; omega

/-- eight integers, each brought to a whole number from -1,000 to 1,000, as a float. -/
theorem num_of (l : Int) : ∃ m F, IntKind.i64.wrap ((IntKind.u64.wrap l).tmod 2001) = m + 1000 ∧ IntKind.i64.wrap m = m ∧ floatOfInt .f64 m = F ∧ Fl.isI F m ∧ m.natAbs ≤ 1000 := by
  obtain ⟨m, h1, h2, h3, h4⟩ := modm l
  exact ⟨m, _, h1, h2, rfl, Fl.ofInt_isI m (by omega), by omega⟩

theorem whole_same (z : Nat × Nat) (p : Int × Int) (hz : CI z p) (h : Bd 1099511627775 p) (w : World) :
    Calls Try.prog 19 #[.complex .f64 z.1 z.2] w fun e w' => e = .returned (.bool true) ∧ w' = w :=
  (whole_int z p hz h w).mono fun _ _ h => ⟨h.1, h.2.symm⟩

theorem fl_4 : Fl.isI 4616189618054758400 4 := by
  have := Fl.ofInt_isI 4 (by decide)
  rw [show floatOfInt .f64 4 = 4616189618054758400 from by decide] at this; exact this

set_option linter.unusedSimpArgs false in
set_option maxHeartbeats 8000000 in
theorem qback_some (b off len cap : Nat) (l0 l1 l2 l3 l4 l5 l6 l7 : Int) (w : World) (h8 : 8 ≤ len)
    (c0 : w.cell? ⟨b, off, none⟩ = some (.int .i64 l0)) (c1 : w.cell? ⟨b, off + 1, none⟩ = some (.int .i64 l1)) (c2 : w.cell? ⟨b, off + 2, none⟩ = some (.int .i64 l2)) (c3 : w.cell? ⟨b, off + 3, none⟩ = some (.int .i64 l3))
    (c4 : w.cell? ⟨b, off + 4, none⟩ = some (.int .i64 l4)) (c5 : w.cell? ⟨b, off + 5, none⟩ = some (.int .i64 l5)) (c6 : w.cell? ⟨b, off + 6, none⟩ = some (.int .i64 l6)) (c7 : w.cell? ⟨b, off + 7, none⟩ = some (.int .i64 l7)) :
    Calls Try.prog 4 #[.slice (some ⟨b, off, none⟩) len cap] w fun e w' => e = .returned (.bool true) ∧ Below w.heap.size w w' := by
  have hb := World.block_lt_of_cell? w _ c0
  have ne0 := World.new_ne w _ c0
  obtain ⟨m0, F0, hm0, hn0, hF0, hI0, hd0⟩ := num_of l0
  obtain ⟨m1, F1, hm1, hn1, hF1, hI1, hd1⟩ := num_of l1
  obtain ⟨m2, F2, hm2, hn2, hF2, hI2, hd2⟩ := num_of l2
  obtain ⟨m3, F3, hm3, hn3, hF3, hI3, hd3⟩ := num_of l3
  obtain ⟨m4, F4, hm4, hn4, hF4, hI4, hd4⟩ := num_of l4
  obtain ⟨m5, F5, hm5, hn5, hF5, hI5, hd5⟩ := num_of l5
  obtain ⟨m6, F6, hm6, hn6, hF6, hI6, hd6⟩ := num_of l6
  obtain ⟨m7, F7, hm7, hn7, hF7, hI7, hd7⟩ := num_of l7
  have P0 := Lib.hid (show CI (F0, F1) (m0, m1) from ⟨hI0, hI1⟩)
  have D0 := Lib.hid (show Bd 1000 (m0, m1) from ⟨hd0, hd1⟩)
  have P1 := Lib.hid (show CI (F2, F3) (m2, m3) from ⟨hI2, hI3⟩)
  have D1 := Lib.hid (show Bd 1000 (m2, m3) from ⟨hd2, hd3⟩)
  have P2 := Lib.hid (show CI (F4, F5) (m4, m5) from ⟨hI4, hI5⟩)
  have D2 := Lib.hid (show Bd 1000 (m4, m5) from ⟨hd4, hd5⟩)
  have P3 := Lib.hid (show CI (F6, F7) (m6, m7) from ⟨hI6, hI7⟩)
  have D3 := Lib.hid (show Bd 1000 (m6, m7) from ⟨hd6, hd7⟩)
  clear hI0 hd0 hI1 hd1 hI2 hd2 hI3 hd3 hI4 hd4 hI5 hd5 hI6 hd6 hI7 hd7
  have x0 := wrap_lit 0 (by decide)
  have x1 := wrap_lit 1 (by decide)
  have x2 := wrap_lit 2 (by decide)
  have x3 := wrap_lit 3 (by decide)
  have x4 := wrap_lit 4 (by decide)
  have x5 := wrap_lit 5 (by decide)
  have x6 := wrap_lit 6 (by decide)
  have x7 := wrap_lit 7 (by decide)
  have y0 : 0 < len := by omega
  have y1 : (1 : Int) < (len : Int) := by omega
  have y2 : (2 : Int) < (len : Int) := by omega
  have y3 : (3 : Int) < (len : Int) := by omega
  have y4 : (4 : Int) < (len : Int) := by omega
  have y5 : (5 : Int) < (len : Int) := by omega
  have y6 : (6 : Int) < (len : Int) := by omega
  have y7 : (7 : Int) < (len : Int) := by omega
  have y8 : (8 : Int) ≤ (len : Int) := by omega
  have A0 := Lib.hid fl_0
  go_enter Try.func4, Try.ntmps4
  go_wp2_with fail
  refine wp_loop_rounds 5 ?_
  rw [rounds_succ]
  go_wp2_with fail
  go_region_held3 (fun w' => w'.cell? ⟨b, off, none⟩ = some (.int .i64 l0) ∧ w'.cell? ⟨b, off + 1, none⟩ = some (.int .i64 l1)) (go_keep) (fail)
  go_wp2_with fail
  refine (norm_int (F0, F1) (m0, m1) P0.out ⟨Nat.le_trans D0.out.1 (by decide), Nat.le_trans D0.out.2 (by decide)⟩ _).mono ?_
  rintro e w' ⟨n0, rfl, hn, rfl⟩
  obtain ⟨a1, ha, hia⟩ := Fl.add_isI A0.out hn (by have b0 := nrm_bd D0.out; omega)
  obtain ⟨z0, zz0⟩ := addB_val ha
  have A1 := Lib.hid hia
  clear ha hia hn
  go_wp2_with fail
  clear z0 zz0
  rw [rounds_succ]
  go_wp2_with fail
  go_region_held3 (fun w' => w'.cell? ⟨b, off + 2, none⟩ = some (.int .i64 l2) ∧ w'.cell? ⟨b, off + 3, none⟩ = some (.int .i64 l3)) (go_keep) (fail)
  go_wp2_with fail
  refine (norm_int (F2, F3) (m2, m3) P1.out ⟨Nat.le_trans D1.out.1 (by decide), Nat.le_trans D1.out.2 (by decide)⟩ _).mono ?_
  rintro e w' ⟨n1, rfl, hn, rfl⟩
  obtain ⟨a2, ha, hia⟩ := Fl.add_isI A1.out hn (by have b0 := nrm_bd D0.out; have b1 := nrm_bd D1.out; omega)
  obtain ⟨z1, zz1⟩ := addB_val ha
  have A2 := Lib.hid hia
  clear ha hia hn
  go_wp2_with fail
  clear z1 zz1
  rw [rounds_succ]
  go_wp2_with fail
  go_region_held3 (fun w' => w'.cell? ⟨b, off + 4, none⟩ = some (.int .i64 l4) ∧ w'.cell? ⟨b, off + 5, none⟩ = some (.int .i64 l5)) (go_keep) (fail)
  go_wp2_with fail
  refine (norm_int (F4, F5) (m4, m5) P2.out ⟨Nat.le_trans D2.out.1 (by decide), Nat.le_trans D2.out.2 (by decide)⟩ _).mono ?_
  rintro e w' ⟨n2, rfl, hn, rfl⟩
  obtain ⟨a3, ha, hia⟩ := Fl.add_isI A2.out hn (by have b0 := nrm_bd D0.out; have b1 := nrm_bd D1.out; have b2 := nrm_bd D2.out; omega)
  obtain ⟨z2, zz2⟩ := addB_val ha
  have A3 := Lib.hid hia
  clear ha hia hn
  go_wp2_with fail
  clear z2 zz2
  rw [rounds_succ]
  go_wp2_with fail
  go_region_held3 (fun w' => w'.cell? ⟨b, off + 6, none⟩ = some (.int .i64 l6) ∧ w'.cell? ⟨b, off + 7, none⟩ = some (.int .i64 l7)) (go_keep) (fail)
  go_wp2_with fail
  refine (norm_int (F6, F7) (m6, m7) P3.out ⟨Nat.le_trans D3.out.1 (by decide), Nat.le_trans D3.out.2 (by decide)⟩ _).mono ?_
  rintro e w' ⟨n3, rfl, hn, rfl⟩
  obtain ⟨a4, ha, hia⟩ := Fl.add_isI A3.out hn (by have b0 := nrm_bd D0.out; have b1 := nrm_bd D1.out; have b2 := nrm_bd D2.out; have b3 := nrm_bd D3.out; omega)
  obtain ⟨z3, zz3⟩ := addB_val ha
  have A4 := Lib.hid hia
  clear ha hia hn
  go_wp2_with fail
  clear z3 zz3
  rw [rounds_succ]
  go_wp2_with fail
  refine (four_any (F0, F1) (F2, F3) (F4, F5) (F6, F7) _).mono ?_
  rintro e w1 ⟨f0, f1, f2, f3, rfl, hb1, s0, s1, s2, s3⟩
  have q0 := s0.CI P0.out P1.out P2.out P3.out D0.out D1.out D2.out D3.out (by decide)
  have Q0 := Lib.hid q0.1
  have E0 := Lib.hid (show Bd 4000 (spunI 0 (m0, m1) (m2, m3) (m4, m5) (m6, m7)) from q0.2)
  have q1 := s1.CI P0.out P1.out P2.out P3.out D0.out D1.out D2.out D3.out (by decide)
  have Q1 := Lib.hid q1.1
  have E1 := Lib.hid (show Bd 4000 (spunI (-1) (m0, m1) (m2, m3) (m4, m5) (m6, m7)) from q1.2)
  have q2 := s2.CI P0.out P1.out P2.out P3.out D0.out D1.out D2.out D3.out (by decide)
  have Q2 := Lib.hid q2.1
  have E2 := Lib.hid (show Bd 4000 (spunI (-2) (m0, m1) (m2, m3) (m4, m5) (m6, m7)) from q2.2)
  have q3 := s3.CI P0.out P1.out P2.out P3.out D0.out D1.out D2.out D3.out (by decide)
  have Q3 := Lib.hid q3.1
  have E3 := Lib.hid (show Bd 4000 (spunI (-3) (m0, m1) (m2, m3) (m4, m5) (m6, m7)) from q3.2)
  have BW := Lib.hid (show Below w.heap.size w w1 by
    refine Below.trans ?_ (hb1.mono (by simp))
    repeat (first | with_reducible refine below_drewN ?_ _ | with_reducible refine Below.drew ?_ | with_reducible refine Below.setCell ?_ (by simp) _ | with_reducible refine Below.alloc ?_ (by simp) _ | with_reducible exact Below.refl _ _))
  have hs1 : w.heap.size < w1.heap.size := by have := hb1.size; simp at this; omega
  have X0 : w1.cell? ⟨w.heap.size, 0, none⟩ = some (.complex .f64 F0 F1) := by
    rw [hb1.cell (p := ⟨w.heap.size, 0, none⟩) (by simp)]
    first | (simp [go_sem]; done) | (simp [go_sem, cell_set_same]; done) | (simp [go_sem]; refine cell_set_same _ _ _ ?_; simp [go_sem])
  have X1 : w1.cell? ⟨w.heap.size, 1, none⟩ = some (.complex .f64 F2 F3) := by
    rw [hb1.cell (p := ⟨w.heap.size, 1, none⟩) (by simp)]
    first | (simp [go_sem]; done) | (simp [go_sem, cell_set_same]; done) | (simp [go_sem]; refine cell_set_same _ _ _ ?_; simp [go_sem])
  have X2 : w1.cell? ⟨w.heap.size, 2, none⟩ = some (.complex .f64 F4 F5) := by
    rw [hb1.cell (p := ⟨w.heap.size, 2, none⟩) (by simp)]
    first | (simp [go_sem]; done) | (simp [go_sem, cell_set_same]; done) | (simp [go_sem]; refine cell_set_same _ _ _ ?_; simp [go_sem])
  have X3 : w1.cell? ⟨w.heap.size, 3, none⟩ = some (.complex .f64 F6 F7) := by
    rw [hb1.cell (p := ⟨w.heap.size, 3, none⟩) (by simp)]
    first | (simp [go_sem]; done) | (simp [go_sem, cell_set_same]; done) | (simp [go_sem]; refine cell_set_same _ _ _ ?_; simp [go_sem])
  clear q0 q1 q2 q3 s0 s1 s2 s3 hb1 c0 c1 c2 c3 c4 c5 c6 c7 ne0 hb
  clear hm0 hn0 hF0 x0 hm1 hn1 hF1 x1 hm2 hn2 hF2 x2 hm3 hn3 hF3 x3 hm4 hn4 hF4 x4 hm5 hn5 hF5 x5 hm6 hn6 hF6 x6 hm7 hn7 hF7 x7 y0 y1 y2 y3 y4 y5 y6 y7 y8 h8
  go_wp2_with fail
  refine (back_any f0 f1 f2 f3 _).mono ?_
  rintro e w2 ⟨g0, g1, g2, g3, rfl, hb2, ⟨t0, u0, v0⟩, ⟨t1, u1, v1⟩, ⟨t2, u2, v2⟩, ⟨t3, u3, v3⟩⟩
  have G0 := Lib.hid (show CI g0 (m0, m1) from v0.CI (by
    have := (u0.CI Q0.out Q1.out Q2.out Q3.out E0.out E1.out E2.out E3.out (by decide)).1
    rw [back0] at this; exact this) ⟨Nat.le_trans D0.out.1 (by decide), Nat.le_trans D0.out.2 (by decide)⟩)
  have G1 := Lib.hid (show CI g1 (m2, m3) from v1.CI (by
    have := (u1.CI Q0.out Q1.out Q2.out Q3.out E0.out E1.out E2.out E3.out (by decide)).1
    rw [back1] at this; exact this) ⟨Nat.le_trans D1.out.1 (by decide), Nat.le_trans D1.out.2 (by decide)⟩)
  have G2 := Lib.hid (show CI g2 (m4, m5) from v2.CI (by
    have := (u2.CI Q0.out Q1.out Q2.out Q3.out E0.out E1.out E2.out E3.out (by decide)).1
    rw [back2] at this; exact this) ⟨Nat.le_trans D2.out.1 (by decide), Nat.le_trans D2.out.2 (by decide)⟩)
  have G3 := Lib.hid (show CI g3 (m6, m7) from v3.CI (by
    have := (u3.CI Q0.out Q1.out Q2.out Q3.out E0.out E1.out E2.out E3.out (by decide)).1
    rw [back3] at this; exact this) ⟨Nat.le_trans D3.out.1 (by decide), Nat.le_trans D3.out.2 (by decide)⟩)
  clear u0 v0 u1 v1 u2 v2 u3 v3
  have hs2 : w1.heap.size < w2.heap.size := by have := hb2.size; simp at this; omega
  have hs3 : w.heap.size < w2.heap.size := by omega
  have BW2 := Lib.hid (show Below w.heap.size w w2 from (BW.out.alloc (by omega) _).trans (hb2.mono (by simp; omega)))
  have X0' : w2.cell? ⟨w.heap.size, 0, none⟩ = some (.complex .f64 F0 F1) := by
    rw [hb2.cell (p := ⟨w.heap.size, 0, none⟩) (by simp; omega), World.cell?_alloc_lt _ _ _ (by exact hs1)]; exact X0
  have Y0' : w2.cell? ⟨w1.heap.size, 0, none⟩ = some (.complex .f64 f0.1 f0.2) := by
    rw [hb2.cell (p := ⟨w1.heap.size, 0, none⟩) (by simp)]; simp [go_sem]
  have X1' : w2.cell? ⟨w.heap.size, 1, none⟩ = some (.complex .f64 F2 F3) := by
    rw [hb2.cell (p := ⟨w.heap.size, 1, none⟩) (by simp; omega), World.cell?_alloc_lt _ _ _ (by exact hs1)]; exact X1
  have Y1' : w2.cell? ⟨w1.heap.size, 1, none⟩ = some (.complex .f64 f1.1 f1.2) := by
    rw [hb2.cell (p := ⟨w1.heap.size, 1, none⟩) (by simp)]; simp [go_sem]
  have X2' : w2.cell? ⟨w.heap.size, 2, none⟩ = some (.complex .f64 F4 F5) := by
    rw [hb2.cell (p := ⟨w.heap.size, 2, none⟩) (by simp; omega), World.cell?_alloc_lt _ _ _ (by exact hs1)]; exact X2
  have Y2' : w2.cell? ⟨w1.heap.size, 2, none⟩ = some (.complex .f64 f2.1 f2.2) := by
    rw [hb2.cell (p := ⟨w1.heap.size, 2, none⟩) (by simp)]; simp [go_sem]
  have X3' : w2.cell? ⟨w.heap.size, 3, none⟩ = some (.complex .f64 F6 F7) := by
    rw [hb2.cell (p := ⟨w.heap.size, 3, none⟩) (by simp; omega), World.cell?_alloc_lt _ _ _ (by exact hs1)]; exact X3
  have Y3' : w2.cell? ⟨w1.heap.size, 3, none⟩ = some (.complex .f64 f3.1 f3.2) := by
    rw [hb2.cell (p := ⟨w1.heap.size, 3, none⟩) (by simp)]; simp [go_sem]
  clear X0 X1 X2 X3 hb2 hs1
  have o0 : FloatKind.f64.format.order g0.1 F0 = some .eq := Fl.eq_isI G0.out.1 P0.out.1
  have o0' : FloatKind.f64.format.order g0.2 F1 = some .eq := Fl.eq_isI G0.out.2 P0.out.2
  have o1 : FloatKind.f64.format.order g1.1 F2 = some .eq := Fl.eq_isI G1.out.1 P1.out.1
  have o1' : FloatKind.f64.format.order g1.2 F3 = some .eq := Fl.eq_isI G1.out.2 P1.out.2
  have o2 : FloatKind.f64.format.order g2.1 F4 = some .eq := Fl.eq_isI G2.out.1 P2.out.1
  have o2' : FloatKind.f64.format.order g2.2 F5 = some .eq := Fl.eq_isI G2.out.2 P2.out.2
  have o3 : FloatKind.f64.format.order g3.1 F6 = some .eq := Fl.eq_isI G3.out.1 P3.out.1
  have o3' : FloatKind.f64.format.order g3.2 F7 = some .eq := Fl.eq_isI G3.out.2 P3.out.2
  have B0 := Lib.hid fl_0
  go_wp2_with fail
  obtain ⟨v0, hv0⟩ : ∃ x, x = (w2.alloc (.cells #[.complex .f64 g0.1 g0.2, .complex .f64 g1.1 g1.2, .complex .f64 g2.1 g2.2, .complex .f64 g3.1 g3.2] 25)) := ⟨_, rfl⟩
  rw [← hv0]
  have FF0 := Lib.hid (show v0.cell? ⟨w.heap.size, 0, none⟩ = some (.complex .f64 F0 F1) ∧ v0.cell? ⟨w.heap.size, 1, none⟩ = some (.complex .f64 F2 F3) ∧ v0.cell? ⟨w.heap.size, 2, none⟩ = some (.complex .f64 F4 F5) ∧ v0.cell? ⟨w.heap.size, 3, none⟩ = some (.complex .f64 F6 F7) ∧ v0.cell? ⟨w1.heap.size, 0, none⟩ = some (.complex .f64 f0.1 f0.2) ∧ v0.cell? ⟨w1.heap.size, 1, none⟩ = some (.complex .f64 f1.1 f1.2) ∧ v0.cell? ⟨w1.heap.size, 2, none⟩ = some (.complex .f64 f2.1 f2.2) ∧ v0.cell? ⟨w1.heap.size, 3, none⟩ = some (.complex .f64 f3.1 f3.2) ∧ v0.cell? ⟨w2.heap.size, 0, none⟩ = some (.complex .f64 g0.1 g0.2) ∧ v0.cell? ⟨w2.heap.size, 1, none⟩ = some (.complex .f64 g1.1 g1.2) ∧ v0.cell? ⟨w2.heap.size, 2, none⟩ = some (.complex .f64 g2.1 g2.2) ∧ v0.cell? ⟨w2.heap.size, 3, none⟩ = some (.complex .f64 g3.1 g3.2) by
    rw [hv0]
    refine ⟨?_, ?_, ?_, ?_, ?_, ?_, ?_, ?_, ?_, ?_, ?_, ?_⟩
    · rw [World.cell?_alloc_lt _ _ _ (by exact hs3)]; exact X0'
    · rw [World.cell?_alloc_lt _ _ _ (by exact hs3)]; exact X1'
    · rw [World.cell?_alloc_lt _ _ _ (by exact hs3)]; exact X2'
    · rw [World.cell?_alloc_lt _ _ _ (by exact hs3)]; exact X3'
    · rw [World.cell?_alloc_lt _ _ _ (by exact hs2)]; exact Y0'
    · rw [World.cell?_alloc_lt _ _ _ (by exact hs2)]; exact Y1'
    · rw [World.cell?_alloc_lt _ _ _ (by exact hs2)]; exact Y2'
    · rw [World.cell?_alloc_lt _ _ _ (by exact hs2)]; exact Y3'
    · simp [go_sem]
    · simp [go_sem]
    · simp [go_sem]
    · simp [go_sem])
  have BB0 := Lib.hid (show Below w.heap.size w v0 by rw [hv0]; exact BW2.out.alloc (by omega) _)
  clear hv0 X0' X1' X2' X3' Y0' Y1' Y2' Y3' BW BW2 hs2 hs3
  refine wp_loop_rounds 5 ?_
  rw [rounds_succ]
  obtain ⟨x0, x1, x2, x3, y0, y1, y2, y3, z0, z1, z2, z3⟩ := FF0.out
  clear x1 x2 x3 y1 y2 y3 z1 z2 z3
  go_wp2_with fail
  go_quiet ((go_at_call 19; exact Calls.quiet_of_same (whole_same f0 _ Q0.out ⟨Nat.le_trans E0.out.1 (by decide), Nat.le_trans E0.out.2 (by decide)⟩ _)))
  go_wp2_with fail
  refine (norm_int f0 _ Q0.out ⟨Nat.le_trans E0.out.1 (by decide), Nat.le_trans E0.out.2 (by decide)⟩ _).mono ?_
  rintro e w' ⟨k0, rfl, hn, rfl⟩
  obtain ⟨b1, ha, hia⟩ := Fl.add_isI B0.out hn (by have b0 := nrm_bd E0.out; omega)
  obtain ⟨j0, jj0⟩ := addB_val ha
  have B1 := Lib.hid hia
  clear ha hia hn
  go_wp2_with fail
  clear j0 jj0 x0 y0 z0 o0 o0'
  obtain ⟨v1, hv⟩ : ∃ x, x = v0.drewN nq := ⟨_, rfl⟩
  rw [← hv]
  have FF1 := Lib.hid (show v1.cell? ⟨w.heap.size, 0, none⟩ = some (.complex .f64 F0 F1) ∧ v1.cell? ⟨w.heap.size, 1, none⟩ = some (.complex .f64 F2 F3) ∧ v1.cell? ⟨w.heap.size, 2, none⟩ = some (.complex .f64 F4 F5) ∧ v1.cell? ⟨w.heap.size, 3, none⟩ = some (.complex .f64 F6 F7) ∧ v1.cell? ⟨w1.heap.size, 0, none⟩ = some (.complex .f64 f0.1 f0.2) ∧ v1.cell? ⟨w1.heap.size, 1, none⟩ = some (.complex .f64 f1.1 f1.2) ∧ v1.cell? ⟨w1.heap.size, 2, none⟩ = some (.complex .f64 f2.1 f2.2) ∧ v1.cell? ⟨w1.heap.size, 3, none⟩ = some (.complex .f64 f3.1 f3.2) ∧ v1.cell? ⟨w2.heap.size, 0, none⟩ = some (.complex .f64 g0.1 g0.2) ∧ v1.cell? ⟨w2.heap.size, 1, none⟩ = some (.complex .f64 g1.1 g1.2) ∧ v1.cell? ⟨w2.heap.size, 2, none⟩ = some (.complex .f64 g2.1 g2.2) ∧ v1.cell? ⟨w2.heap.size, 3, none⟩ = some (.complex .f64 g3.1 g3.2) by rw [hv]; exact FF0.out)
  have BB1 := Lib.hid (show Below w.heap.size w v1 by rw [hv]; exact below_drewN BB0.out _)
  clear hv FF0 BB0
  rw [rounds_succ]
  obtain ⟨x0, x1, x2, x3, y0, y1, y2, y3, z0, z1, z2, z3⟩ := FF1.out
  clear x0 x2 x3 y0 y2 y3 z0 z2 z3
  go_wp2_with fail
  go_quiet ((go_at_call 19; exact Calls.quiet_of_same (whole_same f1 _ Q1.out ⟨Nat.le_trans E1.out.1 (by decide), Nat.le_trans E1.out.2 (by decide)⟩ _)))
  go_wp2_with fail
  refine (norm_int f1 _ Q1.out ⟨Nat.le_trans E1.out.1 (by decide), Nat.le_trans E1.out.2 (by decide)⟩ _).mono ?_
  rintro e w' ⟨k1, rfl, hn, rfl⟩
  obtain ⟨b2, ha, hia⟩ := Fl.add_isI B1.out hn (by have b0 := nrm_bd E0.out; have b1 := nrm_bd E1.out; omega)
  obtain ⟨j1, jj1⟩ := addB_val ha
  have B2 := Lib.hid hia
  clear ha hia hn
  go_wp2_with fail
  clear j1 jj1 x1 y1 z1 o1 o1'
  obtain ⟨v2, hv⟩ : ∃ x, x = v1.drewN nq := ⟨_, rfl⟩
  rw [← hv]
  have FF2 := Lib.hid (show v2.cell? ⟨w.heap.size, 0, none⟩ = some (.complex .f64 F0 F1) ∧ v2.cell? ⟨w.heap.size, 1, none⟩ = some (.complex .f64 F2 F3) ∧ v2.cell? ⟨w.heap.size, 2, none⟩ = some (.complex .f64 F4 F5) ∧ v2.cell? ⟨w.heap.size, 3, none⟩ = some (.complex .f64 F6 F7) ∧ v2.cell? ⟨w1.heap.size, 0, none⟩ = some (.complex .f64 f0.1 f0.2) ∧ v2.cell? ⟨w1.heap.size, 1, none⟩ = some (.complex .f64 f1.1 f1.2) ∧ v2.cell? ⟨w1.heap.size, 2, none⟩ = some (.complex .f64 f2.1 f2.2) ∧ v2.cell? ⟨w1.heap.size, 3, none⟩ = some (.complex .f64 f3.1 f3.2) ∧ v2.cell? ⟨w2.heap.size, 0, none⟩ = some (.complex .f64 g0.1 g0.2) ∧ v2.cell? ⟨w2.heap.size, 1, none⟩ = some (.complex .f64 g1.1 g1.2) ∧ v2.cell? ⟨w2.heap.size, 2, none⟩ = some (.complex .f64 g2.1 g2.2) ∧ v2.cell? ⟨w2.heap.size, 3, none⟩ = some (.complex .f64 g3.1 g3.2) by rw [hv]; exact FF1.out)
  have BB2 := Lib.hid (show Below w.heap.size w v2 by rw [hv]; exact below_drewN BB1.out _)
  clear hv FF1 BB1
  rw [rounds_succ]
  obtain ⟨x0, x1, x2, x3, y0, y1, y2, y3, z0, z1, z2, z3⟩ := FF2.out
  clear x0 x1 x3 y0 y1 y3 z0 z1 z3
  go_wp2_with fail
  go_quiet ((go_at_call 19; exact Calls.quiet_of_same (whole_same f2 _ Q2.out ⟨Nat.le_trans E2.out.1 (by decide), Nat.le_trans E2.out.2 (by decide)⟩ _)))
  go_wp2_with fail
  refine (norm_int f2 _ Q2.out ⟨Nat.le_trans E2.out.1 (by decide), Nat.le_trans E2.out.2 (by decide)⟩ _).mono ?_
  rintro e w' ⟨k2, rfl, hn, rfl⟩
  obtain ⟨b3, ha, hia⟩ := Fl.add_isI B2.out hn (by have b0 := nrm_bd E0.out; have b1 := nrm_bd E1.out; have b2 := nrm_bd E2.out; omega)
  obtain ⟨j2, jj2⟩ := addB_val ha
  have B3 := Lib.hid hia
  clear ha hia hn
  go_wp2_with fail
  clear j2 jj2 x2 y2 z2 o2 o2'
  obtain ⟨v3, hv⟩ : ∃ x, x = v2.drewN nq := ⟨_, rfl⟩
  rw [← hv]
  have FF3 := Lib.hid (show v3.cell? ⟨w.heap.size, 0, none⟩ = some (.complex .f64 F0 F1) ∧ v3.cell? ⟨w.heap.size, 1, none⟩ = some (.complex .f64 F2 F3) ∧ v3.cell? ⟨w.heap.size, 2, none⟩ = some (.complex .f64 F4 F5) ∧ v3.cell? ⟨w.heap.size, 3, none⟩ = some (.complex .f64 F6 F7) ∧ v3.cell? ⟨w1.heap.size, 0, none⟩ = some (.complex .f64 f0.1 f0.2) ∧ v3.cell? ⟨w1.heap.size, 1, none⟩ = some (.complex .f64 f1.1 f1.2) ∧ v3.cell? ⟨w1.heap.size, 2, none⟩ = some (.complex .f64 f2.1 f2.2) ∧ v3.cell? ⟨w1.heap.size, 3, none⟩ = some (.complex .f64 f3.1 f3.2) ∧ v3.cell? ⟨w2.heap.size, 0, none⟩ = some (.complex .f64 g0.1 g0.2) ∧ v3.cell? ⟨w2.heap.size, 1, none⟩ = some (.complex .f64 g1.1 g1.2) ∧ v3.cell? ⟨w2.heap.size, 2, none⟩ = some (.complex .f64 g2.1 g2.2) ∧ v3.cell? ⟨w2.heap.size, 3, none⟩ = some (.complex .f64 g3.1 g3.2) by rw [hv]; exact FF2.out)
  have BB3 := Lib.hid (show Below w.heap.size w v3 by rw [hv]; exact below_drewN BB2.out _)
  clear hv FF2 BB2
  rw [rounds_succ]
  obtain ⟨x0, x1, x2, x3, y0, y1, y2, y3, z0, z1, z2, z3⟩ := FF3.out
  clear x0 x1 x2 y0 y1 y2 z0 z1 z2
  go_wp2_with fail
  go_quiet ((go_at_call 19; exact Calls.quiet_of_same (whole_same f3 _ Q3.out ⟨Nat.le_trans E3.out.1 (by decide), Nat.le_trans E3.out.2 (by decide)⟩ _)))
  go_wp2_with fail
  refine (norm_int f3 _ Q3.out ⟨Nat.le_trans E3.out.1 (by decide), Nat.le_trans E3.out.2 (by decide)⟩ _).mono ?_
  rintro e w' ⟨k3, rfl, hn, rfl⟩
  obtain ⟨b4, ha, hia⟩ := Fl.add_isI B3.out hn (by have b0 := nrm_bd E0.out; have b1 := nrm_bd E1.out; have b2 := nrm_bd E2.out; have b3 := nrm_bd E3.out; omega)
  obtain ⟨j3, jj3⟩ := addB_val ha
  have B4 := Lib.hid hia
  clear ha hia hn
  go_wp2_with fail
  clear j3 jj3 x3 y3 z3 o3 o3'
  obtain ⟨v4, hv⟩ : ∃ x, x = v3.drewN nq := ⟨_, rfl⟩
  rw [← hv]
  have FF4 := Lib.hid (show v4.cell? ⟨w.heap.size, 0, none⟩ = some (.complex .f64 F0 F1) ∧ v4.cell? ⟨w.heap.size, 1, none⟩ = some (.complex .f64 F2 F3) ∧ v4.cell? ⟨w.heap.size, 2, none⟩ = some (.complex .f64 F4 F5) ∧ v4.cell? ⟨w.heap.size, 3, none⟩ = some (.complex .f64 F6 F7) ∧ v4.cell? ⟨w1.heap.size, 0, none⟩ = some (.complex .f64 f0.1 f0.2) ∧ v4.cell? ⟨w1.heap.size, 1, none⟩ = some (.complex .f64 f1.1 f1.2) ∧ v4.cell? ⟨w1.heap.size, 2, none⟩ = some (.complex .f64 f2.1 f2.2) ∧ v4.cell? ⟨w1.heap.size, 3, none⟩ = some (.complex .f64 f3.1 f3.2) ∧ v4.cell? ⟨w2.heap.size, 0, none⟩ = some (.complex .f64 g0.1 g0.2) ∧ v4.cell? ⟨w2.heap.size, 1, none⟩ = some (.complex .f64 g1.1 g1.2) ∧ v4.cell? ⟨w2.heap.size, 2, none⟩ = some (.complex .f64 g2.1 g2.2) ∧ v4.cell? ⟨w2.heap.size, 3, none⟩ = some (.complex .f64 g3.1 g3.2) by rw [hv]; exact FF3.out)
  have BB4 := Lib.hid (show Below w.heap.size w v4 by rw [hv]; exact below_drewN BB3.out _)
  clear hv FF3 BB3
  rw [rounds_succ]
  go_wp2_with fail
  refine (told_any _).mono ?_
  rintro e w3 ⟨rfl, hb3⟩
  obtain ⟨x0, x1, x2, x3, y0, y1, y2, y3, z0, z1, z2, z3⟩ := FF4.out
  have X0 := (hb3.cell (World.block_lt_of_cell? _ _ x0)).trans x0
  have X1 := (hb3.cell (World.block_lt_of_cell? _ _ x1)).trans x1
  have X2 := (hb3.cell (World.block_lt_of_cell? _ _ x2)).trans x2
  have X3 := (hb3.cell (World.block_lt_of_cell? _ _ x3)).trans x3
  have Y0 := (hb3.cell (World.block_lt_of_cell? _ _ y0)).trans y0
  clear x0 x1 x2 x3 y0 y1 y2 y3 z0 z1 z2 z3
  have B9 := Lib.hid (BB4.out.trans (hb3.mono BB4.out.size))
  clear hb3 FF4 BB4
  have na0 := nrm_bd D0.out
  have na1 := nrm_bd D1.out
  have na2 := nrm_bd D2.out
  have na3 := nrm_bd D3.out
  obtain ⟨c, hc, hci⟩ := Fl.mul_isI fl_4 A4.out (by omega)
  obtain ⟨c0, cc0⟩ := mulB_val hc
  have hn4 := norms4 (m0, m1) (m2, m3) (m4, m5) (m6, m7)
  have oo : FloatKind.f64.format.order b4 c = some .eq := by
    have hB := B4.out
    refine Fl.eq_isI hB (?_ : Fl.isI c _)
    have e : 0 + nrmI (spunI 0 (m0, m1) (m2, m3) (m4, m5) (m6, m7)) + nrmI (spunI (-1) (m0, m1) (m2, m3) (m4, m5) (m6, m7)) + nrmI (spunI (-2) (m0, m1) (m2, m3) (m4, m5) (m6, m7)) + nrmI (spunI (-3) (m0, m1) (m2, m3) (m4, m5) (m6, m7)) = 4 * (0 + nrmI (m0, m1) + nrmI (m2, m3) + nrmI (m4, m5) + nrmI (m6, m7)) := by omega
    rw [e]; exact hci
  clear na0 na1 na2 na3 hc hci hn4
  have u1 := D0.out
  have u2 := D1.out
  have u3 := D2.out
  have u4 := D3.out
  have d0 := u1.1; have d1 := u1.2; have d2 := u2.1; have d3 := u2.2; have d4 := u3.1; have d5 := u3.2; have d6 := u4.1; have d7 := u4.2
  simp only at d0 d1 d2 d3 d4 d5 d6 d7
  obtain ⟨h1, e1, i1⟩ := Fl.add_isI P0.out.1 P1.out.1 (by simp only; omega)
  obtain ⟨h2, e2, i2⟩ := Fl.add_isI i1 P2.out.1 (by simp only; omega)
  obtain ⟨h3, e3, i3⟩ := Fl.add_isI i2 P3.out.1 (by simp only; omega)
  obtain ⟨k1, e4, i4⟩ := Fl.add_isI P0.out.2 P1.out.2 (by simp only; omega)
  obtain ⟨k2, e5, i5⟩ := Fl.add_isI i4 P2.out.2 (by simp only; omega)
  obtain ⟨k3, e6, i6⟩ := Fl.add_isI i5 P3.out.2 (by simp only; omega)
  simp only at e1 e2 e3 e4 e5 e6
  obtain ⟨p1, pp1⟩ := addB_val e1
  obtain ⟨p2, pp2⟩ := addB_val e2
  obtain ⟨p3, pp3⟩ := addB_val e3
  obtain ⟨p4, pp4⟩ := addB_val e4
  obtain ⟨p5, pp5⟩ := addB_val e5
  obtain ⟨p6, pp6⟩ := addB_val e6
  have q0 := Q0.out
  have es : spunI 0 (m0, m1) (m2, m3) (m4, m5) (m6, m7) = (m0 + m2 + m4 + m6, m1 + m3 + m5 + m7) := by simp [spunI, spinI, addI]
  rw [es] at q0
  have r1 : FloatKind.f64.format.order f0.1 h3 = some .eq := Fl.eq_isI q0.1 i3
  have r2 : FloatKind.f64.format.order f0.2 k3 = some .eq := Fl.eq_isI q0.2 i6
  clear u1 u2 u3 u4 d0 d1 d2 d3 d4 d5 d6 d7 i1 i2 i3 i4 i5 i6 e1 e2 e3 e4 e5 e6 q0 es
  go_wp2_with fail
  go_ret
  exact ⟨rfl, by first | exact B9.out | exact below_drewN B9.out _⟩

set_option maxHeartbeats 400000 in
theorem qback_few (a : Option Addr) (len cap : Nat) (w : World) (hl : len < 8) :
    Calls Try.prog 4 #[.slice a len cap] w fun e w' => e = .returned (.bool true) ∧ Below w.heap.size w w' := by
  go_enter Try.func4, Try.ntmps4
  go_wp2_with fail
  refine (told_any _).mono ?_
  rintro e w3 ⟨rfl, hb3⟩
  go_wp2_with fail
  go_ret
  exact ⟨rfl, hb3⟩

/-- eight cells of a row of integers. -/
theorem row8 {w : World} {x : Addr} {cap : Nat} {zs : List Int} (hc : 8 ≤ cap) (hz : zs.length = cap) (h : ∀ i, i < zs.length → w.cell? (x.add i) = some (.int .i64 (zs.getD i 0))) :
    ∃ b off, x = ⟨b, off, none⟩ ∧ ∀ i, i < 8 → w.cell? ⟨b, off + i, none⟩ = some (.int .i64 (zs.getD i 0)) := by
  have h1 := h 0 (by omega)
  obtain ⟨b, off, rfl⟩ := addr_of h1
  exact ⟨b, off, rfl, fun i hi => by rw [← add_at]; exact h i (by omega)⟩

theorem qback_any (a : Option Addr) (len cap : Nat) (z : List Int) (w : World) (h : IsRow .i64 w a len cap z) :
    Calls Try.prog 4 #[.slice a len cap] w fun e w' => e = .returned (.bool true) ∧ Below w.heap.size w w' := by
  by_cases hl : len < 8
  · exact qback_few a len cap w hl
  · rcases h with ⟨_, h, _⟩ | ⟨x, rfl, hlc, _, hz, hx, _⟩
    · omega
    · obtain ⟨b, off, rfl, hc⟩ := row8 (by omega) hz hx
      exact qback_some b off len cap _ _ _ _ _ _ _ _ w (by omega) (hc 0 (by decide)) (hc 1 (by decide)) (hc 2 (by decide)) (hc 3 (by decide)) (hc 4 (by decide)) (hc 5 (by decide)) (hc 6 (by decide)) (hc 7 (by decide))

end Go.Proofs.Ytlnfghmkfgihjaa
