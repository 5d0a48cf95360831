/-
  QuadShift, walked: numbers moved on by one place have their four sums turned.
-/
import Derived.Test.YtlnfghmkfgihjaaBack
import Derived.Deep.DeepCutAuto
import Derived.Deep.RegionWith
namespace Go.Proofs.Ytlnfghmkfgihjaa
open Go.RowKit

def pickQ (a b c d : Nat × Nat) : Nat → Nat × Nat
  | 0 => a
  | 1 => b
  | 2 => c
  | _ => d

theorem shift0 (p0 p1 p2 p3 : Int × Int) : spunI 0 p3 p0 p1 p2 = spinI 0 (spunI 0 p0 p1 p2 p3) := by
  simp [spunI, spinI, addI]; constructor <;> omega
theorem shift1 (p0 p1 p2 p3 : Int × Int) : spunI (-1) p3 p0 p1 p2 = spinI (-1) (spunI (-1) p0 p1 p2 p3) := by
  simp [spunI, spinI, addI]; constructor <;> omega
theorem shift2 (p0 p1 p2 p3 : Int × Int) : spunI (-2) p3 p0 p1 p2 = spinI (-2) (spunI (-2) p0 p1 p2 p3) := by
  simp [spunI, spinI, addI]; constructor <;> omega
theorem shift3 (p0 p1 p2 p3 : Int × Int) : spunI (-3) p3 p0 p1 p2 = spinI (-3) (spunI (-3) p0 p1 p2 p3) := by
  simp [spunI, spinI, addI]; constructor <;> omega

theorem spin_same (k : Int) (a b : Nat) (w : World) :
    Calls Try.prog 20 #[.complex .f64 a b, .int .i64 k] w fun e w' => e = .returned (cx (spin k (a, b))) ∧ w' = w :=
  (spin_any k a b w).mono fun _ _ h => ⟨h.1, h.2.symm⟩

/-- four cells of a block. -/
def Row4 (w : World) (g : Nat) (f : Nat → Nat × Nat) : Prop := ∀ j, j < 4 → w.cell? ⟨g, j, none⟩ = some (.complex .f64 (f j).1 (f j).2)

theorem four_two (x0 x1 x2 x3 y0 y1 y2 y3 : Nat × Nat) (bx byy : Nat) (W : World) (h : W.cell? ⟨bx, 0, none⟩ = some (.complex .f64 x0.1 x0.2) ∧ W.cell? ⟨bx, 1, none⟩ = some (.complex .f64 x1.1 x1.2) ∧ W.cell? ⟨bx, 2, none⟩ = some (.complex .f64 x2.1 x2.2) ∧ W.cell? ⟨bx, 3, none⟩ = some (.complex .f64 x3.1 x3.2) ∧ W.cell? ⟨byy, 0, none⟩ = some (.complex .f64 y0.1 y0.2) ∧ W.cell? ⟨byy, 1, none⟩ = some (.complex .f64 y1.1 y1.2) ∧ W.cell? ⟨byy, 2, none⟩ = some (.complex .f64 y2.1 y2.2) ∧ W.cell? ⟨byy, 3, none⟩ = some (.complex .f64 y3.1 y3.2)) :
    Calls Try.prog 11 #[.agg #[.complex .f64 x0.1 x0.2, .complex .f64 x1.1 x1.2, .complex .f64 x2.1 x2.2, .complex .f64 x3.1 x3.2]] W fun e w' =>
      ∃ r0 r1 r2 r3, e = .returned (.agg #[cx r0, cx r1, cx r2, cx r3]) ∧ Below W.heap.size W w' ∧
      (w'.cell? ⟨bx, 0, none⟩ = some (.complex .f64 x0.1 x0.2) ∧ w'.cell? ⟨bx, 1, none⟩ = some (.complex .f64 x1.1 x1.2) ∧ w'.cell? ⟨bx, 2, none⟩ = some (.complex .f64 x2.1 x2.2) ∧ w'.cell? ⟨bx, 3, none⟩ = some (.complex .f64 x3.1 x3.2) ∧ w'.cell? ⟨byy, 0, none⟩ = some (.complex .f64 y0.1 y0.2) ∧ w'.cell? ⟨byy, 1, none⟩ = some (.complex .f64 y1.1 y1.2) ∧ w'.cell? ⟨byy, 2, none⟩ = some (.complex .f64 y2.1 y2.2) ∧ w'.cell? ⟨byy, 3, none⟩ = some (.complex .f64 y3.1 y3.2)) ∧
      Spun 0 x0 x1 x2 x3 r0 ∧ Spun (-1) x0 x1 x2 x3 r1 ∧ Spun (-2) x0 x1 x2 x3 r2 ∧ Spun (-3) x0 x1 x2 x3 r3 := by
  obtain ⟨h0, h1, h2, h3, k0, k1, k2, k3⟩ := h
  have l1 := World.block_lt_of_cell? W _ h0
  have l2 := World.block_lt_of_cell? W _ k0
  refine (four_any x0 x1 x2 x3 W).mono ?_
  rintro e w' ⟨r0, r1, r2, r3, he, hb, hs⟩
  exact ⟨r0, r1, r2, r3, he, hb, ⟨(hb.cell (by exact l1)).trans h0, (hb.cell (by exact l1)).trans h1, (hb.cell (by exact l1)).trans h2, (hb.cell (by exact l1)).trans h3, (hb.cell (by exact l2)).trans k0, (hb.cell (by exact l2)).trans k1, (hb.cell (by exact l2)).trans k2, (hb.cell (by exact l2)).trans k3⟩, hs⟩

/-- what stands behind 'f, g := Four(x), Four(y)'. -/
def ShAt (v wx : World) (g7 g8 : Nat) (x0 x1 x2 x3 r0 r1 r2 r3 q0 q1 q2 q3 : Nat × Nat) : Prop :=
  Below v.heap.size v wx ∧ (wx.cell? ⟨g7, 0, none⟩ = some (.complex .f64 r0.1 r0.2) ∧ wx.cell? ⟨g7, 1, none⟩ = some (.complex .f64 r1.1 r1.2) ∧ wx.cell? ⟨g7, 2, none⟩ = some (.complex .f64 r2.1 r2.2) ∧ wx.cell? ⟨g7, 3, none⟩ = some (.complex .f64 r3.1 r3.2) ∧ wx.cell? ⟨g8, 0, none⟩ = some (.complex .f64 q0.1 q0.2) ∧ wx.cell? ⟨g8, 1, none⟩ = some (.complex .f64 q1.1 q1.2) ∧ wx.cell? ⟨g8, 2, none⟩ = some (.complex .f64 q2.1 q2.2) ∧ wx.cell? ⟨g8, 3, none⟩ = some (.complex .f64 q3.1 q3.2)) ∧
  (Spun 0 x0 x1 x2 x3 r0 ∧ Spun (-1) x0 x1 x2 x3 r1 ∧ Spun (-2) x0 x1 x2 x3 r2 ∧ Spun (-3) x0 x1 x2 x3 r3) ∧
  (Spun 0 x3 x0 x1 x2 q0 ∧ Spun (-1) x3 x0 x1 x2 q1 ∧ Spun (-2) x3 x0 x1 x2 q2 ∧ Spun (-3) x3 x0 x1 x2 q3)

set_option linter.unusedSimpArgs false in
set_option maxHeartbeats 8000000 in
theorem qshift_some (b off len cap : Nat) (l0 l1 l2 l3 l4 l5 l6 l7 : Int) (w : World) (h8 : 8 ≤ len)
    (c0 : w.cell? ⟨b, off, none⟩ = some (.int .i64 l0)) (c1 : w.cell? ⟨b, off + 1, none⟩ = some (.int .i64 l1)) (c2 : w.cell? ⟨b, off + 2, none⟩ = some (.int .i64 l2)) (c3 : w.cell? ⟨b, off + 3, none⟩ = some (.int .i64 l3))
    (c4 : w.cell? ⟨b, off + 4, none⟩ = some (.int .i64 l4)) (c5 : w.cell? ⟨b, off + 5, none⟩ = some (.int .i64 l5)) (c6 : w.cell? ⟨b, off + 6, none⟩ = some (.int .i64 l6)) (c7 : w.cell? ⟨b, off + 7, none⟩ = some (.int .i64 l7)) :
    Calls Try.prog 7 #[.slice (some ⟨b, off, none⟩) len cap] w fun e w' => e = .returned (.bool true) ∧ Below w.heap.size w w' := by
  have hb : b < w.heap.size := World.block_lt_of_cell? w _ c0
  have ne0 := World.new_ne w _ c0
  have ne1 : w.heap.size + 1 ≠ b := by omega
  obtain ⟨m0, F0, hm0, hn0, hF0, hI0, hd0⟩ := num_of l0
  obtain ⟨m1, F1, hm1, hn1, hF1, hI1, hd1⟩ := num_of l1
  obtain ⟨m2, F2, hm2, hn2, hF2, hI2, hd2⟩ := num_of l2
  obtain ⟨m3, F3, hm3, hn3, hF3, hI3, hd3⟩ := num_of l3
  obtain ⟨m4, F4, hm4, hn4, hF4, hI4, hd4⟩ := num_of l4
  obtain ⟨m5, F5, hm5, hn5, hF5, hI5, hd5⟩ := num_of l5
  obtain ⟨m6, F6, hm6, hn6, hF6, hI6, hd6⟩ := num_of l6
  obtain ⟨m7, F7, hm7, hn7, hF7, hI7, hd7⟩ := num_of l7
  have P0 := Lib.hid (show CI (F0, F1) (m0, m1) from ⟨hI0, hI1⟩)
  have D0 := Lib.hid (show Bd 1000 (m0, m1) from ⟨hd0, hd1⟩)
  have P1 := Lib.hid (show CI (F2, F3) (m2, m3) from ⟨hI2, hI3⟩)
  have D1 := Lib.hid (show Bd 1000 (m2, m3) from ⟨hd2, hd3⟩)
  have P2 := Lib.hid (show CI (F4, F5) (m4, m5) from ⟨hI4, hI5⟩)
  have D2 := Lib.hid (show Bd 1000 (m4, m5) from ⟨hd4, hd5⟩)
  have P3 := Lib.hid (show CI (F6, F7) (m6, m7) from ⟨hI6, hI7⟩)
  have D3 := Lib.hid (show Bd 1000 (m6, m7) from ⟨hd6, hd7⟩)
  clear hI0 hd0 hI1 hd1 hI2 hd2 hI3 hd3 hI4 hd4 hI5 hd5 hI6 hd6 hI7 hd7
  have x0 := wrap_lit 0 (by decide)
  have x1 := wrap_lit 1 (by decide)
  have x2 := wrap_lit 2 (by decide)
  have x3 := wrap_lit 3 (by decide)
  have x4 := wrap_lit 4 (by decide)
  have x5 := wrap_lit 5 (by decide)
  have x6 := wrap_lit 6 (by decide)
  have x7 := wrap_lit 7 (by decide)
  have y0 : 0 < len := by omega
  have y1 : (1 : Int) < (len : Int) := by omega
  have y2 : (2 : Int) < (len : Int) := by omega
  have y3 : (3 : Int) < (len : Int) := by omega
  have y4 : (4 : Int) < (len : Int) := by omega
  have y5 : (5 : Int) < (len : Int) := by omega
  have y6 : (6 : Int) < (len : Int) := by omega
  have y7 : (7 : Int) < (len : Int) := by omega
  have y8 : (8 : Int) ≤ (len : Int) := by omega
  go_enter Try.func7, Try.ntmps7
  go_wp2_with fail
  refine wp_loop_rounds 5 ?_
  rw [rounds_succ]
  go_wp2_with fail
  go_region_held3 (fun w' => w'.cell? ⟨b, off, none⟩ = some (.int .i64 l0) ∧ w'.cell? ⟨b, off + 1, none⟩ = some (.int .i64 l1)) (go_keep) (fail)
  go_wp2_with fail
  rw [rounds_succ]
  go_wp2_with fail
  go_region_held3 (fun w' => w'.cell? ⟨b, off + 2, none⟩ = some (.int .i64 l2) ∧ w'.cell? ⟨b, off + 3, none⟩ = some (.int .i64 l3)) (go_keep) (fail)
  go_wp2_with fail
  rw [rounds_succ]
  go_wp2_with fail
  go_region_held3 (fun w' => w'.cell? ⟨b, off + 4, none⟩ = some (.int .i64 l4) ∧ w'.cell? ⟨b, off + 5, none⟩ = some (.int .i64 l5)) (go_keep) (fail)
  go_wp2_with fail
  rw [rounds_succ]
  go_wp2_with fail
  go_region_held3 (fun w' => w'.cell? ⟨b, off + 6, none⟩ = some (.int .i64 l6) ∧ w'.cell? ⟨b, off + 7, none⟩ = some (.int .i64 l7)) (go_keep) (fail)
  go_wp2_with fail
  rw [rounds_succ]
  go_wp2_with fail
  refine wp_loop_rounds 5 ?_
  rw [rounds_succ]
  go_wp2_with fail
  rw [rounds_succ]
  go_wp2_with fail
  rw [rounds_succ]
  go_wp2_with fail
  rw [rounds_succ]
  go_wp2_with fail
  rw [rounds_succ]
  go_wp2_with fail
  refine name_world (fun W => (Below w.heap.size w W ∧ w.heap.size + 1 < W.heap.size) ∧ W.cell? ⟨w.heap.size, 0, none⟩ = some (.complex .f64 F0 F1) ∧ W.cell? ⟨w.heap.size, 1, none⟩ = some (.complex .f64 F2 F3) ∧ W.cell? ⟨w.heap.size, 2, none⟩ = some (.complex .f64 F4 F5) ∧ W.cell? ⟨w.heap.size, 3, none⟩ = some (.complex .f64 F6 F7) ∧ W.cell? ⟨w.heap.size + 1, 0, none⟩ = some (.complex .f64 F6 F7) ∧ W.cell? ⟨w.heap.size + 1, 1, none⟩ = some (.complex .f64 F0 F1) ∧ W.cell? ⟨w.heap.size + 1, 2, none⟩ = some (.complex .f64 F2 F3) ∧ W.cell? ⟨w.heap.size + 1, 3, none⟩ = some (.complex .f64 F4 F5)) ?hS ?_
  case hS =>
    refine ⟨⟨?_, by simp⟩, ?_, ?_, ?_, ?_, ?_, ?_, ?_, ?_⟩
    · repeat (first | with_reducible refine below_drewN ?_ _ | with_reducible refine Below.drew ?_ | with_reducible refine Below.setCell ?_ (by simp) _ | with_reducible refine Below.alloc ?_ (by simp) _ | with_reducible exact Below.refl _ _)
    all_goals simp [go_sem]
  rintro v ⟨⟨hBv, hv⟩, a0, a1, a2, a3, a4, a5, a6, a7⟩
  have HBv := Lib.hid hBv
  clear hBv c0 c1 c2 c3 c4 c5 c6 c7 ne0 ne1 hb h8
  clear hm0 hn0 hF0 x0 hm1 hn1 hF1 x1 hm2 hn2 hF2 x2 hm3 hn3 hF3 x3 hm4 hn4 hF4 x4 hm5 hn5 hF5 x5 hm6 hn6 hF6 x6 hm7 hn7 hF7 x7 y0 y1 y2 y3 y4 y5 y6 y7 y8
  have ne0 : v.heap.size ≠ w.heap.size := by omega
  have ne1 : v.heap.size + 1 ≠ w.heap.size := by omega
  have ne2 : v.heap.size ≠ w.heap.size + 1 := by omega
  have ne3 : v.heap.size + 1 ≠ w.heap.size + 1 := by omega
  go_wp2_with fail
  go_cut [7, 8] (fun s7 s8 wx => ∃ (g7 g8 : Nat) (r0 r1 r2 r3 q0 q1 q2 q3 : Nat × Nat), s7 = .pointer (some ⟨g7, 0, none⟩) ∧ s8 = .pointer (some ⟨g8, 0, none⟩) ∧ ShAt v wx g7 g8 (F0, F1) (F2, F3) (F4, F5) (F6, F7) r0 r1 r2 r3 q0 q1 q2 q3)
  case first =>
    go_region_held3 (fun w' => w'.cell? ⟨w.heap.size, 0, none⟩ = some (.complex .f64 F0 F1) ∧ w'.cell? ⟨w.heap.size, 1, none⟩ = some (.complex .f64 F2 F3) ∧ w'.cell? ⟨w.heap.size, 2, none⟩ = some (.complex .f64 F4 F5) ∧ w'.cell? ⟨w.heap.size, 3, none⟩ = some (.complex .f64 F6 F7) ∧ w'.cell? ⟨w.heap.size + 1, 0, none⟩ = some (.complex .f64 F6 F7) ∧ w'.cell? ⟨w.heap.size + 1, 1, none⟩ = some (.complex .f64 F0 F1) ∧ w'.cell? ⟨w.heap.size + 1, 2, none⟩ = some (.complex .f64 F2 F3) ∧ w'.cell? ⟨w.heap.size + 1, 3, none⟩ = some (.complex .f64 F4 F5)) (go_keep)
      (first | (go_at_call_of 11 (Value.agg #[.complex .f64 F0 F1, .complex .f64 F2 F3, .complex .f64 F4 F5, .complex .f64 F6 F7]); refine (four_two (F0, F1) (F2, F3) (F4, F5) (F6, F7) (F6, F7) (F0, F1) (F2, F3) (F4, F5) w.heap.size (w.heap.size + 1) _ (by go_split_ands; refine ⟨?_, ?_, ?_, ?_, ?_, ?_, ?_, ?_⟩ <;> assumption)).mono ?_; rintro e w1 ⟨r0, r1, r2, r3, rfl, hb1, ⟨b0, b1, b2, b3, b4, b5, b6, b7⟩, s0, s1, s2, s3⟩; obtain ⟨hc1, hf1⟩ := bcell hb1; have hz1 := hb1.size; (try simp only [World.size_alloc] at hz1); (try simp only [World.size_drew] at hz1); (try simp only [World.size_alloc] at hz1); (try simp only [World.size_drew] at hz1); have bq1 : w.heap.size + 1 < w1.heap.size := (by omega); have br1 : w.heap.size < w1.heap.size := (by omega); have be1 : w1.heap.size ≠ w.heap.size := (by omega); have bi1 : w1.heap.size ≠ w.heap.size + 1 := (by omega); have bg1 : w1.heap.size + 1 ≠ w.heap.size := (by omega); have bh1 : w1.heap.size + 1 ≠ w.heap.size + 1 := (by omega); (try (have y1 := Nat.lt_of_succ_le hz1; have ye1 := Nat.ne_of_gt y1; have yl1 := Nat.le_of_lt y1)); (try (have z1 := Nat.lt_of_succ_lt y1; have ze1 := Nat.ne_of_gt z1; have zl1 := Nat.le_of_lt z1))) | (go_at_call_of 11 (Value.agg #[.complex .f64 F6 F7, .complex .f64 F0 F1, .complex .f64 F2 F3, .complex .f64 F4 F5]); refine (four_two (F6, F7) (F0, F1) (F2, F3) (F4, F5) (F0, F1) (F2, F3) (F4, F5) (F6, F7) (w.heap.size + 1) w.heap.size _ (by go_split_ands; refine ⟨?_, ?_, ?_, ?_, ?_, ?_, ?_, ?_⟩ <;> assumption)).mono ?_; rintro e w2 ⟨q0, q1, q2, q3, rfl, hb2, ⟨d0, d1, d2, d3, d4, d5, d6, d7⟩, t0, t1, t2, t3⟩; obtain ⟨hc2, hf2⟩ := bcell hb2; have hz2 := hb2.size; (try simp only [World.size_alloc] at hz2); (try simp only [World.size_drew] at hz2); (try simp only [World.size_alloc] at hz2); (try simp only [World.size_drew] at hz2); have bq2 : w.heap.size + 1 < w2.heap.size := (by omega); have br2 : w.heap.size < w2.heap.size := (by omega); have be2 : w2.heap.size ≠ w.heap.size := (by omega); have bi2 : w2.heap.size ≠ w.heap.size + 1 := (by omega); have bg2 : w2.heap.size + 1 ≠ w.heap.size := (by omega); have bh2 : w2.heap.size + 1 ≠ w.heap.size + 1 := (by omega); (try (have yy2 : v.heap.size < w2.heap.size := (by omega); have yn2 := Nat.ne_of_gt yy2)); (try (have yz2 : v.heap.size + 1 < w2.heap.size := (by omega); have ym2 := Nat.ne_of_gt yz2)); (try (have y2 := Nat.lt_of_succ_le hz2; have ye2 := Nat.ne_of_gt y2; have yl2 := Nat.le_of_lt y2)); (try (have z2 := Nat.lt_of_succ_lt y2; have ze2 := Nat.ne_of_gt z2; have zl2 := Nat.le_of_lt z2))))
    all_goals
      go_wp2_with fail
      go_meet
      case rel =>
        refine ⟨_, _, r0, r1, r2, r3, q0, q1, q2, q3, rfl, rfl, ?_, ⟨?_, ?_, ?_, ?_, ?_, ?_, ?_, ?_⟩, ⟨s0, s1, s2, s3⟩, ⟨t0, t1, t2, t3⟩⟩
        · repeat (first | with_reducible refine Below.drew ?_ | with_reducible refine Below.setCell ?_ (by first | omega | (simp; done) | (simp; omega)) _ | with_reducible refine Below.alloc ?_ (by first | omega | (simp; done) | (simp; omega)) _ | with_reducible refine Below.trans ?_ (hb2.mono (by first | omega | (simp; done) | (simp; omega))) | with_reducible refine Below.trans ?_ (hb1.mono (by first | omega | (simp; done) | (simp; omega))) | with_reducible exact Below.refl _ _)
        all_goals first | (simp [*, go_sem, World.cell?_setCell_far, cell_set_same]; done) | (simp [*, go_sem, World.cell?_setCell_far]; refine cell_set_same _ _ _ ?_; simp [*, go_sem, World.cell?_setCell_far]; done) | (refine cell_set_same _ _ _ ?_; simp [*, go_sem, World.cell?_setCell_far])
  case rest =>
    obtain ⟨g7, g8, r0, r1, r2, r3, q0, q1, q2, q3, rfl, rfl, hS⟩ := hcut
    obtain ⟨hB, hcells, ⟨s0, s1, s2, s3⟩, ⟨t0, t1, t2, t3⟩⟩ := hS
    clear a0 a1 a2 a3 a4 a5 a6 a7 ne0 ne1 ne2 ne3
    have R0 := (s0.CI P0.out P1.out P2.out P3.out D0.out D1.out D2.out D3.out (by decide)).1
    have K0 := (t0.CI P3.out P0.out P1.out P2.out D3.out D0.out D1.out D2.out (by decide)).1
    rw [shift0] at K0
    have Z0 := spin_CI 0 R0
    have o0 : FloatKind.f64.format.order q0.1 (spin 0 (r0.1, r0.2)).1 = some .eq := Fl.eq_isI K0.1 Z0.1
    have o0' : FloatKind.f64.format.order q0.2 (spin 0 (r0.1, r0.2)).2 = some .eq := Fl.eq_isI K0.2 Z0.2
    clear R0 K0 Z0 s0 t0
    have R1 := (s1.CI P0.out P1.out P2.out P3.out D0.out D1.out D2.out D3.out (by decide)).1
    have K1 := (t1.CI P3.out P0.out P1.out P2.out D3.out D0.out D1.out D2.out (by decide)).1
    rw [shift1] at K1
    have Z1 := spin_CI (-1) R1
    have o1 : FloatKind.f64.format.order q1.1 (spin (-1) (r1.1, r1.2)).1 = some .eq := Fl.eq_isI K1.1 Z1.1
    have o1' : FloatKind.f64.format.order q1.2 (spin (-1) (r1.1, r1.2)).2 = some .eq := Fl.eq_isI K1.2 Z1.2
    clear R1 K1 Z1 s1 t1
    have R2 := (s2.CI P0.out P1.out P2.out P3.out D0.out D1.out D2.out D3.out (by decide)).1
    have K2 := (t2.CI P3.out P0.out P1.out P2.out D3.out D0.out D1.out D2.out (by decide)).1
    rw [shift2] at K2
    have Z2 := spin_CI (-2) R2
    have o2 : FloatKind.f64.format.order q2.1 (spin (-2) (r2.1, r2.2)).1 = some .eq := Fl.eq_isI K2.1 Z2.1
    have o2' : FloatKind.f64.format.order q2.2 (spin (-2) (r2.1, r2.2)).2 = some .eq := Fl.eq_isI K2.2 Z2.2
    clear R2 K2 Z2 s2 t2
    have R3 := (s3.CI P0.out P1.out P2.out P3.out D0.out D1.out D2.out D3.out (by decide)).1
    have K3 := (t3.CI P3.out P0.out P1.out P2.out D3.out D0.out D1.out D2.out (by decide)).1
    rw [shift3] at K3
    have Z3 := spin_CI (-3) R3
    have o3 : FloatKind.f64.format.order q3.1 (spin (-3) (r3.1, r3.2)).1 = some .eq := Fl.eq_isI K3.1 Z3.1
    have o3' : FloatKind.f64.format.order q3.2 (spin (-3) (r3.1, r3.2)).2 = some .eq := Fl.eq_isI K3.2 Z3.2
    clear R3 K3 Z3 s3 t3
    obtain ⟨v0, hv0⟩ : ∃ x, x = wc := ⟨wc, rfl⟩
    subst hv0
    have FF0 := Lib.hid hcells
    have BB0 := Lib.hid (HBv.out.trans (hB.mono (by omega)))
    clear hcells hB hv HBv
    go_wp2_with fail
    refine wp_loop_rounds 5 ?_
    rw [rounds_succ]
    obtain ⟨x0, x1, x2, x3, y0, y1, y2, y3⟩ := FF0.out
    clear x1 y1 x2 y2 x3 y3
    go_wp2_with fail
    go_quiet ((go_at_call 20; exact Calls.quiet_of_same (spin_same _ _ _ _)))
    go_wp2_with fail
    clear x0 y0 o0 o0'
    obtain ⟨v1, hv⟩ : ∃ x, x = v0.drewN nq := ⟨_, rfl⟩
    rw [← hv]
    have FF1 := Lib.hid (show v1.cell? ⟨g7, 0, none⟩ = some (.complex .f64 r0.1 r0.2) ∧ v1.cell? ⟨g7, 1, none⟩ = some (.complex .f64 r1.1 r1.2) ∧ v1.cell? ⟨g7, 2, none⟩ = some (.complex .f64 r2.1 r2.2) ∧ v1.cell? ⟨g7, 3, none⟩ = some (.complex .f64 r3.1 r3.2) ∧ v1.cell? ⟨g8, 0, none⟩ = some (.complex .f64 q0.1 q0.2) ∧ v1.cell? ⟨g8, 1, none⟩ = some (.complex .f64 q1.1 q1.2) ∧ v1.cell? ⟨g8, 2, none⟩ = some (.complex .f64 q2.1 q2.2) ∧ v1.cell? ⟨g8, 3, none⟩ = some (.complex .f64 q3.1 q3.2) by rw [hv]; exact FF0.out)
    have BB1 := Lib.hid (show Below w.heap.size w v1 by rw [hv]; exact below_drewN BB0.out _)
    clear hv FF0 BB0
    rw [rounds_succ]
    obtain ⟨x0, x1, x2, x3, y0, y1, y2, y3⟩ := FF1.out
    clear x0 y0 x2 y2 x3 y3
    go_wp2_with fail
    go_quiet ((go_at_call 20; exact Calls.quiet_of_same (spin_same _ _ _ _)))
    go_wp2_with fail
    clear x1 y1 o1 o1'
    obtain ⟨v2, hv⟩ : ∃ x, x = v1.drewN nq := ⟨_, rfl⟩
    rw [← hv]
    have FF2 := Lib.hid (show v2.cell? ⟨g7, 0, none⟩ = some (.complex .f64 r0.1 r0.2) ∧ v2.cell? ⟨g7, 1, none⟩ = some (.complex .f64 r1.1 r1.2) ∧ v2.cell? ⟨g7, 2, none⟩ = some (.complex .f64 r2.1 r2.2) ∧ v2.cell? ⟨g7, 3, none⟩ = some (.complex .f64 r3.1 r3.2) ∧ v2.cell? ⟨g8, 0, none⟩ = some (.complex .f64 q0.1 q0.2) ∧ v2.cell? ⟨g8, 1, none⟩ = some (.complex .f64 q1.1 q1.2) ∧ v2.cell? ⟨g8, 2, none⟩ = some (.complex .f64 q2.1 q2.2) ∧ v2.cell? ⟨g8, 3, none⟩ = some (.complex .f64 q3.1 q3.2) by rw [hv]; exact FF1.out)
    have BB2 := Lib.hid (show Below w.heap.size w v2 by rw [hv]; exact below_drewN BB1.out _)
    clear hv FF1 BB1
    rw [rounds_succ]
    obtain ⟨x0, x1, x2, x3, y0, y1, y2, y3⟩ := FF2.out
    clear x0 y0 x1 y1 x3 y3
    go_wp2_with fail
    go_quiet ((go_at_call 20; exact Calls.quiet_of_same (spin_same _ _ _ _)))
    go_wp2_with fail
    clear x2 y2 o2 o2'
    obtain ⟨v3, hv⟩ : ∃ x, x = v2.drewN nq := ⟨_, rfl⟩
    rw [← hv]
    have FF3 := Lib.hid (show v3.cell? ⟨g7, 0, none⟩ = some (.complex .f64 r0.1 r0.2) ∧ v3.cell? ⟨g7, 1, none⟩ = some (.complex .f64 r1.1 r1.2) ∧ v3.cell? ⟨g7, 2, none⟩ = some (.complex .f64 r2.1 r2.2) ∧ v3.cell? ⟨g7, 3, none⟩ = some (.complex .f64 r3.1 r3.2) ∧ v3.cell? ⟨g8, 0, none⟩ = some (.complex .f64 q0.1 q0.2) ∧ v3.cell? ⟨g8, 1, none⟩ = some (.complex .f64 q1.1 q1.2) ∧ v3.cell? ⟨g8, 2, none⟩ = some (.complex .f64 q2.1 q2.2) ∧ v3.cell? ⟨g8, 3, none⟩ = some (.complex .f64 q3.1 q3.2) by rw [hv]; exact FF2.out)
    have BB3 := Lib.hid (show Below w.heap.size w v3 by rw [hv]; exact below_drewN BB2.out _)
    clear hv FF2 BB2
    rw [rounds_succ]
    obtain ⟨x0, x1, x2, x3, y0, y1, y2, y3⟩ := FF3.out
    clear x0 y0 x1 y1 x2 y2
    go_wp2_with fail
    go_quiet ((go_at_call 20; exact Calls.quiet_of_same (spin_same _ _ _ _)))
    go_wp2_with fail
    clear x3 y3 o3 o3'
    obtain ⟨v4, hv⟩ : ∃ x, x = v3.drewN nq := ⟨_, rfl⟩
    rw [← hv]
    have FF4 := Lib.hid (show v4.cell? ⟨g7, 0, none⟩ = some (.complex .f64 r0.1 r0.2) ∧ v4.cell? ⟨g7, 1, none⟩ = some (.complex .f64 r1.1 r1.2) ∧ v4.cell? ⟨g7, 2, none⟩ = some (.complex .f64 r2.1 r2.2) ∧ v4.cell? ⟨g7, 3, none⟩ = some (.complex .f64 r3.1 r3.2) ∧ v4.cell? ⟨g8, 0, none⟩ = some (.complex .f64 q0.1 q0.2) ∧ v4.cell? ⟨g8, 1, none⟩ = some (.complex .f64 q1.1 q1.2) ∧ v4.cell? ⟨g8, 2, none⟩ = some (.complex .f64 q2.1 q2.2) ∧ v4.cell? ⟨g8, 3, none⟩ = some (.complex .f64 q3.1 q3.2) by rw [hv]; exact FF3.out)
    have BB4 := Lib.hid (show Below w.heap.size w v4 by rw [hv]; exact below_drewN BB3.out _)
    clear hv FF3 BB3
    rw [rounds_succ]
    go_wp2_with fail
    refine (told_any _).mono ?_
    rintro e w3 ⟨rfl, hb3⟩
    go_wp2_with fail
    go_ret
    exact ⟨rfl, BB4.out.trans (hb3.mono BB4.out.size)⟩

set_option maxHeartbeats 400000 in
theorem qshift_few (a : Option Addr) (len cap : Nat) (w : World) (hl : len < 8) :
    Calls Try.prog 7 #[.slice a len cap] w fun e w' => e = .returned (.bool true) ∧ Below w.heap.size w w' := by
  go_enter Try.func7, Try.ntmps7
  go_wp2_with fail
  refine (told_any _).mono ?_
  rintro e w3 ⟨rfl, hb3⟩
  go_wp2_with fail
  go_ret
  exact ⟨rfl, hb3⟩

theorem qshift_any (a : Option Addr) (len cap : Nat) (z : List Int) (w : World) (h : IsRow .i64 w a len cap z) :
    Calls Try.prog 7 #[.slice a len cap] w fun e w' => e = .returned (.bool true) ∧ Below w.heap.size w w' := by
  by_cases hl : len < 8
  · exact qshift_few a len cap w hl
  · rcases h with ⟨_, h, _⟩ | ⟨x, rfl, hlc, _, hz, hx, _⟩
    · omega
    · obtain ⟨b, off, rfl, hc⟩ := row8 (by omega) hz hx
      exact qshift_some b off len cap _ _ _ _ _ _ _ _ w (by omega) (hc 0 (by decide)) (hc 1 (by decide)) (hc 2 (by decide)) (hc 3 (by decide)) (hc 4 (by decide)) (hc 5 (by decide)) (hc 6 (by decide)) (hc 7 (by decide))

end Go.Proofs.Ytlnfghmkfgihjaa
