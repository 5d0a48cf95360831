/-
  QuadFour, walked: the program's four sums are the document's, bit by bit, whatever the floats are.
-/
import Derived.Test.YtlnfghmkfgihjaaRef
import Derived.Test.YtlnfghmkfgihjaaTold
import Derived.Test.YtlnfghmkfgihjaaRow
import Derived.Deep.QuietTactic
import Derived.BigQuiet
import Derived.Deep.RegionHeld3
import Derived.Deep.RegionWith
import Derived.Deep.DeepCutAuto
namespace Go.Proofs.Ytlnfghmkfgihjaa
open Go.RowKit

/-- what is gathered. -/
def gath (z : Nat → Nat) (k : Nat) : List Value := (List.range k).map fun j => .complex .f64 (z (2 * j)) (z (2 * j + 1))

/-- behind k rounds. -/
def QRel (w : World) (z : Nat → Nat) (k : Nat) (v : Value) (wr : World) : Prop :=
  Below w.heap.size w wr ∧ wr.ownsRow (w.heap.size + 1) 24 1 v k (gath z k) ∧ w.heap.size < wr.heap.size ∧
  (∀ j, j < 4 → wr.cell? ⟨w.heap.size, j, none⟩ = some (if j < k then .complex .f64 (z (2 * j)) (z (2 * j + 1)) else .complex .f64 0 0)) ∧
  (∀ j, j < 4 → wr.frozen? ⟨w.heap.size, j, none⟩ = false)

theorem z_same (a b : Nat) (w : World) :
    Calls Try.prog 10 #[.float .f64 a, .float .f64 b] w fun e w' => e = .returned (cx (a, b)) ∧ w' = w :=
  (z_any a b w).mono fun _ _ h => ⟨h.1, h.2.symm⟩

theorem Try.info24 : (Try.prog.info? 24).map (fun i => (i.zero, i.size, i.bytes)) = some (some (.complex .f64 0 0), 1, 16) := by kernel_rfl

theorem gath_succ (z : Nat → Nat) (k : Nat) : gath z (k + 1) = gath z k ++ [.complex .f64 (z (2 * k)) (z (2 * k + 1))] := by
  unfold gath; rw [List.range_succ, List.map_append]; rfl

theorem QRel.drewN {w wr : World} {z : Nat → Nat} {k : Nat} {v : Value} (h : QRel w z k v wr) (n : Nat) : QRel w z k v (wr.drewN n) :=
  ⟨below_drewN h.1 n, h.2.1, h.2.2.1, h.2.2.2.1, h.2.2.2.2⟩

theorem cell_new_at (W : World) (n : Nat) (h : W.heap.size = n) (v : Value) (t : TypeId) : (W.alloc (.cells #[v] t)).cell? ⟨n, 0, none⟩ = some v := by
  rw [← h]; simp

/-- a round from the eighth float on: what is gathered grows, x stays. -/
theorem QRel.grow {w wr wx w1 : World} {z : Nat → Nat} {k : Nat} {v v' : Value} (h : QRel w z k v wr) (hk : 4 ≤ k) (hx : Below (w.heap.size + 1) wr wx) (hs : w.heap.size < wx.heap.size)
    (ho : w1.ownsRow (w.heap.size + 1) 24 1 v' (k + 1) (gath z (k + 1))) (hg : wx.grownBy w1 v.ownBlock) : QRel w z (k + 1) v' w1 := by
  obtain ⟨h1, h2, h3, h4, h5⟩ := h
  have hrow : ∀ g, v.ownBlock = some g → w.heap.size + 1 ≤ g := fun g hg => (h2.lt g hg).1
  have hb : Below (w.heap.size + 1) wr w1 := hx.grown hg (by omega) hrow
  refine ⟨h1.trans (hb.mono (by omega)), ho, Nat.lt_of_lt_of_le h3 hb.size, fun j hj => ?_, fun j hj => ?_⟩
  · rw [hb.cell (by exact Nat.lt_succ_self _), h4 j hj, if_pos (by omega), if_pos (by omega)]
  · rw [hb.frozen (by exact Nat.lt_succ_self _)]
    exact h5 j hj

/-- a round of the first four: x takes a number, too. -/
theorem QRel.put {w wr wx w1 : World} {z : Nat → Nat} {k : Nat} {v v' : Value} {o : Obj} (h : QRel w z k v wr) (hk : k < 4) (hx : wx = (wr.setCell ⟨w.heap.size, k, none⟩ (.complex .f64 (z (2 * k)) (z (2 * k + 1)))).alloc o)
    (ho : w1.ownsRow (w.heap.size + 1) 24 1 v' (k + 1) (gath z (k + 1))) (hg : wx.grownBy w1 v.ownBlock) : QRel w z (k + 1) v' w1 := by
  obtain ⟨h1, h2, h3, h4, h5⟩ := h
  have hrow : ∀ g, v.ownBlock = some g → w.heap.size + 1 ≤ g := fun g hg => (h2.lt g hg).1
  have hw0 : w.heap.size < wx.heap.size := by subst hx; simp only [World.size_alloc, World.size_setCell]; omega
  have hb : Below (w.heap.size + 1) wx w1 := (Below.refl _ _).grown hg (by omega) hrow
  have hwx : Below w.heap.size wr wx := by
    subst hx
    have hs : Below w.heap.size wr (wr.setCell ⟨w.heap.size, k, none⟩ (.complex .f64 (z (2 * k)) (z (2 * k + 1)))) := Below.setCell (Below.refl w.heap.size wr) (p := ⟨w.heap.size, k, none⟩) (Nat.le_refl _) _
    exact hs.alloc (by rw [World.size_setCell]; omega) _
  have hf : ∀ j, j < 4 → wx.frozen? ⟨w.heap.size, j, none⟩ = false := by
    intro j hj
    subst hx
    rw [World.frozen?_alloc_old _ _ _ (show w.heap.size ≠ (wr.setCell ⟨w.heap.size, k, none⟩ (.complex .f64 (z (2 * k)) (z (2 * k + 1)))).heap.size by rw [World.size_setCell]; omega)]
    simpa using h5 j hj
  have hc : ∀ j, j < 4 → wx.cell? ⟨w.heap.size, j, none⟩ = some (if j < k + 1 then .complex .f64 (z (2 * j)) (z (2 * j + 1)) else .complex .f64 0 0) := by
    intro j hj
    subst hx
    rw [World.cell?_alloc_lt _ _ _ (show w.heap.size < (wr.setCell _ _).heap.size by rw [World.size_setCell]; exact h3)]
    by_cases hjk : j = k
    · subst hjk
      rw [if_pos (Nat.lt_succ_self _)]
      exact World.cell?_setCell_same _ _ _ (by rw [h4 j hj])
    · rw [World.cell?_setCell_other _ _ _ _ (by first | (simp; done) | (simp; omega)), h4 j hj]
      congr 1
      by_cases hlt : j < k
      · rw [if_pos hlt, if_pos (by omega)]
      · rw [if_neg hlt, if_neg (by omega)]
  refine ⟨(h1.trans hwx).trans (hb.mono (by omega)), ho, Nat.lt_of_lt_of_le hw0 hb.size, fun j hj => ?_, fun j hj => ?_⟩
  · rw [hb.cell (by exact Nat.lt_succ_self _)]
    exact hc j hj
  · rw [hb.frozen (by exact Nat.lt_succ_self _)]
    exact hf j hj

theorem four_held (X : Nat → Nat × Nat) (b : Nat) (W : World) (h0 : W.cell? ⟨b, 0, none⟩ = some (.complex .f64 (X 0).1 (X 0).2)) (h1 : W.cell? ⟨b, 1, none⟩ = some (.complex .f64 (X 1).1 (X 1).2))
    (h2 : W.cell? ⟨b, 2, none⟩ = some (.complex .f64 (X 2).1 (X 2).2)) (h3 : W.cell? ⟨b, 3, none⟩ = some (.complex .f64 (X 3).1 (X 3).2)) :
    Calls Try.prog 11 #[.agg #[.complex .f64 (X 0).1 (X 0).2, .complex .f64 (X 1).1 (X 1).2, .complex .f64 (X 2).1 (X 2).2, .complex .f64 (X 3).1 (X 3).2]] W fun e w' =>
      ∃ r0 r1 r2 r3, e = .returned (.agg #[cx r0, cx r1, cx r2, cx r3]) ∧ Below W.heap.size W w' ∧
      w'.cell? ⟨b, 0, none⟩ = some (.complex .f64 (X 0).1 (X 0).2) ∧ w'.cell? ⟨b, 1, none⟩ = some (.complex .f64 (X 1).1 (X 1).2) ∧ w'.cell? ⟨b, 2, none⟩ = some (.complex .f64 (X 2).1 (X 2).2) ∧ w'.cell? ⟨b, 3, none⟩ = some (.complex .f64 (X 3).1 (X 3).2) ∧
      Spun 0 (X 0) (X 1) (X 2) (X 3) r0 ∧ Spun (-1) (X 0) (X 1) (X 2) (X 3) r1 ∧ Spun (-2) (X 0) (X 1) (X 2) (X 3) r2 ∧ Spun (-3) (X 0) (X 1) (X 2) (X 3) r3 := by
  have hlt := World.block_lt_of_cell? W _ h0
  refine (four_any (X 0) (X 1) (X 2) (X 3) W).mono ?_
  rintro e w' ⟨r0, r1, r2, r3, he, hb, hs⟩
  exact ⟨r0, r1, r2, r3, he, hb, (hb.cell (by exact hlt)).trans h0, (hb.cell (by exact hlt)).trans h1, (hb.cell (by exact hlt)).trans h2, (hb.cell (by exact hlt)).trans h3, hs⟩

theorem back_held (X : Nat → Nat × Nat) (b : Nat) (W : World) (h0 : W.cell? ⟨b, 0, none⟩ = some (.complex .f64 (X 0).1 (X 0).2)) (h1 : W.cell? ⟨b, 1, none⟩ = some (.complex .f64 (X 1).1 (X 1).2))
    (h2 : W.cell? ⟨b, 2, none⟩ = some (.complex .f64 (X 2).1 (X 2).2)) (h3 : W.cell? ⟨b, 3, none⟩ = some (.complex .f64 (X 3).1 (X 3).2)) :
    Calls Try.prog 12 #[.agg #[.complex .f64 (X 0).1 (X 0).2, .complex .f64 (X 1).1 (X 1).2, .complex .f64 (X 2).1 (X 2).2, .complex .f64 (X 3).1 (X 3).2]] W fun e w' =>
      ∃ r0 r1 r2 r3, e = .returned (.agg #[cx r0, cx r1, cx r2, cx r3]) ∧ Below W.heap.size W w' ∧
      w'.cell? ⟨b, 0, none⟩ = some (.complex .f64 (X 0).1 (X 0).2) ∧ w'.cell? ⟨b, 1, none⟩ = some (.complex .f64 (X 1).1 (X 1).2) ∧ w'.cell? ⟨b, 2, none⟩ = some (.complex .f64 (X 2).1 (X 2).2) ∧ w'.cell? ⟨b, 3, none⟩ = some (.complex .f64 (X 3).1 (X 3).2) ∧
      (∃ t, Spun 0 (X 0) (X 1) (X 2) (X 3) t ∧ CFourth t r0) ∧ (∃ t, Spun 1 (X 0) (X 1) (X 2) (X 3) t ∧ CFourth t r1) ∧ (∃ t, Spun 2 (X 0) (X 1) (X 2) (X 3) t ∧ CFourth t r2) ∧ (∃ t, Spun 3 (X 0) (X 1) (X 2) (X 3) t ∧ CFourth t r3) := by
  have hlt := World.block_lt_of_cell? W _ h0
  refine (back_any (X 0) (X 1) (X 2) (X 3) W).mono ?_
  rintro e w' ⟨r0, r1, r2, r3, he, hb, hs⟩
  exact ⟨r0, r1, r2, r3, he, hb, (hb.cell (by exact hlt)).trans h0, (hb.cell (by exact hlt)).trans h1, (hb.cell (by exact hlt)).trans h2, (hb.cell (by exact hlt)).trans h3, hs⟩

theorem rfour_held (X : Nat → Nat × Nat) (b : Nat) (W : World) (h0 : W.cell? ⟨b, 0, none⟩ = some (.complex .f64 (X 0).1 (X 0).2)) (h1 : W.cell? ⟨b, 1, none⟩ = some (.complex .f64 (X 1).1 (X 1).2))
    (h2 : W.cell? ⟨b, 2, none⟩ = some (.complex .f64 (X 2).1 (X 2).2)) (h3 : W.cell? ⟨b, 3, none⟩ = some (.complex .f64 (X 3).1 (X 3).2)) :
    Calls Try.prog 13 #[.agg #[.complex .f64 (X 0).1 (X 0).2, .complex .f64 (X 1).1 (X 1).2, .complex .f64 (X 2).1 (X 2).2, .complex .f64 (X 3).1 (X 3).2]] W fun e w' =>
      ∃ r0 r1 r2 r3, e = .returned (.agg #[cx r0, cx r1, cx r2, cx r3]) ∧ Below W.heap.size W w' ∧
      w'.cell? ⟨b, 0, none⟩ = some (.complex .f64 (X 0).1 (X 0).2) ∧ w'.cell? ⟨b, 1, none⟩ = some (.complex .f64 (X 1).1 (X 1).2) ∧ w'.cell? ⟨b, 2, none⟩ = some (.complex .f64 (X 2).1 (X 2).2) ∧ w'.cell? ⟨b, 3, none⟩ = some (.complex .f64 (X 3).1 (X 3).2) ∧
      Spun 0 (X 0) (X 1) (X 2) (X 3) r0 ∧ Spun (-1) (X 0) (X 1) (X 2) (X 3) r1 ∧ Spun (-2) (X 0) (X 1) (X 2) (X 3) r2 ∧ Spun (-3) (X 0) (X 1) (X 2) (X 3) r3 := by
  have hlt := World.block_lt_of_cell? W _ h0
  refine (rfour_any (X 0) (X 1) (X 2) (X 3) W).mono ?_
  rintro e w' ⟨r0, r1, r2, r3, he, hb, hs⟩
  exact ⟨r0, r1, r2, r3, he, hb, (hb.cell (by exact hlt)).trans h0, (hb.cell (by exact hlt)).trans h1, (hb.cell (by exact hlt)).trans h2, (hb.cell (by exact hlt)).trans h3, hs⟩

theorem rback_held (X : Nat → Nat × Nat) (b : Nat) (W : World) (h0 : W.cell? ⟨b, 0, none⟩ = some (.complex .f64 (X 0).1 (X 0).2)) (h1 : W.cell? ⟨b, 1, none⟩ = some (.complex .f64 (X 1).1 (X 1).2))
    (h2 : W.cell? ⟨b, 2, none⟩ = some (.complex .f64 (X 2).1 (X 2).2)) (h3 : W.cell? ⟨b, 3, none⟩ = some (.complex .f64 (X 3).1 (X 3).2)) :
    Calls Try.prog 14 #[.agg #[.complex .f64 (X 0).1 (X 0).2, .complex .f64 (X 1).1 (X 1).2, .complex .f64 (X 2).1 (X 2).2, .complex .f64 (X 3).1 (X 3).2]] W fun e w' =>
      ∃ r0 r1 r2 r3, e = .returned (.agg #[cx r0, cx r1, cx r2, cx r3]) ∧ Below W.heap.size W w' ∧
      w'.cell? ⟨b, 0, none⟩ = some (.complex .f64 (X 0).1 (X 0).2) ∧ w'.cell? ⟨b, 1, none⟩ = some (.complex .f64 (X 1).1 (X 1).2) ∧ w'.cell? ⟨b, 2, none⟩ = some (.complex .f64 (X 2).1 (X 2).2) ∧ w'.cell? ⟨b, 3, none⟩ = some (.complex .f64 (X 3).1 (X 3).2) ∧
      (∃ t, Spun 0 (X 0) (X 1) (X 2) (X 3) t ∧ CFourth t r0) ∧ (∃ t, Spun 1 (X 0) (X 1) (X 2) (X 3) t ∧ CFourth t r1) ∧ (∃ t, Spun 2 (X 0) (X 1) (X 2) (X 3) t ∧ CFourth t r2) ∧ (∃ t, Spun 3 (X 0) (X 1) (X 2) (X 3) t ∧ CFourth t r3) := by
  have hlt := World.block_lt_of_cell? W _ h0
  refine (rback_any (X 0) (X 1) (X 2) (X 3) W).mono ?_
  rintro e w' ⟨r0, r1, r2, r3, he, hb, hs⟩
  exact ⟨r0, r1, r2, r3, he, hb, (hb.cell (by exact hlt)).trans h0, (hb.cell (by exact hlt)).trans h1, (hb.cell (by exact hlt)).trans h2, (hb.cell (by exact hlt)).trans h3, hs⟩

/-- the cells of the four rows at a place. -/
def Facts4 (w : World) (g7 g8 g9 g10 : Nat) (f g u v : Nat → Nat × Nat) : Prop :=
  ∀ j, j < 4 → w.cell? ⟨g7, j, none⟩ = some (.complex .f64 (f j).1 (f j).2) ∧ w.cell? ⟨g8, j, none⟩ = some (.complex .f64 (g j).1 (g j).2) ∧ w.cell? ⟨g9, j, none⟩ = some (.complex .f64 (u j).1 (u j).2) ∧ w.cell? ⟨g10, j, none⟩ = some (.complex .f64 (v j).1 (v j).2)

theorem cell_set_same (w : World) (a : Addr) (v : Value) (h : (w.cell? a).isSome = true) : (w.setCell a v).cell? a = some v := by
  obtain ⟨u, hu⟩ := Option.isSome_iff_exists.1 h
  exact World.cell?_setCell_same _ _ _ hu

def pick4 (a b c d : Nat × Nat) : Nat → Nat × Nat
  | 0 => a
  | 1 => b
  | 2 => c
  | _ => d

def Arr4 (w : World) (g : Nat) (f : Nat → Nat × Nat) : Prop := ∀ j, j < 4 → w.cell? ⟨g, j, none⟩ = some (.complex .f64 (f j).1 (f j).2)

/-- what stands behind 'f, g := Four(x), Back(x)'. -/
def FourAt (wr wx : World) (g7 g8 : Nat) (X f g : Nat → Nat × Nat) : Prop :=
  Below wr.heap.size wr wx ∧ g7 < wx.heap.size ∧ g8 < wx.heap.size ∧ wr.heap.size ≤ g7 ∧ wr.heap.size ≤ g8 ∧ Arr4 wx g7 f ∧ Arr4 wx g8 g ∧
  (Spun 0 (X 0) (X 1) (X 2) (X 3) (f 0) ∧ Spun (-1) (X 0) (X 1) (X 2) (X 3) (f 1) ∧ Spun (-2) (X 0) (X 1) (X 2) (X 3) (f 2) ∧ Spun (-3) (X 0) (X 1) (X 2) (X 3) (f 3)) ∧
  ((∃ t, Spun 0 (X 0) (X 1) (X 2) (X 3) t ∧ CFourth t (g 0)) ∧ (∃ t, Spun 1 (X 0) (X 1) (X 2) (X 3) t ∧ CFourth t (g 1)) ∧ (∃ t, Spun 2 (X 0) (X 1) (X 2) (X 3) t ∧ CFourth t (g 2)) ∧ (∃ t, Spun 3 (X 0) (X 1) (X 2) (X 3) t ∧ CFourth t (g 3)))

theorem Spun.like {s : Int} {z0 z1 z2 z3 r r' : Nat × Nat} (h : Spun s z0 z1 z2 z3 r) (h' : Spun s z0 z1 z2 z3 r') : Like r.1 r'.1 ∧ Like r.2 r'.2 := by
  obtain ⟨a, b, h1, h2, h3⟩ := h
  obtain ⟨a', b', g1, g2, g3⟩ := h'
  exact h3.like g3 (h2.like g2 (h1.like g1 ⟨.refl _, .refl _⟩))

theorem back_like {s : Int} {z0 z1 z2 z3 r r' : Nat × Nat} (h : ∃ t, Spun s z0 z1 z2 z3 t ∧ CFourth t r) (h' : ∃ t, Spun s z0 z1 z2 z3 t ∧ CFourth t r') : Like r.1 r'.1 ∧ Like r.2 r'.2 := by
  obtain ⟨t, h1, h2⟩ := h
  obtain ⟨t', g1, g2⟩ := h'
  have l := h1.like g1
  exact ⟨h2.1.like g2.1 l.1, h2.2.like g2.2 l.2⟩

set_option maxHeartbeats 400000 in
theorem same_same (x y : Nat × Nat) (h : Like x.1 y.1 ∧ Like x.2 y.2) (w : World) :
    Calls Try.prog 15 #[.complex .f64 x.1 x.2, .complex .f64 y.1 y.2] w fun e w' => e = .returned (.bool true) ∧ w' = w := by
  go_enter Try.func15, Try.ntmps15
  go_wp2_with fail
  refine (float_yes _ _ h.1 _).mono ?_
  rintro e w' ⟨rfl, rfl⟩
  go_wp2_with fail
  refine (float_yes _ _ h.2 _).mono ?_
  rintro e w' ⟨rfl, rfl⟩
  go_wp2_with fail
  go_ret
  exact ⟨rfl, rfl⟩

/-- what is gathered, as pairs. -/
def gathZ (z : Nat → Nat) (k : Nat) : List (Nat × Nat) := (List.range k).map fun j => (z (2 * j), z (2 * j + 1))

theorem hasC_of {w : World} {g k cap : Nat} {z : Nat → Nat} {base : Nat} (h : w.ownsRow base 24 1 (.slice (some ⟨g, 0, none⟩) k cap) k (gath z k)) : HasC w g 0 k (gathZ z k) := by
  intro j hj
  have := h.cells (g := g) rfl j (.complex .f64 (z (2 * j)) (z (2 * j + 1))) (by unfold gath; simp [hj])
  have e : (gathZ z k).getD j (0, 0) = (z (2 * j), z (2 * j + 1)) := by unfold gathZ; simp [hj]
  have e2 : ((⟨g, 0, none⟩ : Addr).add j) = ⟨g, 0 + j, none⟩ := by
    unfold Addr.add
    split
    · rename_i h0; subst h0; rfl
    · rfl
  rw [e2] at this
  rw [e]
  exact this

set_option linter.unusedSimpArgs false in
set_option maxHeartbeats 4000000 in
theorem qfour_some (a : Option Addr) (len cap : Nat) (z : Nat → Nat) (w : World) (hl : len ≤ 100)
    (ha : 0 < len → ∃ b off, a = some ⟨b, off, none⟩ ∧ b < w.heap.size ∧ ∀ i, i < len → w.cell? ⟨b, off + i, none⟩ = some (.float .f64 (z i))) :
    Calls Try.prog 3 #[.slice a len cap] w fun e w' => e = .returned (.bool true) ∧ Below w.heap.size w w' := by
  have HA0 := Lib.hid ha
  clear ha
  obtain ⟨i0, hi, hz0, hz1, hz2⟩ := info_parts Try.info24
  go_enter Try.func3, Try.ntmps3
  go_wp2
  go_loopw [5, 4] (fun i v wr => ∃ k : Nat, 2 * k ≤ len ∧ i = .int .i64 (2 * k : Nat) ∧ QRel w z k v wr) (fun i _ _ => len - (intOf i).toNat)
  case atStart =>
    refine ⟨0, Nat.zero_le _, rfl, (Below.refl _ _).alloc (Nat.le_refl _) _, World.ownsRow_nil _ _ _ _, by simp, fun j hj => ?_, fun j hj => ?_⟩
    · match j, hj with
      | 0, _ => simp
      | 1, _ => simp
      | 2, _ => simp
      | 3, _ => simp
    · simp
  case round =>
    obtain ⟨k, hk, rfl, hrel⟩ := hrel
    by_cases hlt : 2 * k + 1 < len
    · obtain ⟨b, off, hab, hb, hc⟩ := HA0.out (by omega)
      subst hab
      have c0 : wr.cell? ⟨b, off + 2 * k, none⟩ = some (.float .f64 (z (2 * k))) := (hrel.1.cell hb).trans (hc _ (by omega))
      have c1 : wr.cell? ⟨b, off + (2 * k + 1), none⟩ = some (.float .f64 (z (2 * k + 1))) := (hrel.1.cell hb).trans (hc _ (by omega))
      have hsz := hrel.2.2.1
      by_cases h4 : k < 4
      · have hd : (2 * (k : Int)) / 2 = k := by omega
        have cB := hrel.2.2.2.1 k h4
        have fB := hrel.2.2.2.2 k h4
        have hown := Lib.hid hrel.2.1
        have HR := Lib.hid hrel
        clear hrel hc
        go_wp2_with fail
        go_quiet ((go_at_call 10; exact Calls.quiet_of_same (z_same _ _ _)))
        go_wp2_with (at_builtin; go_loud (refine wpList_append_own _ rfl _ _ 26 rfl (w.heap.size + 1) 24 i0 (.complex .f64 0 0) 1 16 Try.underlying26 hi hz0 hz1 hz2 rfl (by decide) _ k (gath z k) rfl ?own ⟨wr.heap.size, 0, none⟩ 1 1 [.complex .f64 (z (2 * k)) (z (2 * k + 1))] rfl rfl ?c1 ?c2 ?c3 ?c4 ?c5 ?_))
        case own => exact (ownsRow_setCell_below (w := wr.drewN nq) hown.out (Nat.lt_succ_self _) _).alloc _
        case c1 =>
          intro j u hj
          match j, hj with
          | 0, hj => simp at hj; subst hj; exact cell_new_at _ _ (by simp) _ _
        case c2 => intro u hu; simp at hu; subst hu; rfl
        case c3 => unfold maxLen; omega
        case c4 => omega
        case c5 => simp; omega
        intro v' w1 hown' hgrow _
        have R := QRel.put (o := .cells #[.complex .f64 (z (2 * k)) (z (2 * k + 1))] 24) (wr := wr.drewN nq) (HR.out.drewN nq) h4 rfl (by rw [gath_succ]; exact hown') hgrow
        clear hown' hgrow cB fB
        have RH := Lib.hid R
        clear R
        go_wp2
        go_roundw
        case rel => exact ⟨k + 1, by omega, by go_num, RH.out⟩
        case measure => simp [intOf]; omega
      · have hd : (2 * (k : Int)) / 2 = k := by omega
        have hown := Lib.hid hrel.2.1
        have HR := Lib.hid hrel
        clear hrel hc
        go_wp2_with fail
        go_quiet ((go_at_call 10; exact Calls.quiet_of_same (z_same _ _ _)))
        go_wp2_with (at_builtin; refine wpList_append_own _ rfl _ _ 26 rfl (w.heap.size + 1) 24 i0 (.complex .f64 0 0) 1 16 Try.underlying26 hi hz0 hz1 hz2 rfl (by decide) _ k (gath z k) rfl ?own2 ⟨wr.heap.size, 0, none⟩ 1 1 [.complex .f64 (z (2 * k)) (z (2 * k + 1))] rfl rfl ?d1 ?d2 ?d3 ?d4 ?d5 ?_)
        case own2 => exact World.ownsRow.alloc (w := wr.drewN nq) hown.out _
        case d1 =>
          intro j u hj
          match j, hj with
          | 0, hj => simp at hj; subst hj; exact cell_new_at _ _ (by simp) _ _
        case d2 => intro u hu; simp at hu; subst hu; rfl
        case d3 => unfold maxLen; omega
        case d4 => omega
        case d5 => simp; omega
        intro v' w1 hown' hgrow _
        have R := QRel.grow (wx := (wr.drewN nq).alloc (.cells #[.complex .f64 (z (2 * k)) (z (2 * k + 1))] 24)) HR.out (by omega) ((below_drewN (Below.refl _ _) _).alloc (by simp; omega) _) (by simp; omega) (by rw [gath_succ]; exact hown') hgrow
        clear hown' hgrow
        have RH := Lib.hid R
        clear R
        go_wp2
        go_roundw
        case rel => exact ⟨k + 1, by omega, by go_num, RH.out⟩
        case measure => simp [intOf]; omega
    · have RH := Lib.hid hrel
      clear hrel
      obtain ⟨X, hX⟩ : ∃ X : Nat → Nat × Nat, X = fun j => if j < k then (z (2 * j), z (2 * j + 1)) else (0, 0) := ⟨_, rfl⟩
      have hA : Arr4 wr w.heap.size X := by
        intro j hj
        rw [RH.out.2.2.2.1 j hj, hX]
        by_cases hjk : j < k
        · simp [hjk]
        · simp [hjk]
      have hsz := RH.out.2.2.1
      have a0 := hA 0 (by decide)
      have a1 := hA 1 (by decide)
      have a2 := hA 2 (by decide)
      have a3 := hA 3 (by decide)
      have HX := Lib.hid hX
      have HA := Lib.hid hA
      clear hA hX
      have ne0 := World.new_ne wr _ a0
      have ne1 : wr.heap.size + 1 ≠ w.heap.size := by omega
      go_wp2_with fail
      go_cut [7, 8] (fun s7 s8 wx => ∃ (g7 g8 : Nat) (f g : Nat → Nat × Nat), s7 = .pointer (some ⟨g7, 0, none⟩) ∧ s8 = .pointer (some ⟨g8, 0, none⟩) ∧ FourAt wr wx g7 g8 X f g)
      case first =>
        go_region_held3 (fun w' => w'.cell? ⟨w.heap.size, 0, none⟩ = some (.complex .f64 (X 0).1 (X 0).2) ∧ w'.cell? ⟨w.heap.size, 1, none⟩ = some (.complex .f64 (X 1).1 (X 1).2) ∧ w'.cell? ⟨w.heap.size, 2, none⟩ = some (.complex .f64 (X 2).1 (X 2).2) ∧ w'.cell? ⟨w.heap.size, 3, none⟩ = some (.complex .f64 (X 3).1 (X 3).2)) (go_keep)
          (first | (go_at_call 11; go_split_ands; refine (four_held X w.heap.size _ (by assumption) (by assumption) (by assumption) (by assumption)).mono ?_; rintro e w1 ⟨r0, r1, r2, r3, rfl, hb1, b0, b1, b2, b3, s0, s1, s2, s3⟩; obtain ⟨hc1, hf1⟩ := bcell hb1; have hz1 := hb1.size; (try simp only [World.size_alloc] at hz1); (try simp only [World.size_drew] at hz1); (try simp only [World.size_alloc] at hz1); (try simp only [World.size_drew] at hz1); have bq1 : w.heap.size < w1.heap.size := (by omega); have be1 := Nat.ne_of_gt bq1; have bl1 := Nat.le_of_lt bq1; have bf1 := Nat.ne_of_lt bq1; have bg1 : w1.heap.size + 1 ≠ w.heap.size := (by omega); (try (have y1 := Nat.lt_of_succ_le hz1; have ye1 := Nat.ne_of_gt y1; have yl1 := Nat.le_of_lt y1)); (try (have z1 := Nat.lt_of_succ_lt y1; have ze1 := Nat.ne_of_gt z1; have zl1 := Nat.le_of_lt z1))) | (go_at_call 12; go_split_ands; refine (back_held X w.heap.size _ (by assumption) (by assumption) (by assumption) (by assumption)).mono ?_; rintro e w2 ⟨q0, q1, q2, q3, rfl, hb2, d0, d1, d2, d3, t0, t1, t2, t3⟩; obtain ⟨hc2, hf2⟩ := bcell hb2; have hz2 := hb2.size; (try simp only [World.size_alloc] at hz2); (try simp only [World.size_drew] at hz2); (try simp only [World.size_alloc] at hz2); (try simp only [World.size_drew] at hz2); have bq2 : w.heap.size < w2.heap.size := (by omega); have be2 := Nat.ne_of_gt bq2; have bl2 := Nat.le_of_lt bq2; have bf2 := Nat.ne_of_lt bq2; have bg2 : w2.heap.size + 1 ≠ w.heap.size := (by omega); (try (have yy2 : wr.heap.size < w2.heap.size := (by omega); have yn2 := Nat.ne_of_gt yy2)); (try (have yz2 : wr.heap.size + 1 < w2.heap.size := (by omega); have ym2 := Nat.ne_of_gt yz2)); (try (have y2 := Nat.lt_of_succ_le hz2; have ye2 := Nat.ne_of_gt y2; have yl2 := Nat.le_of_lt y2)); (try (have z2 := Nat.lt_of_succ_lt y2; have ze2 := Nat.ne_of_gt z2; have zl2 := Nat.le_of_lt z2))))
        all_goals
          go_wp2_with fail
          go_meet
          case rel =>
            refine ⟨_, _, pick4 r0 r1 r2 r3, pick4 q0 q1 q2 q3, rfl, rfl, ?_, ?_, ?_, ?_, ?_, ?_, ?_, ⟨s0, s1, s2, s3⟩, ⟨t0, t1, t2, t3⟩⟩
            · repeat (first | with_reducible refine Below.drew ?_ | with_reducible refine Below.setCell ?_ (by first | omega | (simp; done) | (simp; omega)) _ | with_reducible refine Below.alloc ?_ (by first | omega | (simp; done) | (simp; omega)) _ | with_reducible refine Below.trans ?_ (hb2.mono (by first | omega | (simp; done) | (simp; omega))) | with_reducible refine Below.trans ?_ (hb1.mono (by first | omega | (simp; done) | (simp; omega))) | with_reducible exact Below.refl _ _)
            · first | omega | (simp; done) | (simp; omega)
            · first | omega | (simp; done) | (simp; omega)
            · first | omega | (simp; done) | (simp; omega)
            · first | omega | (simp; done) | (simp; omega)
            · intro j hj
              match j, hj with
              | 0, _ => first | (simp [*, go_sem, pick4, World.cell?_setCell_far, cell_set_same]; done) | (simp [*, go_sem, pick4, World.cell?_setCell_far]; refine cell_set_same _ _ _ ?_; simp [*, go_sem])
              | 1, _ => first | (simp [*, go_sem, pick4, World.cell?_setCell_far, cell_set_same]; done) | (simp [*, go_sem, pick4, World.cell?_setCell_far]; refine cell_set_same _ _ _ ?_; simp [*, go_sem])
              | 2, _ => first | (simp [*, go_sem, pick4, World.cell?_setCell_far, cell_set_same]; done) | (simp [*, go_sem, pick4, World.cell?_setCell_far]; refine cell_set_same _ _ _ ?_; simp [*, go_sem])
              | 3, _ => first | (simp [*, go_sem, pick4, World.cell?_setCell_far, cell_set_same]; done) | (simp [*, go_sem, pick4, World.cell?_setCell_far]; refine cell_set_same _ _ _ ?_; simp [*, go_sem])
            · intro j hj
              match j, hj with
              | 0, _ => first | (simp [*, go_sem, pick4, World.cell?_setCell_far, cell_set_same]; done) | (simp [*, go_sem, pick4, World.cell?_setCell_far]; refine cell_set_same _ _ _ ?_; simp [*, go_sem])
              | 1, _ => first | (simp [*, go_sem, pick4, World.cell?_setCell_far, cell_set_same]; done) | (simp [*, go_sem, pick4, World.cell?_setCell_far]; refine cell_set_same _ _ _ ?_; simp [*, go_sem])
              | 2, _ => first | (simp [*, go_sem, pick4, World.cell?_setCell_far, cell_set_same]; done) | (simp [*, go_sem, pick4, World.cell?_setCell_far]; refine cell_set_same _ _ _ ?_; simp [*, go_sem])
              | 3, _ => first | (simp [*, go_sem, pick4, World.cell?_setCell_far, cell_set_same]; done) | (simp [*, go_sem, pick4, World.cell?_setCell_far]; refine cell_set_same _ _ _ ?_; simp [*, go_sem])
      case rest =>
        obtain ⟨g7, g8, f, g, rfl, rfl, hF⟩ := hcut
        obtain ⟨wx, hwx⟩ : ∃ wx, wx = wc := ⟨wc, rfl⟩
        subst hwx
        have HF := Lib.hid hF
        have hA : Arr4 wx w.heap.size X := fun j hj => (HF.out.1.cell (by exact hsz)).trans (HA.out j hj)
        clear a0 a1 a2 a3 ne0 ne1 hF
        have hsx : w.heap.size < wx.heap.size := Nat.lt_of_lt_of_le hsz HF.out.1.size
        have a0 := hA 0 (by decide)
        have a1 := hA 1 (by decide)
        have a2 := hA 2 (by decide)
        have a3 := hA 3 (by decide)
        clear hA hsz
        have ne0 := World.new_ne wx _ a0
        have ne1 : wx.heap.size + 1 ≠ w.heap.size := by omega
        go_wp2_with fail
        go_cut [9, 10] (fun s9 s10 wy => ∃ (g9 g10 : Nat) (u v : Nat → Nat × Nat), s9 = .pointer (some ⟨g9, 0, none⟩) ∧ s10 = .pointer (some ⟨g10, 0, none⟩) ∧ FourAt wx wy g9 g10 X u v)
        case first =>
          go_region_held3 (fun w' => w'.cell? ⟨w.heap.size, 0, none⟩ = some (.complex .f64 (X 0).1 (X 0).2) ∧ w'.cell? ⟨w.heap.size, 1, none⟩ = some (.complex .f64 (X 1).1 (X 1).2) ∧ w'.cell? ⟨w.heap.size, 2, none⟩ = some (.complex .f64 (X 2).1 (X 2).2) ∧ w'.cell? ⟨w.heap.size, 3, none⟩ = some (.complex .f64 (X 3).1 (X 3).2)) (go_keep)
            (first | (go_at_call 13; go_split_ands; refine (rfour_held X w.heap.size _ (by assumption) (by assumption) (by assumption) (by assumption)).mono ?_; rintro e w1 ⟨r0, r1, r2, r3, rfl, hb1, b0, b1, b2, b3, s0, s1, s2, s3⟩; obtain ⟨hc1, hf1⟩ := bcell hb1; have hz1 := hb1.size; (try simp only [World.size_alloc] at hz1); (try simp only [World.size_drew] at hz1); (try simp only [World.size_alloc] at hz1); (try simp only [World.size_drew] at hz1); have bq1 : w.heap.size < w1.heap.size := (by omega); have be1 := Nat.ne_of_gt bq1; have bl1 := Nat.le_of_lt bq1; have bf1 := Nat.ne_of_lt bq1; have bg1 : w1.heap.size + 1 ≠ w.heap.size := (by omega); (try (have y1 := Nat.lt_of_succ_le hz1; have ye1 := Nat.ne_of_gt y1; have yl1 := Nat.le_of_lt y1)); (try (have z1 := Nat.lt_of_succ_lt y1; have ze1 := Nat.ne_of_gt z1; have zl1 := Nat.le_of_lt z1))) | (go_at_call 14; go_split_ands; refine (rback_held X w.heap.size _ (by assumption) (by assumption) (by assumption) (by assumption)).mono ?_; rintro e w2 ⟨q0, q1, q2, q3, rfl, hb2, d0, d1, d2, d3, t0, t1, t2, t3⟩; obtain ⟨hc2, hf2⟩ := bcell hb2; have hz2 := hb2.size; (try simp only [World.size_alloc] at hz2); (try simp only [World.size_drew] at hz2); (try simp only [World.size_alloc] at hz2); (try simp only [World.size_drew] at hz2); have bq2 : w.heap.size < w2.heap.size := (by omega); have be2 := Nat.ne_of_gt bq2; have bl2 := Nat.le_of_lt bq2; have bf2 := Nat.ne_of_lt bq2; have bg2 : w2.heap.size + 1 ≠ w.heap.size := (by omega); (try (have yy2 : wx.heap.size < w2.heap.size := (by omega); have yn2 := Nat.ne_of_gt yy2)); (try (have yz2 : wx.heap.size + 1 < w2.heap.size := (by omega); have ym2 := Nat.ne_of_gt yz2)); (try (have y2 := Nat.lt_of_succ_le hz2; have ye2 := Nat.ne_of_gt y2; have yl2 := Nat.le_of_lt y2)); (try (have z2 := Nat.lt_of_succ_lt y2; have ze2 := Nat.ne_of_gt z2; have zl2 := Nat.le_of_lt z2))))
          all_goals
            go_wp2_with fail
            go_meet
            case rel =>
              refine ⟨_, _, pick4 r0 r1 r2 r3, pick4 q0 q1 q2 q3, rfl, rfl, ?_, ?_, ?_, ?_, ?_, ?_, ?_, ⟨s0, s1, s2, s3⟩, ⟨t0, t1, t2, t3⟩⟩
              · repeat (first | with_reducible refine Below.drew ?_ | with_reducible refine Below.setCell ?_ (by first | omega | (simp; done) | (simp; omega)) _ | with_reducible refine Below.alloc ?_ (by first | omega | (simp; done) | (simp; omega)) _ | with_reducible refine Below.trans ?_ (hb2.mono (by first | omega | (simp; done) | (simp; omega))) | with_reducible refine Below.trans ?_ (hb1.mono (by first | omega | (simp; done) | (simp; omega))) | with_reducible exact Below.refl _ _)
              · first | omega | (simp; done) | (simp; omega)
              · first | omega | (simp; done) | (simp; omega)
              · first | omega | (simp; done) | (simp; omega)
              · first | omega | (simp; done) | (simp; omega)
              · intro j hj
                match j, hj with
                | 0, _ => first | (simp [*, go_sem, pick4, World.cell?_setCell_far, cell_set_same]; done) | (simp [*, go_sem, pick4, World.cell?_setCell_far]; refine cell_set_same _ _ _ ?_; simp [*, go_sem])
                | 1, _ => first | (simp [*, go_sem, pick4, World.cell?_setCell_far, cell_set_same]; done) | (simp [*, go_sem, pick4, World.cell?_setCell_far]; refine cell_set_same _ _ _ ?_; simp [*, go_sem])
                | 2, _ => first | (simp [*, go_sem, pick4, World.cell?_setCell_far, cell_set_same]; done) | (simp [*, go_sem, pick4, World.cell?_setCell_far]; refine cell_set_same _ _ _ ?_; simp [*, go_sem])
                | 3, _ => first | (simp [*, go_sem, pick4, World.cell?_setCell_far, cell_set_same]; done) | (simp [*, go_sem, pick4, World.cell?_setCell_far]; refine cell_set_same _ _ _ ?_; simp [*, go_sem])
              · intro j hj
                match j, hj with
                | 0, _ => first | (simp [*, go_sem, pick4, World.cell?_setCell_far, cell_set_same]; done) | (simp [*, go_sem, pick4, World.cell?_setCell_far]; refine cell_set_same _ _ _ ?_; simp [*, go_sem])
                | 1, _ => first | (simp [*, go_sem, pick4, World.cell?_setCell_far, cell_set_same]; done) | (simp [*, go_sem, pick4, World.cell?_setCell_far]; refine cell_set_same _ _ _ ?_; simp [*, go_sem])
                | 2, _ => first | (simp [*, go_sem, pick4, World.cell?_setCell_far, cell_set_same]; done) | (simp [*, go_sem, pick4, World.cell?_setCell_far]; refine cell_set_same _ _ _ ?_; simp [*, go_sem])
                | 3, _ => first | (simp [*, go_sem, pick4, World.cell?_setCell_far, cell_set_same]; done) | (simp [*, go_sem, pick4, World.cell?_setCell_far]; refine cell_set_same _ _ _ ?_; simp [*, go_sem])
        case rest =>
          obtain ⟨g9, g10, u, v, rfl, rfl, hG⟩ := hcut
          obtain ⟨wy, hwy⟩ : ∃ wy, wy = wc := ⟨wc, rfl⟩
          subst hwy
          have HG := Lib.hid hG
          clear hG a0 a1 a2 a3 ne0 ne1 hsx
          obtain ⟨B1, lt7, lt8, _, _, Af, Ag, ⟨p0, p1, p2, p3⟩, ⟨b0, b1, b2, b3⟩⟩ := HF.out
          obtain ⟨B2, _, _, _, _, Au, Av, ⟨p0', p1', p2', p3'⟩, ⟨b0', b1', b2', b3'⟩⟩ := HG.out
          have FF := Lib.hid (show Facts4 wy g7 g8 g9 g10 f g u v from fun j hj => ⟨(B2.cell (p := ⟨g7, j, none⟩) lt7).trans (Af j hj), (B2.cell (p := ⟨g8, j, none⟩) lt8).trans (Ag j hj), Au j hj, Av j hj⟩)
          have L0 := Lib.hid (p0.like p0')
          have L1 := Lib.hid (p1.like p1')
          have L2 := Lib.hid (p2.like p2')
          have L3 := Lib.hid (p3.like p3')
          have M0 := Lib.hid (back_like b0 b0')
          have M1 := Lib.hid (back_like b1 b1')
          have M2 := Lib.hid (back_like b2 b2')
          have M3 := Lib.hid (back_like b3 b3')
          have BB := Lib.hid ((B1.trans (B2.mono B1.size)))
          clear HG Af Ag Au Av p0 p1 p2 p3 b0 b1 b2 b3 p0' p1' p2' p3' b0' b1' b2' b3' B1 B2 lt7 lt8
          go_wp2_with fail
          refine wp_loop_rounds 5 ?_
          rw [rounds_succ]
          obtain ⟨f0, k0, u0, v0⟩ := FF.out 0 (by decide)
          go_wp2_with fail
          go_quiet ((first | (go_at_call_of 15 (Value.complex .f64 (f 0).1 (f 0).2); exact Calls.quiet_of_same (same_same _ _ L0.out _)) | (go_at_call_of 15 (Value.complex .f64 (g 0).1 (g 0).2); exact Calls.quiet_of_same (same_same _ _ M0.out _))))
          go_wp2_with fail
          clear f0 k0 u0 v0
          obtain ⟨wz0, hwz0⟩ : ∃ x, x = wy.drewN nq := ⟨_, rfl⟩
          rw [← hwz0]
          have FF0 := Lib.hid (show Facts4 wz0 g7 g8 g9 g10 f g u v by rw [hwz0]; exact FF.out)
          have BB0 := Lib.hid (show Below wr.heap.size wr wz0 by rw [hwz0]; exact below_drewN BB.out _)
          clear hwz0 FF BB
          rw [rounds_succ]
          obtain ⟨f1, k1, u1, v1⟩ := FF0.out 1 (by decide)
          go_wp2_with fail
          go_quiet ((first | (go_at_call_of 15 (Value.complex .f64 (f 1).1 (f 1).2); exact Calls.quiet_of_same (same_same _ _ L1.out _)) | (go_at_call_of 15 (Value.complex .f64 (g 1).1 (g 1).2); exact Calls.quiet_of_same (same_same _ _ M1.out _))))
          go_wp2_with fail
          clear f1 k1 u1 v1
          obtain ⟨wz1, hwz1⟩ : ∃ x, x = wz0.drewN nq := ⟨_, rfl⟩
          rw [← hwz1]
          have FF1 := Lib.hid (show Facts4 wz1 g7 g8 g9 g10 f g u v by rw [hwz1]; exact FF0.out)
          have BB1 := Lib.hid (show Below wr.heap.size wr wz1 by rw [hwz1]; exact below_drewN BB0.out _)
          clear hwz1 FF0 BB0
          rw [rounds_succ]
          obtain ⟨f2, k2, u2, v2⟩ := FF1.out 2 (by decide)
          go_wp2_with fail
          go_quiet ((first | (go_at_call_of 15 (Value.complex .f64 (f 2).1 (f 2).2); exact Calls.quiet_of_same (same_same _ _ L2.out _)) | (go_at_call_of 15 (Value.complex .f64 (g 2).1 (g 2).2); exact Calls.quiet_of_same (same_same _ _ M2.out _))))
          go_wp2_with fail
          clear f2 k2 u2 v2
          obtain ⟨wz2, hwz2⟩ : ∃ x, x = wz1.drewN nq := ⟨_, rfl⟩
          rw [← hwz2]
          have FF2 := Lib.hid (show Facts4 wz2 g7 g8 g9 g10 f g u v by rw [hwz2]; exact FF1.out)
          have BB2 := Lib.hid (show Below wr.heap.size wr wz2 by rw [hwz2]; exact below_drewN BB1.out _)
          clear hwz2 FF1 BB1
          rw [rounds_succ]
          obtain ⟨f3, k3, u3, v3⟩ := FF2.out 3 (by decide)
          go_wp2_with fail
          go_quiet ((first | (go_at_call_of 15 (Value.complex .f64 (f 3).1 (f 3).2); exact Calls.quiet_of_same (same_same _ _ L3.out _)) | (go_at_call_of 15 (Value.complex .f64 (g 3).1 (g 3).2); exact Calls.quiet_of_same (same_same _ _ M3.out _))))
          go_wp2_with fail
          clear f3 k3 u3 v3
          obtain ⟨wz3, hwz3⟩ : ∃ x, x = wz2.drewN nq := ⟨_, rfl⟩
          rw [← hwz3]
          have FF3 := Lib.hid (show Facts4 wz3 g7 g8 g9 g10 f g u v by rw [hwz3]; exact FF2.out)
          have BB3 := Lib.hid (show Below wr.heap.size wr wz3 by rw [hwz3]; exact below_drewN BB2.out _)
          clear hwz3 FF2 BB2
          rw [rounds_succ]
          go_wp2_with fail
          refine (told_any _).mono ?_
          rintro e w3 ⟨rfl, hb3⟩
          have B0 : Below w.heap.size w wz3 := RH.out.1.trans (BB3.out.mono (Nat.le_of_lt RH.out.2.2.1))
          have B9 := Lib.hid (B0.trans (hb3.mono B0.size))
          clear B0
          have hk50 : k ≤ 1000 := by omega
          have ho := RH.out.2.1
          rcases ho.2 with ⟨hv, hk0⟩ | ⟨ga, capa, cur, hv, _, _, _, _, _, _⟩
          · rw [hv]
            go_wp2_with fail
            refine (sum_nil _).mono ?_
            rintro e w4 ⟨rfl, rfl⟩
            go_wp2_with fail
            refine (rsum_nil _).mono ?_
            rintro e w4 ⟨rfl, rfl⟩
            go_wp2_with fail
            refine (same_same (0, 0) (0, 0) ⟨.refl _, .refl _⟩ _).mono ?_
            rintro e w4 ⟨rfl, hw4⟩
            subst hw4
            go_wp2_with fail
            go_ret
            exact ⟨rfl, B9.out⟩
          · rw [hv] at ho
            have hlt := (ho.lt ga rfl).2
            have hC := hasC_of ho
            have hC3 : HasC w3 ga 0 k (gathZ z k) := fun j hj => (hb3.cell (by exact Nat.lt_of_lt_of_le hlt BB3.out.size)).trans ((BB3.out.cell (p := ⟨ga, 0 + j, none⟩) hlt).trans (hC j hj))
            have HC3 := Lib.hid hC3
            clear hC3 hC ho
            rw [hv]
            go_wp2_with fail
            refine (sum_any ga 0 k capa (gathZ z k) hk50 _ HC3.out).mono ?_
            rintro e w4 ⟨sa, na, rfl, rfl, hsa⟩
            go_wp2_with fail
            refine (rsum_any ga 0 k capa (gathZ z k) hk50 (w3.drewN na) HC3.out).mono ?_
            rintro e w4 ⟨sb, nb, rfl, rfl, hsb⟩
            have hl := sumTo_like hsa hsb
            have HL := Lib.hid hl
            clear hl hsa hsb
            go_wp2_with fail
            refine (same_same sa sb HL.out _).mono ?_
            rintro e w4 ⟨rfl, hw4⟩
            subst hw4
            go_wp2_with fail
            go_ret
            exact ⟨rfl, below_drewN B9.out _⟩

set_option maxHeartbeats 400000 in
theorem qfour_long (a : Option Addr) (len cap : Nat) (w : World) (hl : 100 < len) :
    Calls Try.prog 3 #[.slice a len cap] w fun e w' => e = .returned (.bool true) ∧ Below w.heap.size w w' := by
  go_enter Try.func3, Try.ntmps3
  go_wp2_with fail
  refine (told_any _).mono ?_
  rintro e w3 ⟨rfl, hb3⟩
  go_wp2_with fail
  go_ret
  exact ⟨rfl, hb3⟩

theorem qfour_any (a : Option Addr) (len cap : Nat) (z : Nat → Nat) (w : World) (h : IsRowF w a len cap z) :
    Calls Try.prog 3 #[.slice a len cap] w fun e w' => e = .returned (.bool true) ∧ Below w.heap.size w w' := by
  by_cases hl : len ≤ 100
  · refine qfour_some a len cap z w hl fun h0 => ?_
    rcases h with ⟨_, h, _⟩ | ⟨x, rfl, hlc, _, hx⟩
    · omega
    · have h1 := (hx 0 (by omega)).1
      obtain ⟨b, off, rfl⟩ := addr_of h1
      rw [add_at] at h1
      exact ⟨b, off, rfl, World.block_lt_of_cell? w _ h1, fun i hi => by rw [← (hx i (by omega)).1, add_at]⟩
  · exact qfour_long a len cap w (by omega)

end Go.Proofs.Ytlnfghmkfgihjaa
