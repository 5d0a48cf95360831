/-
  ValueOrder.
-/
import Derived.Test.YtpibbgencojbgaaTold
import Derived.Test.YtpibbgencojbgaaSize
import Derived.Test.YtpibbgencojbgaaSwap
import Derived.Deep.AppendLies
import Derived.Deep.RegionHeld3
import Derived.Deep.QuietTactic
import Derived.BigQuiet
import Derived.BigRegion
namespace Go.Proofs.Ytpibbgencojbgaa
open Go.RowKit
set_option linter.unusedVariables false

/-- while two items are exchanged: the row is there, and what was there before is as it was. -/
structure ExC (g N B : Nat) (W wx : World) : Prop where
  row : ∃ f, wx.rowIs g 28 N f
  bel : Below B W wx
  low : B ≤ g
theorem cellD_row {w : World} {g N : Nat} {t : TypeId} {f : Nat → Value} (h : w.rowIs g t N f) {j : Nat} (hj : j < N) : cellD w g j = f j := by unfold cellD; rw [h.cell hj]; rfl
theorem ExC.full {g i k N B : Nat} {W wx : World} (h : ExC g N B W wx) (hi : i * 5 + 5 ≤ N) (hk : k * 5 + 5 ≤ N) :
    (wx.cell? ⟨g, i * 5, none⟩ = some (cellD wx g (i * 5)) ∧ wx.cell? ⟨g, i * 5 + 1, none⟩ = some (cellD wx g (i * 5 + 1)) ∧ wx.cell? ⟨g, i * 5 + 2, none⟩ = some (cellD wx g (i * 5 + 2)) ∧ wx.cell? ⟨g, i * 5 + 3, none⟩ = some (cellD wx g (i * 5 + 3)) ∧ wx.cell? ⟨g, i * 5 + 4, none⟩ = some (cellD wx g (i * 5 + 4))) ∧
    (wx.cell? ⟨g, k * 5, none⟩ = some (cellD wx g (k * 5)) ∧ wx.cell? ⟨g, k * 5 + 1, none⟩ = some (cellD wx g (k * 5 + 1)) ∧ wx.cell? ⟨g, k * 5 + 2, none⟩ = some (cellD wx g (k * 5 + 2)) ∧ wx.cell? ⟨g, k * 5 + 3, none⟩ = some (cellD wx g (k * 5 + 3)) ∧ wx.cell? ⟨g, k * 5 + 4, none⟩ = some (cellD wx g (k * 5 + 4))) ∧
    (wx.frozen? ⟨g, i * 5, none⟩ = false ∧ wx.frozen? ⟨g, i * 5 + 1, none⟩ = false ∧ wx.frozen? ⟨g, i * 5 + 2, none⟩ = false ∧ wx.frozen? ⟨g, i * 5 + 3, none⟩ = false ∧ wx.frozen? ⟨g, i * 5 + 4, none⟩ = false) ∧
    (wx.frozen? ⟨g, k * 5, none⟩ = false ∧ wx.frozen? ⟨g, k * 5 + 1, none⟩ = false ∧ wx.frozen? ⟨g, k * 5 + 2, none⟩ = false ∧ wx.frozen? ⟨g, k * 5 + 3, none⟩ = false ∧ wx.frozen? ⟨g, k * 5 + 4, none⟩ = false) ∧ ExC g N B W wx := by
  obtain ⟨⟨f, hr⟩, hb, hl⟩ := h
  have hc : ∀ j, j < N → wx.cell? ⟨g, j, none⟩ = some (cellD wx g j) := fun j hj => by rw [cellD_row hr hj]; exact hr.cell hj
  exact ⟨⟨hc _ (by omega), hc _ (by omega), hc _ (by omega), hc _ (by omega), hc _ (by omega)⟩, ⟨hc _ (by omega), hc _ (by omega), hc _ (by omega), hc _ (by omega), hc _ (by omega)⟩,
    ⟨hr.frozen _, hr.frozen _, hr.frozen _, hr.frozen _, hr.frozen _⟩, ⟨hr.frozen _, hr.frozen _, hr.frozen _, hr.frozen _, hr.frozen _⟩, ⟨f, hr⟩, hb, hl⟩
theorem ExC.cell {g N B : Nat} {W wx : World} (h : ExC g N B W wx) (j : Nat) (v : Value) : ExC g N B W (wx.setCell ⟨g, j, none⟩ v) := by
  obtain ⟨⟨f, hr⟩, hb, hl⟩ := h
  exact ⟨⟨_, hr.set j v⟩, hb.setCell hl v, hl⟩
theorem ExC.drew {g N B : Nat} {W wx : World} (h : ExC g N B W wx) : ExC g N B W wx.drew := by
  obtain ⟨⟨f, hr⟩, hb, hl⟩ := h
  exact ⟨⟨f, hr⟩, hb.drew, hl⟩

/-- two lists of unlike lengths are not the same. -/
theorem same_lens (a b : Option Addr) (n m cap cap' : Nat) (h1 : n ≤ maxLen) (h2 : m ≤ maxLen) (hne : n ≠ m) (w : World) :
    Calls Try.prog 26 #[.slice a n cap, .slice b m cap'] w fun e w' => e = .returned (.bool false) ∧ w = w' := by
  unfold maxLen at h1 h2
  have hb : ((n : Int) == (m : Int)) = false := by rw [beq_eq_false_iff_ne]; omega
  have HL := Lib.hid hne
  clear hne
  go_enter Try.func26, Try.ntmps26
  go_wp2_with fail
  go_step3
  go_wp2_with fail
  try rw [Exit.noGoto_ret]
  go_ret
  exact ⟨rfl, rfl⟩

theorem same_len {w : World} {bs : List Nat} {a b : Option Addr} {cap cap' n : Nat} {l m : List It} (h : SlAt w bs a cap l) (hm : Tb w b cap' m) (hw : weigh l ≤ 100000) (hn : m.length = n) :
    Calls Try.prog 26 #[.slice a l.length cap, .slice b n cap'] w (SameQ l m False w) := by
  subst hn
  exact same_two False h hm hw (fun h => h.elim)
theorem may_len {w : World} {a : Option Addr} {cap n : Nat} {l : List It} (h : Tb w a cap l) (hn : l.length = n) : Calls Try.prog 22 #[.slice a n cap] w (SaysB (MayT 1 l) w) := by
  subst hn
  exact mayTable_any w h

/-- the two stores of the exchange: the row reads as the list with the two exchanged. -/
theorem swap_row {w : World} {g cap i k : Nat} {f : Nat → Value} {zs : List Z} (h : w.rowIs g 28 (cap * 5) f) (hf : ∀ (m r : Nat) (hm : m < zs.length), r < 5 → some (f (m * 5 + r)) = (zc zs[m])[r]?) (hc : zs.length ≤ cap)
    (hi : i < zs.length) (hk : k < zs.length) {X Y : Z} (hX : X = zs[i]) (hY : Y = zs[k]) :
    ∃ f', (put5 (put5 w g (i * 5) (.string Y.1.name) (.int .i64 Y.1.kind) (.int .i64 Y.1.n) (.string Y.1.s) (.slice Y.2.1.1 Y.1.sub.length Y.2.1.2)) g (k * 5) (.string X.1.name) (.int .i64 X.1.kind) (.int .i64 X.1.n) (.string X.1.s) (.slice X.2.1.1 X.1.sub.length X.2.1.2)).rowIs g 28 (cap * 5) f' ∧
      ∀ (m r : Nat) (hm : m < zs.length), r < 5 → some (f' (m * 5 + r)) = (zc ((swp zs i k hi hk)[m]'(by simpa using hm)))[r]? := by
  subst hX hY
  refine ⟨_, row_put5 (row_put5 h _ _ _ _ _ _) _ _ _ _ _ _, fun m r hm hr => ?_⟩
  rw [swp_get zs i k hi hk m hm]
  by_cases hmk : m = k
  · subst hmk
    rw [at5_self _ _ _ _ _ hr, if_pos rfl]
    rfl
  · rw [at5_other _ _ _ _ _ hmk hr, if_neg hmk]
    by_cases hmi : m = i
    · subst hmi
      rw [at5_self _ _ _ _ _ hr, if_pos rfl]
      rfl
    · rw [at5_other _ _ _ _ _ hmi hr, if_neg hmi]
      exact hf m r hm hr
/-- .. and is that table. -/
theorem swap_tb {w w' : World} {g cap i k : Nat} {f : Nat → Value} {zs : List Z} {l : List It} (h : w'.rowIs g 28 (cap * 5) f) (hl : zs.map (·.1) = l) (hi : i < zs.length) (hk : k < zs.length) (hil : i < l.length) (hkl : k < l.length)
    (hf : ∀ (m r : Nat) (hm : m < zs.length), r < 5 → some (f (m * 5 + r)) = (zc ((swp zs i k hi hk)[m]'(by simpa using hm)))[r]?) (hc : zs.length ≤ cap) (hm : cap ≤ maxLen) (hz : ∀ z ∈ zs, ZOk w z) (hb : Below w.heap.size w w') :
    Tb w' (some ⟨g, 0, none⟩) cap (swp l i k hil hkl) := by
  subst hl
  have h2 := slAt_cells (w := w') (g := g) (cap := cap) (zs := swp zs i k hi hk) (by simpa using hc) hm (h.frozen _) (fun m r hm' hr => by
    have hm2 : m < zs.length := by simpa using hm'
    rw [h.cell (by omega), hf m r hm2 hr]) (fun z hz' => by
      have hzk := hz z (swp_mem hz')
      exact ⟨hzk.sub.keep fun b hb' => hb.block b (hzk.sub.lt b hb'), hzk.m0, hzk.k1, hzk.k2, hzk.m3⟩)
  rw [swp_map] at h2
  exact h2

theorem row_at {w : World} {g cap : Nat} {f : Nat → Value} {zs : List Z} (h : w.rowIs g 28 (cap * 5) f) (hf : ∀ (m r : Nat) (hm : m < zs.length), r < 5 → some (f (m * 5 + r)) = (zc zs[m])[r]?) {m : Nat} (hm : m < zs.length) (hc : zs.length ≤ cap) :
    (w.cell? ⟨g, m * 5, none⟩ = some (.string zs[m].1.name) ∧ w.cell? ⟨g, m * 5 + 1, none⟩ = some (.int .i64 zs[m].1.kind) ∧ w.cell? ⟨g, m * 5 + 2, none⟩ = some (.int .i64 zs[m].1.n) ∧ w.cell? ⟨g, m * 5 + 3, none⟩ = some (.string zs[m].1.s) ∧ w.cell? ⟨g, m * 5 + 4, none⟩ = some (.slice zs[m].2.1.1 zs[m].1.sub.length zs[m].2.1.2)) ∧
    w.frozen? ⟨g, m * 5, none⟩ = false ∧ w.frozen? ⟨g, m * 5 + 1, none⟩ = false ∧ w.frozen? ⟨g, m * 5 + 2, none⟩ = false ∧ w.frozen? ⟨g, m * 5 + 3, none⟩ = false ∧ w.frozen? ⟨g, m * 5 + 4, none⟩ = false := by
  have hc5 : ∀ r, r < 5 → w.cell? ⟨g, m * 5 + r, none⟩ = (zc zs[m])[r]? := fun r hr => by rw [h.cell (by omega), hf m r hm hr]
  exact ⟨⟨hc5 0 (by omega), hc5 1 (by omega), hc5 2 (by omega), hc5 3 (by omega), hc5 4 (by omega)⟩, h.frozen _, h.frozen _, h.frozen _, h.frozen _, h.frozen _⟩

set_option maxRecDepth 100000 in
set_option maxHeartbeats 4000000 in
theorem order_any (a0 : Option Addr) (cap0 : Nat) (l0 : List It) (p1 p2 : Int) (w : World) (w0 : Tb w a0 cap0 l0) (w1 : (Lit.int .i64 p1).wf = true) (w2 : (Lit.int .i64 p2).wf = true) :
    Calls Try.prog 8 #[.slice a0 l0.length cap0, .int .i64 p1, .int .i64 p2] w fun e w' => e = .returned (.bool true) ∧ Below w.heap.size w w' := by
  clear w1 w2
  have hlen := w0.len
  unfold maxLen at hlen
  have HT0 := Lib.hid w0
  clear w0
  go_enter Try.func8, Try.ntmps8
  go_wp2_with fail
  refine (few_any _ HT0.out).mono ?_
  rintro e wx ⟨r, rfl, rfl, hf⟩
  have HF := Lib.hid hf
  clear hf
  cases r
  · go_wp2_with fail
    refine (told_any _).mono ?_
    rintro e w' ⟨rfl, hb⟩
    have HB := Lib.hid hb
    clear hb
    go_wp2_with fail
    go_ret
    exact ⟨rfl, HB.out⟩
  go_wp2_with fail
  refine (mayTable_any _ HT0.out).mono ?_
  rintro e w1 ⟨r, hr, rfl, hb1⟩
  have HM := Lib.hid hr
  have HB1 := Lib.hid hb1
  have HT1 := Lib.hid (HT0.out.below hb1)
  clear hr hb1
  cases r
  · go_wp2_with fail
    refine (told_any _).mono ?_
    rintro e w' ⟨rfl, hb⟩
    have HB := Lib.hid (HB1.out.trans (hb.mono HB1.out.size))
    clear hb
    go_wp2_with fail
    go_ret
    exact ⟨rfl, HB.out⟩
  by_cases h2 : (l0.length : Int) < 2
  · go_wp2_with fail
    refine (told_any _).mono ?_
    rintro e w' ⟨rfl, hb⟩
    have HB := Lib.hid (HB1.out.trans (hb.mono HB1.out.size))
    clear hb
    go_wp2_with fail
    go_ret
    exact ⟨rfl, HB.out⟩
  have hl32 := (HM.out.1 rfl).2.1
  obtain ⟨q1, hq1⟩ : ∃ q, IntKind.u64.wrap p1 = q := ⟨_, rfl⟩
  obtain ⟨q2, hq2⟩ : ∃ q, IntKind.u64.wrap p2 = q := ⟨_, rfl⟩
  have hqb1 : 0 ≤ q1 := by rw [← hq1, IntKind.wrap_u64]; omega
  have hqb2 : 0 ≤ q2 := by rw [← hq2, IntKind.wrap_u64]; omega
  have hlw : IntKind.u64.wrap (l0.length : Int) = (l0.length : Int) := by rw [IntKind.wrap_u64]; omega
  obtain ⟨i, hi, hil⟩ : ∃ i : Nat, q1.tmod (l0.length : Int) = (i : Int) ∧ i < l0.length := by
    rw [Int.tmod_eq_emod_of_nonneg hqb1]
    have h1 := Int.emod_nonneg q1 (b := (l0.length : Int)) (by omega)
    have h2 := Int.emod_lt_of_pos q1 (b := (l0.length : Int)) (by omega)
    exact ⟨(q1 % (l0.length : Int)).toNat, by omega, by omega⟩
  obtain ⟨k, hk, hkl⟩ : ∃ i : Nat, q2.tmod (l0.length : Int) = (i : Int) ∧ i < l0.length := by
    rw [Int.tmod_eq_emod_of_nonneg hqb2]
    have h1 := Int.emod_nonneg q2 (b := (l0.length : Int)) (by omega)
    have h2 := Int.emod_lt_of_pos q2 (b := (l0.length : Int)) (by omega)
    exact ⟨(q2 % (l0.length : Int)).toNat, by omega, by omega⟩
  clear hqb1 hqb2
  have hl0 : ¬ (l0.length : Int) = 0 := by omega
  have hwi : IntKind.i64.wrap (i : Int) = (i : Int) := IntWalk.i64_in _ (by omega)
  have hwk : IntKind.i64.wrap (k : Int) = (k : Int) := IntWalk.i64_in _ (by omega)
  go_wp2_with fail
  go_quiet (fail)
  obtain ⟨bs1, hs1⟩ := HT1.out
  obtain ⟨b, o, zs, rfl, hzm, hzok, hzc⟩ := hs1.row (by omega)
  have hzl : l0.length = zs.length := by rw [← hzm]; simp
  have hz0 : 0 < zs.length := by omega
  have hz1 : zs.length ≤ 100000 := by omega
  have HZL := Lib.hid hzl
  have HZM := Lib.hid hzm
  have HZ0 := Lib.hid hz0
  have HZ1 := Lib.hid hz1
  have HZC := Lib.hid hzc
  have HZK := Lib.hid hzok
  have HS1 := Lib.hid hs1
  clear hzm hzok hzc hs1 hzl hz0 hz1
  go_wp2_with (at_builtin; refine put_copy (zs := zs) (w := w1.drewN nq) rfl (.tmp 38) (.tmp 39) rfl HZ0.out HZ1.out HZC.out rfl rfl HZL.out rfl ?_; intro g cap4 f w3 hg hcap hcm hrow hf hb3; have HROW := Lib.hid hrow; have HF4 := Lib.hid hf; have HB3 := Lib.hid hb3; have HC4 := Lib.hid hcap; have HG4 := Lib.hid hg; have HCM := Lib.hid hcm; clear hg hcap hrow hf hb3 hcm)
  have hi5 : i * 5 + 5 ≤ cap4 * 5 := by have := HC4.out; have := HZL.out; omega
  have hk5 : k * 5 + 5 ≤ cap4 * 5 := by have := HC4.out; have := HZL.out; omega
  have hgB : w.heap.size ≤ g := Nat.le_trans HB1.out.size HG4.out
  have hb13 : Below w.heap.size w w3 := HB1.out.trans ((show Below w1.heap.size w1 w3 from Below.trans (Below.drewN (Below.refl _ _) nq) HB3.out).mono HB1.out.size)
  have hex : ExC g (cap4 * 5) w.heap.size w w3 := ⟨⟨f, HROW.out⟩, hb13, hgB⟩
  have HEX := Lib.hid hex
  have H5 := Lib.hid (And.intro hi5 hk5)
  clear hex hi5 hk5 hb13
  have hi1 : (i : Int) < (l0.length : Int) := by omega
  have hk1 : (k : Int) < (l0.length : Int) := by omega
  have hi0 : (0 : Int) ≤ (i : Int) := by omega
  have hk0 : (0 : Int) ≤ (k : Int) := by omega
  have HCL := Lib.hid hlen
  clear hlen hq1 hq2 hlw hl0 hwi hwk h2
  obtain ⟨X, hX⟩ : ∃ z, z = zs[i]'(by have := HZL.out; omega) := ⟨_, rfl⟩
  obtain ⟨Y, hY⟩ : ∃ z, z = zs[k]'(by have := HZL.out; omega) := ⟨_, rfl⟩
  obtain ⟨⟨i0, i1, i2, i3, i4⟩, fi0, fi1, fi2, fi3, fi4⟩ := row_at (w := w3) HROW.out HF4.out (m := i) (by have := HZL.out; omega) HC4.out
  obtain ⟨⟨k0, k1, k2, k3, k4⟩, fk0, fk1, fk2, fk3, fk4⟩ := row_at (w := w3) HROW.out HF4.out (m := k) (by have := HZL.out; omega) HC4.out
  rw [← hX] at i0 i1 i2 i3 i4
  rw [← hY] at k0 k1 k2 k3 k4
  have HX := Lib.hid hX
  have HY := Lib.hid hY
  clear hX hY
  have hiz : i < zs.length := by have := HZL.out; omega
  have hkz : k < zs.length := by have := HZL.out; omega
  obtain ⟨f', hrow', hf'⟩ := swap_row HROW.out HF4.out HC4.out hiz hkz HX.out HY.out
  have hbw : Below w1.heap.size w1 (put5 (put5 w3 g (i * 5) (.string Y.1.name) (.int .i64 Y.1.kind) (.int .i64 Y.1.n) (.string Y.1.s) (.slice Y.2.1.1 Y.1.sub.length Y.2.1.2)) g (k * 5) (.string X.1.name) (.int .i64 X.1.kind) (.int .i64 X.1.n) (.string X.1.s) (.slice X.2.1.1 X.1.sub.length X.2.1.2)).drew :=
    (put5_below HG4.out _ _ _ _ _ (put5_below HG4.out _ _ _ _ _ (show Below w1.heap.size w1 w3 from Below.trans (Below.drewN (Below.refl _ _) nq) HB3.out))).drew
  have htb : Tb (put5 (put5 w3 g (i * 5) (.string Y.1.name) (.int .i64 Y.1.kind) (.int .i64 Y.1.n) (.string Y.1.s) (.slice Y.2.1.1 Y.1.sub.length Y.2.1.2)) g (k * 5) (.string X.1.name) (.int .i64 X.1.kind) (.int .i64 X.1.n) (.string X.1.s) (.slice X.2.1.1 X.1.sub.length X.2.1.2)).drew (some ⟨g, 0, none⟩) cap4 (swp l0 i k hil hkl) :=
    swap_tb hrow'.drew HZM.out hiz hkz hil hkl hf' HC4.out HCM.out HZK.out hbw
  have hmay := swp_may (HM.out.1 (by trivial)) hil hkl
  have hli := swp_length l0 i k hil hkl
  have hal := fun h => swp_alike (HM.out.1 (by trivial)).2.2.1 hil hkl h
  have hse : i = k → l0 = swp l0 i k hil hkl := fun e => by subst e; exact (swp_self l0 i hil).symm
  obtain ⟨M, hM⟩ : ∃ M, M = swp l0 i k hil hkl := ⟨_, rfl⟩
  rw [← hM] at htb hmay hli hal hse
  have HBW := Lib.hid hbw
  have HTM := Lib.hid htb
  have HMM := Lib.hid hmay
  have HAL := Lib.hid hal
  have HSE := Lib.hid hse
  have HLI := Lib.hid hli
  clear hiz hkz hrow' hf' hbw htb hmay hli hal hse hM
  obtain ⟨w4, hw4⟩ : ∃ w4, w4 = (put5 (put5 w3 g (i * 5) (.string Y.1.name) (.int .i64 Y.1.kind) (.int .i64 Y.1.n) (.string Y.1.s) (.slice Y.2.1.1 Y.1.sub.length Y.2.1.2)) g (k * 5) (.string X.1.name) (.int .i64 X.1.kind) (.int .i64 X.1.n) (.string X.1.s) (.slice X.2.1.1 X.1.sub.length X.2.1.2)).drew := ⟨_, rfl⟩
  rw [← hw4] at HBW HTM
  unfold put5 at hw4
  have HW4 := Lib.hid hw4
  have HLW := Lib.hid (show weigh l0 ≤ 100000 by have := HF.out (by trivial); omega)
  clear hw4
  have HTL := Lib.hid HS1.out
  clear HROW HF4 HB3 HZC HZK HZM HZ0 HZ1 HC4 HG4 HCM HEX H5 HT0 HF HM hl32 hi hk HT1
  by_cases hik : i = k
  case' pos => (subst hik; obtain rfl : X = Y := HX.out.trans HY.out.symm; have hrr : ∀ r : Bool, (l0 = M → r = true) → (r = true → AlikeT l0 M) → r = true := fun r h1 _ => h1 (HSE.out rfl))
  case' neg => (have hrr : ∀ r : Bool, (l0 = M → r = true) → (r = true → AlikeT l0 M) → r = false := (fun r _ h2 => by cases r; rfl; exact (hik (HAL.out (h2 rfl))).elim); have hne : ((i : Int) == (k : Int)) = false := (by rw [beq_eq_false_iff_ne]; omega))
  all_goals
    have HRR := Lib.hid hrr
    clear hrr HAL HSE
    go_region
    have hw4 := HW4.out
    rw [← hw4]
    clear i0 i1 i2 i3 i4 k0 k1 k2 k3 k4 fi0 fi1 fi2 fi3 fi4 fk0 fk1 fk2 fk3 fk4 hw4 HW4 HX HY
    go_wp2_with fail
    refine (told_any _).mono ?_
    rintro e w5 ⟨rfl, hb5⟩
    have hb15 := HBW.out.trans (hb5.mono HBW.out.size)
    have HS5 := Lib.hid (HS1.out.keep fun b hb => hb15.block b (HS1.out.lt b hb))
    have HT5 := Lib.hid (HTM.out.below hb5)
    have HB5 := Lib.hid (HB1.out.trans (hb15.mono HB1.out.size))
    clear hb5 hb15 HBW HTM HS1 HB1 HTL
    go_wp2_with fail
    refine (same_len HS5.out HT5.out HLW.out HLI.out).mono ?_
    rintro e w6 ⟨r, rfl, hb6, hr1, hr2, _⟩
    have HS6 := Lib.hid (HS5.out.keep fun b hb => hb6.block b (HS5.out.lt b hb))
    have HT6 := Lib.hid (HT5.out.below hb6)
    have HB6 := Lib.hid (HB5.out.trans (hb6.mono HB5.out.size))
    clear hb6 HS5 HT5 HB5
    obtain rfl := HRR.out r hr1 hr2
    clear hr1 hr2 HRR
    go_wp2_with fail
    refine (may_len HT6.out HLI.out).mono ?_
    rintro e w7 ⟨r, hr, rfl, hb7⟩
    obtain rfl : r = true := hr.2 HMM.out
    have HB7 := Lib.hid (HB6.out.trans (hb7.mono HB6.out.size))
    have hcl := HCL.out
    have hm1 : l0.length ≤ maxLen := by unfold maxLen; omega
    have hm2 : l0.length - 1 ≤ maxLen := by unfold maxLen; omega
    clear hr hb7 HS6 HT6 HB6
    go_wp2_with fail
    refine (same_lens _ _ _ _ _ _ hm1 hm2 (by omega) _).mono ?_
    rintro e w8 ⟨rfl, rfl⟩
    go_wp2_with fail
    refine (same_lens _ _ _ _ _ _ hm2 hm1 (by omega) _).mono ?_
    rintro e w8 ⟨rfl, rfl⟩
    go_wp2_with fail
    go_ret
    exact ⟨by first | rfl | (simp; done) | (simp [*]; done), HB7.out⟩

end Go.Proofs.Ytpibbgencojbgaa
