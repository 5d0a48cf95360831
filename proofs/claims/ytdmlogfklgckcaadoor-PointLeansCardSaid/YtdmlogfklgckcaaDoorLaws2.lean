/-
  The laws of places on a ring, walked.
-/
import Derived.Test.YtdmlogfklgckcaaDoorLeanI
namespace Go.Proofs.YtdmlogfklgckcaaDoor
open Go.RowKit
set_option linter.unusedVariables false

set_option maxHeartbeats 1000000 in
theorem told_any (B : Nat) (w : World) (hB : B ≤ w.heap.size) (ht : Tab B w) :
    Calls Tryd.prog 7 #[] w fun e w' => e = .returned (.bool true) ∧ Below B w w' := by
  have o1 : FloatKind.f64.format.order 9223372036854775808 0 = some .eq := by decide +kernel
  have o2 : FloatKind.f64.format.order 4619567317775286272 4619567317775286272 = some .eq := by decide +kernel
  have o3 : FloatKind.f64.format.order 0 0 = some .eq := by decide +kernel
  have t1 : leanB 1073741824 7 = (9223372036854775808, 4619567317775286272) := by decide +kernel
  have t2 : leanB 0 (-1) = (0, 0) := by decide +kernel
  have t3 : ofB [49, 47, 50] = markB 1 2 := by
    unfold markB
    rw [show Lib.itoa 1 = [49] from by unfold Lib.itoa; rw [if_neg (by decide), Lib.decDigits_one (by decide)]; rfl, show Lib.itoa 2 = [50] from by unfold Lib.itoa; rw [if_neg (by decide), Lib.decDigits_one (by decide)]; rfl]
    rfl
  have T1 := Lib.hid t1
  have T2 := Lib.hid t2
  have T3 := Lib.hid t3
  clear t1 t2 t3
  go_enter Tryd.func7, Tryd.ntmps7
  go_wp2_with fail
  refine (dir_any _ (by omega) (by omega) _).mono ?_
  rintro e w' ⟨rfl, rfl⟩
  go_wp2_with fail
  refine (dir_any _ (by omega) (by omega) _).mono ?_
  rintro e w' ⟨rfl, rfl⟩
  go_wp2_with fail
  refine (way_any _ _ _).mono ?_
  rintro e w' ⟨rfl, rfl⟩
  go_wp2_with fail
  refine (lean_any _ _ (by omega) (by omega) _).mono ?_
  rintro e w' ⟨rfl, rfl⟩
  rw [T1.out]
  go_wp2_with fail
  refine (lean_any _ _ (by omega) (by omega) _).mono ?_
  rintro e w' ⟨rfl, rfl⟩
  rw [T2.out]
  go_wp2_with fail
  refine (mark_any _ _ (by omega) (by omega) (by omega) (by omega) B _ hB ht).mono ?_
  rintro e w1 ⟨rfl, hb1⟩
  go_wp2_with fail
  refine (of_any _ (by decide) _).mono ?_
  rintro e w' ⟨rfl, rfl⟩
  rw [show ofB (ByteArray.mk #[49, 47, 50]).data.toList = markB 1 2 from T3.out]
  go_wp2_with fail
  refine (of_any _ (by decide) _).mono ?_
  rintro e w' ⟨rfl, rfl⟩
  go_wp2_with fail
  refine (rof_any _ (by decide) _).mono ?_
  rintro e w' ⟨rfl, rfl⟩
  go_wp2_with fail
  go_ret
  exact ⟨rfl, hb1⟩

set_option maxHeartbeats 1000000 in
theorem dirs_any (p k : Int) (h0 : 0 ≤ p) (h1 : p < 4294967296) (B : Nat) (w : World) (hB : B ≤ w.heap.size) (ht : Tab B w) :
    Calls Tryd.prog 6 #[.int .u32 p, .int .i64 k] w fun e w' => e = .returned (.bool true) ∧ Below B w w' := by
  have hb := i64_and3 k
  obtain ⟨n, hn⟩ : ∃ n, k % 4 = n := ⟨_, rfl⟩
  rw [hn] at hb
  have n0 : 0 ≤ n := by omega
  have n1 : n < 4 := by omega
  clear hn
  obtain ⟨p', hp'⟩ : ∃ p', (p + n * 1073741824) % 4294967296 = p' := ⟨_, rfl⟩
  have p0 : 0 ≤ p' := by omega
  have p1 : p' < 4294967296 := by omega
  have q0 : 0 ≤ p / 1073741824 := by omega
  have q1 : p / 1073741824 < 4 := by omega
  have hc : bits .and .i64 (p / 1073741824 + n) 3 = p' / 1073741824 := by rw [i64_and3]; omega
  have hd : (p' - p) % 4294967296 = n * 1073741824 := by omega
  go_enter Tryd.func6, Tryd.ntmps6
  go_wp2_with fail
  refine (told_any B _ hB ht).mono ?_
  rintro e w1 ⟨rfl, hb1⟩
  go_wp2_with fail
  refine (dir_any _ p0 p1 _).mono ?_
  rintro e w' ⟨rfl, rfl⟩
  go_wp2_with fail
  refine (dir_any _ h0 h1 _).mono ?_
  rintro e w' ⟨rfl, rfl⟩
  go_wp2_with fail
  refine (dir_any _ h0 h1 _).mono ?_
  rintro e w' ⟨rfl, rfl⟩
  go_wp2_with fail
  refine (dir_any _ h0 h1 _).mono ?_
  rintro e w' ⟨rfl, rfl⟩
  go_wp2_with fail
  refine (way_any _ _ _).mono ?_
  rintro e w' ⟨rfl, rfl⟩
  go_wp2_with fail
  go_ret
  exact ⟨rfl, hb1⟩

set_option maxHeartbeats 1000000 in
theorem ways_any (a b c : Int) (ha : 0 ≤ a ∧ a < 4294967296) (hb : 0 ≤ b ∧ b < 4294967296) (hc : 0 ≤ c ∧ c < 4294967296) (B : Nat) (w : World) (hB : B ≤ w.heap.size) (ht : Tab B w) :
    Calls Tryd.prog 4 #[.int .u32 a, .int .u32 b, .int .u32 c] w fun e w' => e = .returned (.bool true) ∧ Below B w w' := by
  have e1 : (a + (b - a) % 4294967296) % 4294967296 = b := by omega
  have e2 : ((b - a) % 4294967296 + (c - b) % 4294967296) % 4294967296 = (c - a) % 4294967296 := by omega
  clear ha hb hc
  go_enter Tryd.func4, Tryd.ntmps4
  go_wp2_with fail
  refine (told_any B _ hB ht).mono ?_
  rintro e w1 ⟨rfl, hb1⟩
  go_wp2_with fail
  refine (way_any _ _ _).mono ?_
  rintro e w' ⟨rfl, rfl⟩
  go_wp2_with fail
  refine (way_any _ _ _).mono ?_
  rintro e w' ⟨rfl, rfl⟩
  go_wp2_with fail
  refine (way_any _ _ _).mono ?_
  rintro e w' ⟨rfl, rfl⟩
  go_wp2_with fail
  refine (way_any _ _ _).mono ?_
  rintro e w' ⟨rfl, rfl⟩
  go_wp2_with fail
  refine (way_any _ _ _).mono ?_
  rintro e w' ⟨rfl, rfl⟩
  go_wp2_with fail
  go_ret
  exact ⟨rfl, hb1⟩

set_option maxHeartbeats 400000 in
theorem same_yes (a b : Nat) (w : World) :
    Calls Tryd.prog 14 #[.complex .f64 a b, .complex .f64 a b] w fun e w' => e = .returned (.bool true) ∧ w = w' := by
  go_enter Tryd.func14, Tryd.ntmps14
  go_wp2_with fail
  refine (float_yes _ _ (Like.refl _) _).mono ?_
  rintro e w' ⟨rfl, rfl⟩
  go_wp2_with fail
  refine (float_yes _ _ (Like.refl _) _).mono ?_
  rintro e w' ⟨rfl, rfl⟩
  go_wp2_with fail
  go_ret
  exact ⟨rfl, rfl⟩

set_option maxHeartbeats 1000000 in
theorem asks_any (s : ByteArray) (a b p : Int) (hs : s.size ≤ maxLen) (ha : -9223372036854775808 ≤ a ∧ a ≤ 9223372036854775807) (hb : -9223372036854775808 ≤ b ∧ b ≤ 9223372036854775807) (h0 : 0 ≤ p) (h1 : p < 4294967296) (B : Nat) (w : World) (hB : B ≤ w.heap.size) (ht : Tab B w) :
    Calls Tryd.prog 3 #[.string s, .int .i64 a, .int .i64 b, .int .u32 p] w fun e w' => e = .returned (.bool true) ∧ Below B w w' := by
  obtain ⟨l1, l2, hl⟩ : ∃ x y, leanB p a = (x, y) := ⟨_, _, rfl⟩
  have HL := Lib.hid hl
  clear hl
  have HS := hs
  unfold maxLen at hs
  by_cases h300 : 300 < s.size
  · go_enter Tryd.func3, Tryd.ntmps3
    go_wp2_with fail
    refine (told_any B _ hB ht).mono ?_
    rintro e w1 ⟨rfl, hb1⟩
    go_wp2_with fail
    go_ret
    exact ⟨rfl, hb1⟩
  · go_enter Tryd.func3, Tryd.ntmps3
    go_wp2_with fail
    refine (told_any B _ hB ht).mono ?_
    rintro e w1 ⟨rfl, hb1⟩
    have ht1 := ht.on hb1
    have hB1 : B ≤ w1.heap.size := Nat.le_trans hB hb1.size
    go_wp2_with fail
    refine (of_any _ HS _).mono ?_
    rintro e w' ⟨rfl, rfl⟩
    go_wp2_with fail
    refine (rof_any _ HS _).mono ?_
    rintro e w' ⟨rfl, rfl⟩
    go_wp2_with fail
    refine (mark_any _ _ ha.1 ha.2 hb.1 hb.2 B _ hB1 ht1).mono ?_
    rintro e w2 ⟨rfl, hb2⟩
    go_wp2_with fail
    refine (rmark_any _ _ ha.1 ha.2 hb.1 hb.2 _).mono ?_
    rintro e w' ⟨rfl, rfl⟩
    go_wp2_with fail
    refine (dir_any _ h0 h1 _).mono ?_
    rintro e w' ⟨rfl, rfl⟩
    go_wp2_with fail
    refine (rdir_any _ h0 h1 _).mono ?_
    rintro e w' ⟨rfl, rfl⟩
    go_wp2_with fail
    refine (lean_any _ _ h0 h1 _).mono ?_
    rintro e w' ⟨rfl, rfl⟩
    rw [HL.out]
    go_wp2_with fail
    refine (rlean_any _ _ h0 h1 _).mono ?_
    rintro e w' ⟨rfl, rfl⟩
    rw [HL.out]
    go_wp2_with fail
    refine (same_yes _ _ _).mono ?_
    rintro e w' ⟨rfl, rfl⟩
    go_wp2_with fail
    go_ret
    exact ⟨rfl, hb1.trans hb2⟩

theorem modm (a : Int) : wrap64 ((IntKind.u64.wrap a).tmod 1000000) = a % 18446744073709551616 % 1000000 := by
  have h : IntKind.u64.wrap a = a % 18446744073709551616 := by simp [IntKind.wrap, IntKind.bits, IntKind.signed]
  rw [h, Int.tmod_eq_emod_of_nonneg (by omega)]
  simp only [wrap64]
  omega

theorem lean_CI (p m : Int) (h0 : 0 ≤ m) (h1 : m ≤ 2000000) : ∃ x y, leanB p m = (x, y) ∧ CI (x, y) (spinI (p / 1073741824) (m, 0)) := by
  have h : CI (leanB p m) (spinI (p / 1073741824) (m, 0)) := by
    unfold leanB
    rw [if_neg (by omega)]
    exact spin_CI _ ⟨Fl.ofInt_isI _ (by omega), fl_0⟩
  exact ⟨(leanB p m).1, (leanB p m).2, rfl, h⟩

theorem spinI_mod (j k : Int) (h : j % 4 = k % 4) (p : Int × Int) : spinI j p = spinI k p := by
  unfold spinI; rw [h]

theorem spinI_spinI (j k : Int) (p : Int × Int) : spinI k (spinI j p) = spinI (j + k) p := by
  have hj : j % 4 = 0 ∨ j % 4 = 1 ∨ j % 4 = 2 ∨ j % 4 = 3 := by omega
  have hk : k % 4 = 0 ∨ k % 4 = 1 ∨ k % 4 = 2 ∨ k % 4 = 3 := by omega
  have e : (j + k) % 4 = (j % 4 + k % 4) % 4 := by omega
  unfold spinI
  rw [e]
  rcases hj with hj | hj | hj | hj <;> rcases hk with hk | hk | hk | hk <;> (rw [hj, hk]; simp)

/-- the sum of two complex numbers of whole parts. -/
theorem cadd_int {x y : Nat × Nat} {p q : Int × Int} (hx : CI x p) (hy : CI y q) (hB : Bd (2 ^ 53) (addI p q)) :
    ∃ r1 r2, CI (r1, r2) (addI p q) ∧ (∀ w, addB w x.1 y.1 = r1) ∧ addA x.1 y.1 = 0 ∧ (∀ w, addB w x.2 y.2 = r2) ∧ addA x.2 y.2 = 0 := by
  obtain ⟨v1, e1, i1⟩ := Fl.add_isI hx.1 hy.1 hB.1
  obtain ⟨v2, e2, i2⟩ := Fl.add_isI hx.2 hy.2 hB.2
  obtain ⟨m1, n1⟩ := addB_val e1
  obtain ⟨m2, n2⟩ := addB_val e2
  exact ⟨v1, v2, ⟨i1, i2⟩, m1, n1, m2, n2⟩

theorem spin_sum (q m n : Int) : addI (spinI q (m, 0)) (spinI q (n, 0)) = spinI q (m + n, 0) := by
  unfold addI spinI
  split
  · simp
  · split
    · simp; omega
    · split
      · simp; omega
      · simp
theorem spin_off (q m : Int) : addI (spinI q (m, 0)) (spinI (q + 2) (m, 0)) = (0, 0) := by
  have h : q % 4 = 0 ∨ q % 4 = 1 ∨ q % 4 = 2 ∨ q % 4 = 3 := by omega
  have e : (q + 2) % 4 = (q % 4 + 2) % 4 := by omega
  unfold addI spinI
  rw [e]
  rcases h with h | h | h | h <;> (rw [h]; simp <;> omega)
theorem spin_nrm (q m : Int) : nrmI (spinI q (m, 0)) = m * m := by
  unfold nrmI spinI
  split
  · simp
  · split
    · simp [Int.neg_mul_neg]
    · split
      · simp [Int.neg_mul_neg]
      · simp

set_option maxHeartbeats 2000000 in
theorem leans_any (p a b : Int) (h0 : 0 ≤ p) (h1 : p < 4294967296) (B : Nat) (w : World) (hB : B ≤ w.heap.size) (ht : Tab B w) :
    Calls Tryd.prog 5 #[.int .u32 p, .int .i64 a, .int .i64 b] w fun e w' => e = .returned (.bool true) ∧ Below B w w' := by
  have ha := modm a
  have hb := modm b
  obtain ⟨m, hm⟩ : ∃ j, a % 18446744073709551616 % 1000000 = j := ⟨_, rfl⟩
  obtain ⟨n, hn⟩ : ∃ j, b % 18446744073709551616 % 1000000 = j := ⟨_, rfl⟩
  have m0 : 0 ≤ m := by omega
  have m1 : m < 1000000 := by omega
  have n0 : 0 ≤ n := by omega
  have n1 : n < 1000000 := by omega
  rw [hm] at ha
  rw [hn] at hb
  clear hm hn
  obtain ⟨q, hq⟩ : ∃ q, p / 1073741824 = q := ⟨_, rfl⟩
  obtain ⟨a1, a2, la, ca⟩ := lean_CI p m m0 (by omega)
  obtain ⟨b1, b2, lb, cb⟩ := lean_CI p n n0 (by omega)
  obtain ⟨c1, c2, lc, cc⟩ := lean_CI p (m + n) (by omega) (by omega)
  obtain ⟨d1, d2, ld, cd⟩ := lean_CI ((p + 2147483648) % 4294967296) m m0 (by omega)
  obtain ⟨f1, f2, lf, cf⟩ := lean_CI ((p + 1073741824) % 4294967296) m m0 (by omega)
  rw [hq] at ca cb cc
  rw [spinI_mod _ (q + 2) (by omega)] at cd
  rw [spinI_mod _ (q + 1) (by omega)] at cf
  have bm : Bd 1000000 (spinI q (m, 0)) := spin_Bd _ ⟨by simp only; omega, by simp only; omega⟩
  obtain ⟨s1, s2, hs, x1, x2, x3, x4⟩ := cadd_int ca cb (by rw [spin_sum]; exact spin_Bd _ ⟨by simp only; omega, by simp only; omega⟩)
  obtain ⟨t1, t2, hT, y1, y2, y3, y4⟩ := cadd_int ca cd (by rw [spin_off]; exact ⟨by decide, by decide⟩)
  rw [spin_sum] at hs
  rw [spin_off] at hT
  have o1 : FloatKind.f64.format.order s1 c1 = some .eq := Fl.eq_isI hs.1 cc.1
  have o2 : FloatKind.f64.format.order s2 c2 = some .eq := Fl.eq_isI hs.2 cc.2
  have o3 : FloatKind.f64.format.order t1 0 = some .eq := Fl.eq_isI hT.1 fl_0
  have o4 : FloatKind.f64.format.order t2 0 = some .eq := Fl.eq_isI hT.2 fl_0
  have cs := spin_CI 1 ca
  rw [spinI_spinI] at cs
  obtain ⟨g1, g2, hg⟩ : ∃ g1 g2, spin 1 (a1, a2) = (g1, g2) := ⟨_, _, rfl⟩
  rw [hg] at cs
  have o5 : FloatKind.f64.format.order f1 g1 = some .eq := Fl.eq_isI cf.1 cs.1
  have o6 : FloatKind.f64.format.order f2 g2 = some .eq := Fl.eq_isI cf.2 cs.2
  have fm := Fl.ofInt_isI m (by omega)
  have sq := sq_bd (B := 1000000) (n := m) (by omega)
  obtain ⟨v, ev, iv⟩ := Fl.mul_isI fm fm (by omega)
  obtain ⟨z1, z2⟩ := mulB_val ev
  have NR := norm_int (a1, a2) _ ca bm
  rw [spin_nrm] at NR
  have NR' := Lib.hid NR
  have LA := Lib.hid la
  have LB := Lib.hid lb
  have LC := Lib.hid lc
  have LD := Lib.hid ld
  have LF := Lib.hid lf
  have HG := Lib.hid hg
  have IV := Lib.hid iv
  clear NR la lb lc ld lf hg iv ev fm sq cs hs hT ca cb cc cd cf bm hq
  go_enter Tryd.func5, Tryd.ntmps5
  go_wp2_with fail
  refine (lean_any _ _ h0 h1 _).mono ?_
  rintro e w' ⟨rfl, rfl⟩
  rw [LA.out]
  go_wp2_with fail
  refine (told_any B _ hB ht).mono ?_
  rintro e w1 ⟨rfl, hb1⟩
  go_wp2_with fail
  refine (lean_any _ _ h0 h1 _).mono ?_
  rintro e w' ⟨rfl, rfl⟩
  rw [LB.out]
  go_wp2_with fail
  refine (lean_any _ _ h0 h1 _).mono ?_
  rintro e w' ⟨rfl, rfl⟩
  rw [LC.out]
  go_wp2_with fail
  refine (lean_any _ _ (by omega) (by omega) _).mono ?_
  rintro e w' ⟨rfl, rfl⟩
  rw [LD.out]
  go_wp2_with fail
  refine (NR'.out _).mono ?_
  rintro e w' ⟨r, rfl, hr, rfl⟩
  have o7 : FloatKind.f64.format.order r v = some .eq := Fl.eq_isI hr IV.out
  clear hr
  go_wp2_with fail
  refine (lean_any _ _ (by omega) (by omega) _).mono ?_
  rintro e w' ⟨rfl, rfl⟩
  rw [LF.out]
  go_wp2_with fail
  refine (spin_any _ _ _ _).mono ?_
  rintro e w' ⟨rfl, rfl⟩
  rw [HG.out]
  go_wp2_with fail
  go_ret
  exact ⟨rfl, hb1⟩

end Go.Proofs.YtdmlogfklgckcaaDoor
