/-
  Law 12's Do, walked.
-/
import Derived.Test.YthohjcfpobeplaaShNext
import Derived.Test.YthohjcfpobeplaaShInv
import Derived.Test.YthohjcfpobeplaaShAck
import Derived.Test.YthohjcfpobeplaaShHeld
import Derived.Test.YthohjcfpobeplaaShEq
import Derived.Test.YthohjcfpobeplaaShRAck
import Derived.Test.YthohjcfpobeplaaShRPut
import Derived.Test.YthohjcfpobeplaaShRGet
import Derived.Test.YthohjcfpobeplaaShGetG
import Derived.Deep.CutRange
import Derived.Deep.RegionHeld3
import Derived.Deep.CutBlock
import Derived.BigRegion
namespace Go.Proofs.Ythohjcfpobeplaa.Sh
open Go.RowKit Rg Go.Sort
set_option linter.unusedVariables false
set_option linter.unusedSimpArgs false

def kdF (o : OpD) : Nat := (o.kind % 10).toNat
def tagF (s : Sd) (o : OpD) : Int := if kdF o ≠ 9 ∧ 0 < s.hd.length then ((s.hd[u64m o.n s.hd.length]?).getD hd0).tag else o.n
def stepF (s : Sd) (o : OpD) : Sd :=
  if kdF o < 3 then putS s (nextF s o)
  else if kdF o < 5 then getS s
  else if kdF o = 5 ∨ kdF o = 9 ∧ o.pub % 2 = 1 then ackS s (tagF s o)
  else if kdF o = 6 then nackS s (tagF s o)
  else if kdF o = 7 then setS s true
  else if kdF o = 8 then setS s false
  else putS s o.l
def stepC (s : Sd) (o : OpD) : Int :=
  if kdF o < 3 then putC s (nextF s o)
  else if kdF o < 5 then getC s
  else if kdF o = 5 ∨ kdF o = 9 ∧ o.pub % 2 = 1 then outC s (tagF s o)
  else if kdF o = 6 then outC s (tagF s o)
  else if kdF o = 7 then setC s true
  else if kdF o = 8 then setC s false
  else putC s o.l
theorem kd_is (o : OpD) : ((o.kind.tmod 10) + 10).tmod 10 = (kdF o : Int) ∧ kdF o < 10 := by
  unfold kdF
  have hr : 0 ≤ o.kind % 10 ∧ o.kind % 10 < 10 := by omega
  have h1 : (o.kind.tmod 10 = o.kind % 10) ∨ (o.kind.tmod 10 = o.kind % 10 - 10 ∧ o.kind % 10 ≠ 0) ∨ (o.kind.tmod 10 = 0 ∧ o.kind % 10 = 0) := by
    by_cases h : 0 ≤ o.kind
    · left; exact Int.tmod_eq_emod_of_nonneg h
    · have h3 := Int.neg_tmod (-o.kind) 10
      rw [Int.neg_neg, Int.tmod_eq_emod_of_nonneg (show 0 ≤ -o.kind by omega)] at h3
      rw [h3]
      omega
  generalize o.kind.tmod 10 = x at *
  generalize o.kind % 10 = y at *
  have h2 : (x + 10).tmod 10 = (x + 10) % 10 := Int.tmod_eq_emod_of_nonneg (by omega)
  rw [h2]
  omega
theorem five_box {w : World} (o1 o2 o3 o4 o5 : Obj) : (((((w.alloc o1).alloc o2).alloc o3).alloc o4).alloc o5).heap[w.heap.size]? = some o1 ∧ (((((w.alloc o1).alloc o2).alloc o3).alloc o4).alloc o5).heap[w.heap.size + 1]? = some o2 ∧ (((((w.alloc o1).alloc o2).alloc o3).alloc o4).alloc o5).heap[w.heap.size + 2]? = some o3 ∧ (((((w.alloc o1).alloc o2).alloc o3).alloc o4).alloc o5).heap[w.heap.size + 3]? = some o4 ∧ (((((w.alloc o1).alloc o2).alloc o3).alloc o4).alloc o5).heap[w.heap.size + 4]? = some o5 ∧ Below w.heap.size w (((((w.alloc o1).alloc o2).alloc o3).alloc o4).alloc o5) ∧ (((((w.alloc o1).alloc o2).alloc o3).alloc o4).alloc o5).heap.size = w.heap.size + 5 := by
  obtain ⟨h1, h2, h3, h4, h5⟩ := three_box (w := w) o1 o2 o3
  obtain ⟨k1, k2, k3, k4⟩ := two_box (w := ((w.alloc o1).alloc o2).alloc o3) o4 o5
  rw [h5] at k1 k2 k4
  exact ⟨box_bl h1 k3, box_bl h2 k3, box_bl h3 k3, k1, k2, h4.trans (k3.mono (by omega)), k4⟩
theorem pub_and (n : Int) : bits .and .i64 n 1 = n % 2 := by
  have e : (BitVec.ofInt 64 n &&& BitVec.ofInt 64 1).toNat = (n % ((2 ^ 64 : Nat) : Int)).toNat % 2 ^ 1 := by
    rw [BitVec.toNat_and, BitVec.toNat_ofInt, show (BitVec.ofInt 64 1).toNat = 2 ^ 1 - 1 by decide, Nat.and_two_pow_sub_one_eq_mod]
  show IntKind.i64.wrap ((BitVec.ofInt 64 n &&& BitVec.ofInt 64 1).toNat : Nat) = n % 2
  rw [e, IntKind.wrap_i64]
  omega
theorem own_again {w : World} {base : Nat} {a : Option Addr} {cap : Nat} {l : List Mg} (h : OwnG w base (.slice a l.length cap) l) : MgsAt w a cap l ∧ (a = none → cap = 0) := by
  obtain ⟨a', c', e, h1, h2⟩ := OwnE.at mgE h
  obtain ⟨rfl, -, rfl⟩ := Value.slice.inj e
  exact ⟨h1, h2⟩
theorem next_le (s : Sd) (o : OpD) : (nextF s o).length ≤ 1000 := by
  have := (u64_mod o.many 3 (by omega)).2
  unfold nextF
  rw [List.length_map, List.length_range]
  omega
theorem list_tab (L : List Value) (u : Value) : L = (List.range L.length).map (fun i => L.getD i u) := by
  apply List.ext_getElem
  · simp
  · intro i h1 h2
    simp [h1]
set_option maxRecDepth 100000 in
theorem lit183 (L : List Value) (h : L.length = 183) : ∃ f : Nat → Value, (∀ i, f i = L.getD i undef) ∧ L = (f 0 :: f 1 :: f 2 :: f 3 :: f 4 :: f 5 :: f 6 :: f 7 :: f 8 :: f 9 :: f 10 :: f 11 :: f 12 :: f 13 :: f 14 :: f 15 :: f 16 :: f 17 :: f 18 :: f 19 :: f 20 :: f 21 :: f 22 :: f 23 :: f 24 :: f 25 :: f 26 :: f 27 :: f 28 :: f 29 :: f 30 :: f 31 :: f 32 :: f 33 :: f 34 :: f 35 :: f 36 :: f 37 :: f 38 :: f 39 :: f 40 :: f 41 :: f 42 :: f 43 :: f 44 :: f 45 :: f 46 :: f 47 :: f 48 :: f 49 :: f 50 :: f 51 :: f 52 :: f 53 :: f 54 :: f 55 :: f 56 :: f 57 :: f 58 :: f 59 :: f 60 :: f 61 :: f 62 :: f 63 :: f 64 :: f 65 :: f 66 :: f 67 :: f 68 :: f 69 :: f 70 :: f 71 :: f 72 :: f 73 :: f 74 :: f 75 :: f 76 :: f 77 :: f 78 :: f 79 :: f 80 :: f 81 :: f 82 :: f 83 :: f 84 :: f 85 :: f 86 :: f 87 :: f 88 :: f 89 :: f 90 :: f 91 :: f 92 :: f 93 :: f 94 :: f 95 :: f 96 :: f 97 :: f 98 :: f 99 :: f 100 :: f 101 :: f 102 :: f 103 :: f 104 :: f 105 :: f 106 :: f 107 :: f 108 :: f 109 :: f 110 :: f 111 :: f 112 :: f 113 :: f 114 :: f 115 :: f 116 :: f 117 :: f 118 :: f 119 :: f 120 :: f 121 :: f 122 :: f 123 :: f 124 :: f 125 :: f 126 :: f 127 :: f 128 :: f 129 :: f 130 :: f 131 :: f 132 :: f 133 :: f 134 :: f 135 :: f 136 :: f 137 :: f 138 :: f 139 :: f 140 :: f 141 :: f 142 :: f 143 :: f 144 :: f 145 :: f 146 :: f 147 :: f 148 :: f 149 :: f 150 :: f 151 :: f 152 :: f 153 :: f 154 :: f 155 :: f 156 :: f 157 :: f 158 :: f 159 :: f 160 :: f 161 :: f 162 :: f 163 :: f 164 :: f 165 :: f 166 :: f 167 :: f 168 :: f 169 :: f 170 :: f 171 :: f 172 :: f 173 :: f 174 :: f 175 :: f 176 :: f 177 :: f 178 :: f 179 :: f 180 :: f 181 :: f 182 :: []) := by
  refine ⟨fun i => L.getD i undef, fun _ => rfl, ?_⟩
  have h1 := list_tab L undef
  rw [h] at h1
  exact h1
theorem getD_of {L : List Value} {i : Nat} {v : Value} (h : L[i]? = some v) : L.getD i undef = v := by
  rw [List.getD_eq_getElem?_getD, h]; rfl
theorem res_two {fn : Func} {i j k : Tmp} {tmps : Array Value} {g h : Nat} {c x y z u v x' y' z' u' v' : Value} {w : World} (hr : fn.results = #[.cell i 26, .cell j 26, .tmp k]) (hi : tmps.getD i undef = .pointer (some ⟨g, 0, none⟩)) (hj : tmps.getD j undef = .pointer (some ⟨h, 0, none⟩)) (hk : tmps.getD k undef = c)
    (hg : w.heap[g]? = some (.cells #[x, y, z, u, v] 26 (0, 0))) (hh : w.heap[h]? = some (.cells #[x', y', z', u', v'] 26 (0, 0))) : (results fn tmps).run Try.prog w = .ok (.tuple #[.agg #[x, y, z, u, v], .agg #[x', y', z', u', v'], c]) w := by
  unfold results
  rw [hr]
  rw [Array.getD_eq_getD_getElem?] at hi hj hk
  obtain ⟨⟨c0, c1, c2, c3, c4⟩, -⟩ := box5 hg
  obtain ⟨⟨d0, d1, d2, d3, d4⟩, -⟩ := box5 hh
  simp [go_sem, hi, hj, hk, *]
def DoR (s : Sd) (o : OpD) (w : World) (e : Ending) (w' : World) : Prop :=
  ∃ ra3 rc3 ha3 hc3 ma3 mc3 ra4 rc4 ha4 hc4 ma4 mc4, e = .returned (.tuple #[.agg #[.bool (stepF s o).fr, .int .i64 (stepF s o).nx, .slice ra3 (stepF s o).rd.length rc3, .slice ha3 (stepF s o).hd.length hc3, .slice ma3 (stepF s o).ms.length mc3], .agg #[.bool (stepF s o).fr, .int .i64 (stepF s o).nx, .slice ra4 (stepF s o).rd.length rc4, .slice ha4 (stepF s o).hd.length hc4, .slice ma4 (stepF s o).ms.length mc4], .bool true]) ∧ SdAt w' ra3 rc3 ha3 hc3 ma3 mc3 (stepF s o) ∧ SdAt w' ra4 rc4 ha4 hc4 ma4 mc4 (stepF s o) ∧ Below w.heap.size w w'
def doCut (s : Sd) (o : OpD) (W2 : World) (g h : Nat) (v13 v14 : Value) (wx : World) : Prop :=
  ∃ ra3 rc3 ha3 hc3 ma3 mc3 ra4 rc4 ha4 hc4 ma4 mc4, v13 = .int .i64 (stepC s o) ∧ v14 = .int .i64 (stepC s o) ∧ Below W2.heap.size W2 wx ∧
    wx.heap[g]? = some (.cells #[.bool (stepF s o).fr, .int .i64 (stepF s o).nx, .slice ra3 (stepF s o).rd.length rc3, .slice ha3 (stepF s o).hd.length hc3, .slice ma3 (stepF s o).ms.length mc3] 26 (0, 0)) ∧ wx.heap[h]? = some (.cells #[.bool (stepF s o).fr, .int .i64 (stepF s o).nx, .slice ra4 (stepF s o).rd.length rc4, .slice ha4 (stepF s o).hd.length hc4, .slice ma4 (stepF s o).ms.length mc4] 26 (0, 0)) ∧ SdAt wx ra3 rc3 ha3 hc3 ma3 mc3 (stepF s o) ∧ SdAt wx ra4 rc4 ha4 hc4 ma4 mc4 (stepF s o)
set_option maxRecDepth 100000 in
set_option maxHeartbeats 8000000 in
theorem do_any (s : Sd) (ra : Option Addr) (rc : Nat) (ha : Option Addr) (hc : Nat) (ma : Option Addr) (mc : Nat) (ra2 : Option Addr) (rc2 : Nat) (ha2 : Option Addr) (hc2 : Nat) (ma2 : Option Addr) (mc2 : Nat) (o : OpD) (ao : Option Addr) (co : Nat) (hm : MaySd s) (ho9 : kdF o = 9 → o.l.length ≤ 1000) (w : World) (hs : SdAt w ra rc ha hc ma mc s) (ht : SdAt w ra2 rc2 ha2 hc2 ma2 mc2 s) (ho : OpAt w ao co o) :
    Calls Try.prog 40 #[.agg #[.bool s.fr, .int .i64 s.nx, .slice ra s.rd.length rc, .slice ha s.hd.length hc, .slice ma s.ms.length mc], .agg #[.bool s.fr, .int .i64 s.nx, .slice ra2 s.rd.length rc2, .slice ha2 s.hd.length hc2, .slice ma2 s.ms.length mc2], .agg #[.int .i64 o.kind, .int .i64 o.pub, .int .i64 o.key, .int .i64 o.many, .int .i64 o.n, .slice ao o.l.length co]] w (DoR s o w) := by
  obtain ⟨hx, hy, hz, hu, hv, hb0, hWs⟩ := five_box (w := w) (.cells #[.bool s.fr, .int .i64 s.nx, .slice ra s.rd.length rc, .slice ha s.hd.length hc, .slice ma s.ms.length mc] 26) (.cells #[.bool s.fr, .int .i64 s.nx, .slice ra2 s.rd.length rc2, .slice ha2 s.hd.length hc2, .slice ma2 s.ms.length mc2] 26) (.cells #[.int .i64 o.kind, .int .i64 o.pub, .int .i64 o.key, .int .i64 o.many, .int .i64 o.n, .slice ao o.l.length co] 48) (.cells #[.bool false, .int .i64 0, .slice none 0 0, .slice none 0 0, .slice none 0 0] 26) (.cells #[.bool false, .int .i64 0, .slice none 0 0, .slice none 0 0, .slice none 0 0] 26)
  obtain ⟨W, hW⟩ : ∃ W, W = ((((w.alloc (.cells #[.bool s.fr, .int .i64 s.nx, .slice ra s.rd.length rc, .slice ha s.hd.length hc, .slice ma s.ms.length mc] 26)).alloc (.cells #[.bool s.fr, .int .i64 s.nx, .slice ra2 s.rd.length rc2, .slice ha2 s.hd.length hc2, .slice ma2 s.ms.length mc2] 26)).alloc (.cells #[.int .i64 o.kind, .int .i64 o.pub, .int .i64 o.key, .int .i64 o.many, .int .i64 o.n, .slice ao o.l.length co] 48)).alloc (.cells #[.bool false, .int .i64 0, .slice none 0 0, .slice none 0 0, .slice none 0 0] 26)).alloc (.cells #[.bool false, .int .i64 0, .slice none 0 0, .slice none 0 0, .slice none 0 0] 26) := ⟨_, rfl⟩
  rw [← hW] at hx hy hz hu hv hb0 hWs
  have HBX := Lib.hid (fun (wx : World) (h : Below W.heap.size W wx) => And.intro (box_bl hx h) (And.intro (box_bl hy h) (And.intro (box_bl hz h) (And.intro (box_bl hu h) (box_bl hv h)))))
  have HB0 := Lib.hid hb0
  have HWS := Lib.hid hWs
  have HS1 := Lib.hid (hs.below ra rc ha hc ma mc hb0)
  have HT1 := Lib.hid (ht.below ra2 rc2 ha2 hc2 ma2 mc2 hb0)
  have HO1 := Lib.hid (ho.below hb0)
  have HM := Lib.hid hm
  have HW := Lib.hid hW
  obtain ⟨hk1, hk2⟩ := kd_is o
  have HKD := Lib.hid hk2
  have hk3 : IntKind.i64.wrap ((o.kind.tmod 10) + 10) = (o.kind.tmod 10) + 10 := by
    have h1 := Int.tmod_lt_of_pos o.kind (show (0 : Int) < 10 by omega)
    have h2 := Int.lt_tmod_of_pos o.kind (show (0 : Int) < 10 by omega)
    exact IntWalk.i64_in _ (by omega)
  have hk4 : IntKind.i64.wrap (o.kind.tmod 10) = o.kind.tmod 10 := by
    have h1 := Int.tmod_lt_of_pos o.kind (show (0 : Int) < 10 by omega)
    have h2 := Int.lt_tmod_of_pos o.kind (show (0 : Int) < 10 by omega)
    exact IntWalk.i64_in _ (by omega)
  have hk5 : IntKind.i64.wrap (kdF o : Int) = (kdF o : Int) := IntWalk.i64_in _ (by omega)
  have hsm := hs.sm.2.1
  have mixed : Try.prog.follows .mixedOrders = true := by kernel_rfl
  obtain ⟨⟨a0, a1, a2, a3, a4⟩, -⟩ := box5 hx
  obtain ⟨⟨b0, b1, b2, b3, b4⟩, -⟩ := box5 hy
  obtain ⟨⟨c0, c1, c2, c3, c4, c5⟩, -⟩ := box6 hz
  clear hm hs ht ho hx hy hz hu hv hb0 hWs hW
  go_enter Try.func40, Try.ntmps40
  go_upto_region 3 with fail
  rw [← HW.out]
  go_cut [33] from 26 to 33 (fun v33 wx => v33 = .bool (decide (kdF o ≠ 9 ∧ 0 < s.hd.length)) ∧ W = wx)
  case first =>
    by_cases h9 : kdF o = 9
    · have HR : Hid (decide (kdF o ≠ 9 ∧ 0 < s.hd.length) = false) := Lib.hid (decide_eq_false fun g => g.1 h9)
      have e9 : ((kdF o : Int) == 9) = true := by rw [beq_iff_eq]; omega
      have f9 : ((kdF o : Int) != 9) = false := by rw [bne_eq_false_iff_eq]; omega
      clear h9
      go_wp2_with fail
      go_meet
      case rel => exact ⟨by rw [HR.out], rfl⟩
    · have e9 : ((kdF o : Int) == 9) = false := by rw [beq_eq_false_iff_ne]; omega
      have f9 : ((kdF o : Int) != 9) = true := by rw [bne_iff_ne]; omega
      by_cases h0 : 0 < s.hd.length
      · have h0i : (0 : Int) < (s.hd.length : Int) := by omega
        have HR : Hid (decide (kdF o ≠ 9 ∧ 0 < s.hd.length) = true) := Lib.hid (decide_eq_true ⟨h9, h0⟩)
        have H0 := Lib.hid h0
        clear h9 h0
        go_wp2_with fail
        go_meet
        case rel => exact ⟨by rw [HR.out]; first | rfl | exact congrArg Value.bool (decide_eq_true H0.out), rfl⟩
      · have h0i : ¬ (0 : Int) < (s.hd.length : Int) := by omega
        have HR : Hid (decide (kdF o ≠ 9 ∧ 0 < s.hd.length) = false) := Lib.hid (decide_eq_false fun g => h0 g.2)
        have H0 := Lib.hid h0
        clear h9 h0
        go_wp2_with fail
        go_meet
        case rel => exact ⟨by rw [HR.out]; first | rfl | exact congrArg Value.bool (decide_eq_false H0.out), rfl⟩
  case rest =>
  obtain ⟨rfl, rfl⟩ := hcut
  go_upto_if 33 with fail
  go_cut [9] from 33 to 47 (fun v9 wx => v9 = .int .i64 (tagF s o) ∧ Below W.heap.size W wx)
  case first =>
    by_cases hP : kdF o ≠ 9 ∧ 0 < s.hd.length
    · obtain ⟨hn1, hn2⟩ := u64_mod o.n s.hd.length hP.2
      have HR : Hid (tagF s o = (s.hd[u64m o.n s.hd.length]'hn2).tag) := Lib.hid (by unfold tagF; rw [if_pos hP, List.getElem?_eq_getElem hn2]; rfl)
      have hul : IntKind.u64.wrap (s.hd.length : Int) = (s.hd.length : Int) := by rw [IntKind.wrap_u64]; omega
      have h0 := hP.2
      rw [decide_eq_true hP]
      generalize u64m o.n s.hd.length = j at *
      have wj : IntKind.i64.wrap (j : Int) = (j : Int) := IntWalk.i64_in _ (by omega)
      have hji : (j : Int) < (s.hd.length : Int) := by omega
      have h0j : (0 : Int) ≤ (j : Int) := by omega
      have hz0 : ¬ (s.hd.length : Int) = 0 := by omega
      have hz1 : ((s.hd.length : Int) == 0) = false := by rw [beq_eq_false_iff_ne]; omega
      obtain ⟨bb, oo, hha, d0, -⟩ := HdsAt.get HT1.out.hd j hn2
      subst hha
      clear hP h0
      go_wp2_with fail
      go_quiet (fail)
      go_wp2_with fail
      go_meet
      case rel => exact ⟨by rw [HR.out], Below.drewN (Below.refl _ _) _⟩
    · have HR : Hid (tagF s o = o.n) := Lib.hid (if_neg hP)
      rw [decide_eq_false hP]
      clear hP
      go_wp2_with fail
      go_meet
      case rel => exact ⟨by rw [HR.out], Below.refl _ _⟩
  case rest =>
  obtain ⟨rfl, hb⟩ := hcut
  have HB2 := Lib.hid hb
  clear hb
  generalize wc = W2 at *
  have hws := HWS.out
  have hs2 := HB2.out.size
  clear a0 a1 a2 a3 a4 b0 b1 b2 b3 b4 c0 c1 c2 c3 c4 c5
  obtain ⟨hx, hy, hz, hu, hv⟩ := HBX.out _ HB2.out
  obtain ⟨⟨a0, a1, a2, a3, a4⟩, -⟩ := box5 hx
  obtain ⟨⟨b0, b1, b2, b3, b4⟩, -⟩ := box5 hy
  obtain ⟨⟨c0, c1, c2, c3, c4, c5⟩, -⟩ := box6 hz
  have n0 : w.heap.size < W2.heap.size := by omega
  have n1 : ¬ w.heap.size = W2.heap.size := by omega
  have n2 : ¬ w.heap.size = W2.heap.size + 1 := by omega
  have n3 : w.heap.size + 1 < W2.heap.size := by omega
  have n4 : ¬ w.heap.size + 1 = W2.heap.size := by omega
  have n5 : ¬ w.heap.size + 1 = W2.heap.size + 1 := by omega
  have n6 : w.heap.size + 1 + 1 < W2.heap.size := by omega
  have n7 : ¬ w.heap.size + 1 + 1 = W2.heap.size := by omega
  have n8 : ¬ w.heap.size + 1 + 1 = W2.heap.size + 1 := by omega
  clear hx hy hz hu hv hws hs2
  go_upto_region 5 with fail
  go_cut [11, 12, 13, 14] from 33 to 49 (fun v11 v12 v13 v14 wx => ∃ g h : Nat, v11 = .pointer (some ⟨g, 0, none⟩) ∧ v12 = .pointer (some ⟨h, 0, none⟩) ∧ v13 = .int .i64 0 ∧ v14 = .int .i64 0 ∧ g ≠ h ∧ W2.heap.size ≤ g ∧ W2.heap.size ≤ h ∧ Below W2.heap.size W2 wx ∧
    wx.heap[g]? = some (.cells #[.bool s.fr, .int .i64 s.nx, .slice ra s.rd.length rc, .slice ha s.hd.length hc, .slice ma s.ms.length mc] 26 (0, 0)) ∧ wx.heap[h]? = some (.cells #[.bool s.fr, .int .i64 s.nx, .slice ra2 s.rd.length rc2, .slice ha2 s.hd.length hc2, .slice ma2 s.ms.length mc2] 26 (0, 0)))
  case first =>
    obtain ⟨p1, p2, p3, p4⟩ := two_box (w := W2) (.cells #[.bool s.fr, .int .i64 s.nx, .slice ra s.rd.length rc, .slice ha s.hd.length hc, .slice ma s.ms.length mc] 26) (.cells #[.bool s.fr, .int .i64 s.nx, .slice ra2 s.rd.length rc2, .slice ha2 s.hd.length hc2, .slice ma2 s.ms.length mc2] 26)
    obtain ⟨q1, q2, q3, q4⟩ := two_box (w := W2) (.cells #[.bool s.fr, .int .i64 s.nx, .slice ra2 s.rd.length rc2, .slice ha2 s.hd.length hc2, .slice ma2 s.ms.length mc2] 26) (.cells #[.bool s.fr, .int .i64 s.nx, .slice ra s.rd.length rc, .slice ha s.hd.length hc, .slice ma s.ms.length mc] 26)
    have HP := Lib.hid (And.intro p1 (And.intro p2 p3))
    have HQ := Lib.hid (And.intro q1 (And.intro q2 q3))
    clear p1 p2 p3 p4 q1 q2 q3 q4
    go_region
    all_goals
      go_wp2_with fail
      go_meet
    · exact ⟨_, _, rfl, rfl, rfl, rfl, by omega, Nat.le_refl _, Nat.le_succ _, HP.out.2.2.drew, HP.out.1, HP.out.2.1⟩
    · exact ⟨_, _, rfl, rfl, rfl, rfl, by omega, Nat.le_succ _, Nat.le_refl _, HQ.out.2.2.drew, HQ.out.2.1, HQ.out.1⟩
  case rest =>
  obtain ⟨g, h, rfl, rfl, rfl, rfl, hgh, hg0, hh0, hb5, hxg, hxh⟩ := hcut
  have HB5 := Lib.hid hb5
  have HXG := Lib.hid hxg
  have HXH := Lib.hid hxh
  have hg5 := box_lt hxg
  have hh5 := box_lt hxh
  have hws := HWS.out
  have hs2 := HB2.out.size
  have HCB := Lib.hid (fun (wx : World) (k : Below W2.heap.size W2 wx) => HBX.out wx (HB2.out.trans (k.mono HB2.out.size)))
  have HSW := Lib.hid (fun (wx : World) (k : Below W2.heap.size W2 wx) => HS1.out.below ra rc ha hc ma mc (HB2.out.trans (k.mono HB2.out.size)))
  have HTW := Lib.hid (fun (wx : World) (k : Below W2.heap.size W2 wx) => HT1.out.below ra2 rc2 ha2 hc2 ma2 mc2 (HB2.out.trans (k.mono HB2.out.size)))
  have HOW := Lib.hid (fun (wx : World) (k : Below W2.heap.size W2 wx) => HO1.out.below (HB2.out.trans (k.mono HB2.out.size)))
  clear a0 a1 a2 a3 a4 b0 b1 b2 b3 b4 c0 c1 c2 c3 c4 c5 n0 n1 n2 n3 n4 n5 n6 n7 n8
  generalize wc = W5 at *
  obtain ⟨hx, hy, hz, hu, hv⟩ := HCB.out _ HB5.out
  obtain ⟨⟨a0, a1, a2, a3, a4⟩, -⟩ := box5 hx
  obtain ⟨⟨b0, b1, b2, b3, b4⟩, -⟩ := box5 hy
  obtain ⟨⟨c0, c1, c2, c3, c4, c5⟩, -⟩ := box6 hz
  have n1 : ¬ w.heap.size = g := by omega
  have n2 : ¬ w.heap.size = h := by omega
  have n3 : ¬ w.heap.size + 1 = g := by omega
  have n4 : ¬ w.heap.size + 1 = h := by omega
  have n5 : ¬ w.heap.size + 1 + 1 = g := by omega
  have n6 : ¬ w.heap.size + 1 + 1 = h := by omega
  have n7 : ¬ g = h := hgh
  have n8 : ¬ h = g := fun e => hgh e.symm
  clear hx hy hz hu hv hxg hxh hb5 hws hs2
  go_upto_block 0 with fail
  have HG5 := Lib.hid hg5
  have HH5 := Lib.hid hh5
  clear hg5 hh5
  rename_i K hK
  have REST : ∀ (L : List Value) (wx : World) (v13 v14 : Value), L.length = 183 → L[6]? = some (.pointer (some ⟨w.heap.size + 1 + 1 + 1, 0, none⟩)) → L[7]? = some (.pointer (some ⟨w.heap.size + 1 + 1 + 1 + 1, 0, none⟩)) → L[11]? = some (.pointer (some ⟨g, 0, none⟩)) → L[12]? = some (.pointer (some ⟨h, 0, none⟩)) → L[13]? = some v13 → L[14]? = some v14 → doCut s o W2 g h v13 v14 wx → K ⟨L.toArray, []⟩ wx := by
    intro L wx v13 v14 hL h6 h7 h11 h12 h13 h14 hc
    obtain ⟨ra3, rc3, ha3, hc3, ma3, mc3, ra4, rc4, ha4, hc4, ma4, mc4, rfl, rfl, hb6, hg6, hh6, hs3, hs4⟩ := hc
    obtain ⟨f, hf, hlit⟩ := lit183 L hL
    have k6 := (hf 6).trans (getD_of h6)
    have k7 := (hf 7).trans (getD_of h7)
    have k11 := (hf 11).trans (getD_of h11)
    have k12 := (hf 12).trans (getD_of h12)
    have k13 := (hf 13).trans (getD_of h13)
    have k14 := (hf 14).trans (getD_of h14)
    clear hf h6 h7 h11 h12 h13 h14 hL
    subst hlit
    rw [k6, k7, k11, k12, k13, k14]
    refine hK _ _ ?_
    clear hK k6 k7 k11 k12 k13 k14
    clear a0 a1 a2 a3 a4 b0 b1 b2 b3 b4 c0 c1 c2 c3 c4 c5
    have HEQ : Hid (∀ e w', ((∃ ra3 rc3 ha3 hc3 ma3 mc3 ra4 rc4 ha4 hc4 ma4 mc4, e = .returned (.tuple #[.agg #[.bool (stepF s o).fr, .int .i64 (stepF s o).nx, .slice ra3 (stepF s o).rd.length rc3, .slice ha3 (stepF s o).hd.length hc3, .slice ma3 (stepF s o).ms.length mc3], .agg #[.bool (stepF s o).fr, .int .i64 (stepF s o).nx, .slice ra4 (stepF s o).rd.length rc4, .slice ha4 (stepF s o).hd.length hc4, .slice ma4 (stepF s o).ms.length mc4], .bool true]) ∧ SdAt w' ra3 rc3 ha3 hc3 ma3 mc3 (stepF s o) ∧ SdAt w' ra4 rc4 ha4 hc4 ma4 mc4 (stepF s o) ∧ Below w.heap.size w w') → DoR s o w e w')) := Lib.hid fun e w' h => h
    generalize DoR s o w = DR at *
    generalize stepC s o = c at *
    generalize stepF s o = S at *
    have hcc : (c == c) = true := by simp
    obtain ⟨⟨x0, x1, x2, x3, x4⟩, -⟩ := box5 hg6
    obtain ⟨⟨y0, y1, y2, y3, y4⟩, -⟩ := box5 hh6
    have HSA := Lib.hid (fun (wz : World) (k : Below wx.heap.size wx wz) => by
      have q := rsame_any S S ra3 rc3 ha3 hc3 ma3 mc3 ra4 rc4 ha4 hc4 ma4 mc4 wz (hs3.below _ _ _ _ _ _ k) (hs4.below _ _ _ _ _ _ k)
      rw [decide_eq_true (show S = S from rfl)] at q
      exact q)
    have HDR : Hid (Below wx.heap.size wx wx.drew) := Lib.hid (Below.refl _ _).drew
    have HB6 := Lib.hid hb6
    have HS3 := Lib.hid hs3
    have HS4 := Lib.hid hs4
    have HGG := Lib.hid hg6
    have HHH := Lib.hid hh6
    have hws := HWS.out
    have hs2 := HB2.out.size
    have m1 : ¬ g = w.heap.size + 1 + 1 + 1 := by omega
    have m2 : ¬ g = w.heap.size + 1 + 1 + 1 + 1 := by omega
    have m3 : ¬ h = w.heap.size + 1 + 1 + 1 := by omega
    have m4 : ¬ h = w.heap.size + 1 + 1 + 1 + 1 := by omega
    have m5 : ¬ w.heap.size + 1 + 1 + 1 = g := by omega
    have m6 : ¬ w.heap.size + 1 + 1 + 1 + 1 = g := by omega
    have m7 : ¬ w.heap.size + 1 + 1 + 1 = h := by omega
    have m8 : ¬ w.heap.size + 1 + 1 + 1 + 1 = h := by omega
    clear hb6 hg6 hh6 hs3 hs4 hws hs2
    go_wp2_with fail
    have HSK := Lib.hid (fun (wz : World) (k : Below wx.heap.size wx wz) => And.intro (box5 (box_bl HGG.out k)).1 (box5 (box_bl HHH.out k)).1)
    have hSS := HSK.out _ (Below.refl _ _)
    go_region_held3 (fun wx => (wx.cell? ⟨g, 0, none⟩ = some (.bool S.fr) ∧ wx.cell? ⟨g, 1, none⟩ = some (.int .i64 S.nx) ∧ wx.cell? ⟨g, 2, none⟩ = some (.slice ra3 S.rd.length rc3) ∧ wx.cell? ⟨g, 3, none⟩ = some (.slice ha3 S.hd.length hc3) ∧ wx.cell? ⟨g, 4, none⟩ = some (.slice ma3 S.ms.length mc3)) ∧ (wx.cell? ⟨h, 0, none⟩ = some (.bool S.fr) ∧ wx.cell? ⟨h, 1, none⟩ = some (.int .i64 S.nx) ∧ wx.cell? ⟨h, 2, none⟩ = some (.slice ra4 S.rd.length rc4) ∧ wx.cell? ⟨h, 3, none⟩ = some (.slice ha4 S.hd.length hc4) ∧ wx.cell? ⟨h, 4, none⟩ = some (.slice ma4 S.ms.length mc4)))
      (first | with_reducible exact HSK.out _ HDR.out | with_reducible exact HSK.out _ HB7.out | with_reducible assumption | (generalize hE : World.setCell (World.setCell (World.setCell (World.setCell (World.setCell w7 _ _) _ _) _ _) _ _) _ _ = E; have hE' : set5 w7 (w.heap.size + 1 + 1 + 1) (.bool S.fr) (.int .i64 S.nx) (.slice ra3 S.rd.length rc3) (.slice ha3 S.hd.length hc3) (.slice ma3 S.ms.length mc3) = E := hE; clear hE; have z1 : E.heap[g]? = _ := hE' ▸ (set5_heap _ _ _ _ _ _ _ _ m1).trans HGW.out.1; have z2 : E.heap[h]? = _ := hE' ▸ (set5_heap _ _ _ _ _ _ _ _ m3).trans HGW.out.2; first | with_reducible exact ⟨(box5 z1).1, (box5 z2).1⟩ | (generalize hF : World.setCell (World.setCell (World.setCell (World.setCell (World.setCell E _ _) _ _) _ _) _ _) _ _ = F; have hF' : set5 E (w.heap.size + 1 + 1 + 1 + 1) (.bool S.fr) (.int .i64 S.nx) (.slice ra4 S.rd.length rc4) (.slice ha4 S.hd.length hc4) (.slice ma4 S.ms.length mc4) = F := hF; clear hF; have z3 : F.heap[g]? = _ := hF' ▸ (set5_heap _ _ _ _ _ _ _ _ m2).trans z1; have z4 : F.heap[h]? = _ := hF' ▸ (set5_heap _ _ _ _ _ _ _ _ m4).trans z2; with_reducible exact ⟨(box5 z3).1, (box5 z4).1⟩)))
      (first | (go_at_call 26; refine (HSA.out _ HDR.out).mono ?_; rintro e w7 ⟨rfl, hb7⟩; have hb7' := HDR.out.trans (hb7.mono HDR.out.size); have HB7 := Lib.hid hb7'; obtain ⟨-, -, -, hu, hv⟩ := HCB.out _ (HB6.out.trans (hb7'.mono HB6.out.size)); have HGW := Lib.hid (And.intro (box_bl HGG.out hb7') (box_bl HHH.out hb7')); have HU := Lib.hid hu; have HV := Lib.hid hv; obtain ⟨⟨p0, p1, p2, p3, p4⟩, q0, q1, q2, q3, q4⟩ := box5 hu; obtain ⟨⟨r0, r1, r2, r3, r4⟩, t0, t1, t2, t3, t4⟩ := box5 hv; clear hb7 hb7' hu hv; dsimp only))
    generalize hE : World.setCell (World.setCell (World.setCell (World.setCell (World.setCell w7 _ _) _ _) _ _) _ _) _ _ = E
    have hE' : set5 w7 (w.heap.size + 1 + 1 + 1) (.bool S.fr) (.int .i64 S.nx) (.slice ra3 S.rd.length rc3) (.slice ha3 S.hd.length hc3) (.slice ma3 S.ms.length mc3) = E := hE
    clear hE
    generalize hF : World.setCell (World.setCell (World.setCell (World.setCell (World.setCell E _ _) _ _) _ _) _ _) _ _ = F
    have hF' : set5 E (w.heap.size + 1 + 1 + 1 + 1) (.bool S.fr) (.int .i64 S.nx) (.slice ra4 S.rd.length rc4) (.slice ha4 S.hd.length hc4) (.slice ma4 S.ms.length mc4) = F := hF
    clear hF p0 p1 p2 p3 p4 q0 q1 q2 q3 q4 r0 r1 r2 r3 r4 t0 t1 t2 t3 t4 x0 x1 x2 x3 x4 y0 y1 y2 y3 y4
    have c1 : E.heap[w.heap.size + 1 + 1 + 1 + 1]? = _ := hE' ▸ (set5_heap _ _ _ _ _ _ _ _ (by omega)).trans HV.out
    have b1 : F.heap[w.heap.size + 1 + 1 + 1]? = _ := hF' ▸ (set5_heap _ _ _ _ _ _ _ _ (by omega)).trans (hE' ▸ set5_box HU.out _ _ _ _ _)
    have b2 : F.heap[w.heap.size + 1 + 1 + 1 + 1]? = _ := hF' ▸ set5_box c1 _ _ _ _ _
    have HSF : Hid (SdAt F ra3 rc3 ha3 hc3 ma3 mc3 S ∧ SdAt F ra4 rc4 ha4 hc4 ma4 mc4 S) := by
      refine Lib.hid ⟨?_, ?_⟩
      · exact hF' ▸ sd_keep _ _ _ _ _ _ (hE' ▸ sd_keep _ _ _ _ _ _ (HS3.out.below _ _ _ _ _ _ HB7.out) HU.out fun b hb => set5_heap _ _ _ _ _ _ _ _ hb) c1 fun b hb => set5_heap _ _ _ _ _ _ _ _ hb
      · exact hF' ▸ sd_keep _ _ _ _ _ _ (hE' ▸ sd_keep _ _ _ _ _ _ (HS4.out.below _ _ _ _ _ _ HB7.out) HU.out fun b hb => set5_heap _ _ _ _ _ _ _ _ hb) c1 fun b hb => set5_heap _ _ _ _ _ _ _ _ hb
    have HBF : Hid (Below w.heap.size w F) := by
      have hws := HWS.out
      have hs2 := HB2.out.size
      have hs6 := HB6.out.size
      have t1 : Below w.heap.size w w7 := HB0.out.trans (Below.mono (HB2.out.trans (Below.mono (HB6.out.trans (HB7.out.mono hs6)) hs2)) (by omega))
      exact Lib.hid (hF' ▸ set5_below (hE' ▸ set5_below t1 (by omega) _ _ _ _ _) (by omega) _ _ _ _ _)
    clear hE' hF' c1
    go_wp2_with fail
    refine bodyPost_ret (v := .tuple #[.agg #[.bool S.fr, .int .i64 S.nx, .slice ra3 S.rd.length rc3, .slice ha3 S.hd.length hc3, .slice ma3 S.ms.length mc3], .agg #[.bool S.fr, .int .i64 S.nx, .slice ra4 S.rd.length rc4, .slice ha4 S.hd.length hc4, .slice ma4 S.ms.length mc4], .bool true]) (res_two (i := 6) (j := 7) (k := 8) rfl rfl rfl rfl b1 b2) rfl ?_
    exact HEQ.out _ _ ⟨_, _, _, _, _, _, _, _, _, _, _, _, rfl, HSF.out.1, HSF.out.2, HBF.out⟩
  have HREST := Lib.hid REST
  have HO9 := Lib.hid ho9
  clear REST hK ho9
  have hkl := HKD.out
  by_cases k3 : kdF o < 3
  ·
    have HSF : Hid (stepF s o = putS s (nextF s o)) := Lib.hid (by unfold stepF; rw [if_pos k3])
    have HSC : Hid (stepC s o = putC s (nextF s o)) := Lib.hid (by unfold stepC; rw [if_pos k3])
    have l3 : decide ((kdF o : Int) < 3) = true := decide_eq_true (by omega)
    clear k3
    go_wp2_with (first | (go_at_call 41; refine (next_any s ra2 rc2 ha2 hc2 ma2 mc2 o ao co HM.out _ (HTW.out _ HB5.out)).mono ?_; rintro e v0 ⟨nv, rfl, hog, hb0⟩; obtain ⟨na, nc, rfl, hn1, hn2⟩ := OwnE.at mgE hog; have HV0 := Lib.hid (HB5.out.trans (hb0.mono HB5.out.size)); have HOG := Lib.hid hog; have HG0 := Lib.hid (box_bl HXG.out hb0); have HH0 := Lib.hid (box_bl HXH.out hb0); clear hog hb0 hn1 hn2; obtain ⟨hx, hy, hz, -, -⟩ := HCB.out _ HV0.out; clear a0 a1 a2 a3 a4 b0 b1 b2 b3 b4 c0 c1 c2 c3 c4 c5; obtain ⟨⟨a0, a1, a2, a3, a4⟩, -⟩ := box5 hx; obtain ⟨⟨b0, b1, b2, b3, b4⟩, -⟩ := box5 hy; obtain ⟨⟨c0, c1, c2, c3, c4, c5⟩, -⟩ := box6 hz; clear hx hy hz) | (go_at_call 20; refine (put_any s ra rc ha hc ma mc na nc (nextF s o) (next_le s o) _ (HSW.out _ HV0.out) (own_again HOG.out).1 (own_again HOG.out).2).mono ?_; rintro e v1 ⟨ra3, rc3, ha3, hc3, ma3, mc3, rfl, ho1, hsm1, hb1⟩; have HV1 := Lib.hid (HV0.out.trans (hb1.mono HV0.out.size)); have HS3 := Lib.hid (ho1.sd ra3 rc3 ha3 hc3 ma3 mc3 hsm1); have HG1 := Lib.hid (box_bl HG0.out hb1); have HH1 := Lib.hid (box_bl HH0.out hb1); have HK1 := Lib.hid hb1; clear ho1 hsm1 hb1; obtain ⟨⟨x0, x1, x2, x3, x4⟩, y0, y1, y2, y3, y4⟩ := box5 HG1.out; obtain ⟨hx, hy, hz, -, -⟩ := HCB.out _ HV1.out; clear a0 a1 a2 a3 a4 b0 b1 b2 b3 b4 c0 c1 c2 c3 c4 c5; obtain ⟨⟨a0, a1, a2, a3, a4⟩, -⟩ := box5 hx; obtain ⟨⟨b0, b1, b2, b3, b4⟩, -⟩ := box5 hy; obtain ⟨⟨c0, c1, c2, c3, c4, c5⟩, -⟩ := box6 hz; clear hx hy hz) | (go_at_call 21; generalize hU : World.setCell (World.setCell (World.setCell (World.setCell (World.setCell v1 _ _) _ _) _ _) _ _) _ _ = U1; have hU' : set5 v1 g (.bool ((putS s (nextF s o))).fr) (.int .i64 ((putS s (nextF s o))).nx) (.slice ra3 ((putS s (nextF s o))).rd.length rc3) (.slice ha3 ((putS s (nextF s o))).hd.length hc3) (.slice ma3 ((putS s (nextF s o))).ms.length mc3) = U1 := hU; have HU1 : Hid (Below W2.heap.size W2 U1) := Lib.hid (hU' ▸ set5_below HV1.out hg0 _ _ _ _ _); have HUG : Hid (U1.heap[g]? = some (.cells #[.bool ((putS s (nextF s o))).fr, .int .i64 ((putS s (nextF s o))).nx, .slice ra3 ((putS s (nextF s o))).rd.length rc3, .slice ha3 ((putS s (nextF s o))).hd.length hc3, .slice ma3 ((putS s (nextF s o))).ms.length mc3] 26 (0, 0))) := Lib.hid (hU' ▸ set5_box HG1.out _ _ _ _ _); have HUH : Hid (U1.heap[h]? = v1.heap[h]?) := Lib.hid (hU' ▸ set5_heap _ _ _ _ _ _ _ _ n8); have HUS : Hid (SdAt U1 ra3 rc3 ha3 hc3 ma3 mc3 ((putS s (nextF s o)))) := Lib.hid (hU' ▸ sd_keep _ _ _ _ _ _ HS3.out HG1.out fun b hb => set5_heap _ _ _ _ _ _ _ _ hb); have HUF : Hid (∀ b, b ≠ g → U1.heap[b]? = v1.heap[b]?) := Lib.hid (hU' ▸ fun b hb => set5_heap _ _ _ _ _ _ _ _ hb); clear hU hU' x0 x1 x2 x3 x4 y0 y1 y2 y3 y4; refine (rput_any s ra2 rc2 ha2 hc2 ma2 mc2 na nc (nextF s o) (next_le s o) _ (HTW.out _ HU1.out) (own_again ((HOG.out.below1 HK1.out).kept fun b hb hb' => HUF.out b (by have := HG5.out; omega))).1 (own_again ((HOG.out.below1 HK1.out).kept fun b hb hb' => HUF.out b (by have := HG5.out; omega))).2).mono ?_; rintro e v2 ⟨ra4, rc4, ha4, hc4, ma4, mc4, rfl, hs4, hb2⟩; have HV2 := Lib.hid (HU1.out.trans (hb2.mono HU1.out.size)); have HS4 := Lib.hid hs4; have HS32 := Lib.hid (HUS.out.below _ _ _ _ _ _ hb2); have HG2 := Lib.hid (box_bl HUG.out hb2); have HH2 := Lib.hid (box_bl (HUH.out.trans HH1.out) hb2); clear hs4 hb2; obtain ⟨⟨x0, x1, x2, x3, x4⟩, y0, y1, y2, y3, y4⟩ := box5 HH2.out; obtain ⟨hx, hy, hz, -, -⟩ := HCB.out _ HV2.out; clear a0 a1 a2 a3 a4 b0 b1 b2 b3 b4 c0 c1 c2 c3 c4 c5; obtain ⟨⟨a0, a1, a2, a3, a4⟩, -⟩ := box5 hx; obtain ⟨⟨b0, b1, b2, b3, b4⟩, -⟩ := box5 hy; obtain ⟨⟨c0, c1, c2, c3, c4, c5⟩, -⟩ := box6 hz; clear hx hy hz))
    generalize hE : World.setCell (World.setCell (World.setCell (World.setCell (World.setCell v2 _ _) _ _) _ _) _ _) _ _ = E
    have hE' : set5 v2 h (.bool (putS s (nextF s o)).fr) (.int .i64 (putS s (nextF s o)).nx) (.slice ra4 (putS s (nextF s o)).rd.length rc4) (.slice ha4 (putS s (nextF s o)).hd.length hc4) (.slice ma4 (putS s (nextF s o)).ms.length mc4) = E := hE
    clear hE
    have r1 : Below W2.heap.size W2 E := hE' ▸ set5_below HV2.out hh0 _ _ _ _ _
    have r2 : E.heap[g]? = _ := hE' ▸ (set5_heap _ _ _ _ _ _ _ _ n7).trans HG2.out
    have r3 : E.heap[h]? = _ := hE' ▸ set5_box HH2.out _ _ _ _ _
    have r4 : SdAt E ra3 rc3 ha3 hc3 ma3 mc3 (putS s (nextF s o)) := hE' ▸ sd_keep _ _ _ _ _ _ HS32.out HH2.out fun b hb => set5_heap _ _ _ _ _ _ _ _ hb
    have r5 : SdAt E ra4 rc4 ha4 hc4 ma4 mc4 (putS s (nextF s o)) := hE' ▸ sd_keep _ _ _ _ _ _ HS4.out HH2.out fun b hb => set5_heap _ _ _ _ _ _ _ _ hb
    have hdc : doCut s o W2 g h (.int .i64 (putC s (nextF s o))) (.int .i64 (putC s (nextF s o))) E := by
      unfold doCut
      rw [HSF.out, HSC.out]
      exact ⟨_, _, _, _, _, _, _, _, _, _, _, _, rfl, rfl, r1, r2, r3, r4, r5⟩
    refine HREST.out _ _ _ _ ?_ ?_ ?_ ?_ ?_ ?_ ?_ hdc <;> rfl
  by_cases k5 : kdF o < 5
  ·
    have HSF : Hid (stepF s o = getS s) := Lib.hid (by unfold stepF; rw [if_neg k3, if_pos k5])
    have HSC : Hid (stepC s o = getC s) := Lib.hid (by unfold stepC; rw [if_neg k3, if_pos k5])
    have l3 : decide ((kdF o : Int) < 3) = false := decide_eq_false (by omega)
    have l5 : decide ((kdF o : Int) < 5) = true := decide_eq_true (by omega)
    clear k3 k5
    have HMG := Lib.hid (get_may HM.out)
    go_upto_region 15 with fail
    obtain ⟨p1, p2, p3, p4⟩ := two_box (w := W5) (.cells #[.int .i64 0, .int .i64 0, .int .i64 0, .string ⟨#[]⟩, .string ⟨#[]⟩, .bool false] 37) (.cells #[.int .i64 0, .int .i64 0, .int .i64 0, .string ⟨#[]⟩, .string ⟨#[]⟩, .bool false] 37)
    generalize hA : (W5.alloc (.cells #[.int .i64 0, .int .i64 0, .int .i64 0, .string ⟨#[]⟩, .string ⟨#[]⟩, .bool false] 37)).alloc (.cells #[.int .i64 0, .int .i64 0, .int .i64 0, .string ⟨#[]⟩, .string ⟨#[]⟩, .bool false] 37) = A1 at *
    have HVA : Hid (Below W2.heap.size W2 A1) := Lib.hid (HB5.out.trans (p3.mono HB5.out.size))
    have HGA := Lib.hid (box_bl HXG.out p3)
    have HHA := Lib.hid (box_bl HXH.out p3)
    have HPA := Lib.hid p1
    have HQA := Lib.hid p2
    have HSA : Hid (A1.heap.size = W5.heap.size + 2) := Lib.hid p4
    clear hA p1 p2 p3 p4
    have hg5 := HG5.out
    have hh5 := HH5.out
    have hsz := HB5.out.size
    have hws := HWS.out
    have hs2 := HB2.out.size
    have o1 : ¬ g = W5.heap.size := by omega
    have o2 : ¬ g = W5.heap.size + 1 := by omega
    have o3 : ¬ h = W5.heap.size := by omega
    have o4 : ¬ h = W5.heap.size + 1 := by omega
    have o5 : ¬ W5.heap.size = g := by omega
    have o6 : ¬ W5.heap.size + 1 = g := by omega
    have o7 : ¬ W5.heap.size = h := by omega
    have o8 : ¬ W5.heap.size + 1 = h := by omega
    have o9 : ¬ w.heap.size + 1 = W5.heap.size := by omega
    have o10 : ¬ w.heap.size = W5.heap.size := by omega
    have o11 : ¬ w.heap.size + 1 = W5.heap.size + 1 := by omega
    have HSZ : Hid (W2.heap.size ≤ W5.heap.size) := Lib.hid hsz
    clear hg5 hh5 hsz hws hs2
    have hnq : ∀ w : World, (binOp .neq 37 (.agg #[.int .i64 (getH s).tag, .int .i64 ((getH s).m).pub, .int .i64 ((getH s).m).seq, .string ⟨((getH s).m).key.toArray⟩, .string ⟨((getH s).m).body.toArray⟩, .bool ((getH s).m).again]) (.agg #[.int .i64 (getH s).tag, .int .i64 ((getH s).m).pub, .int .i64 ((getH s).m).seq, .string ⟨((getH s).m).key.toArray⟩, .string ⟨((getH s).m).body.toArray⟩, .bool ((getH s).m).again])).run Try.prog w = .ok (.bool false) w := fun w => hd_neq (getH s) (getH s) true (by simp) w
    obtain ⟨hx, hy, hz, -, -⟩ := HCB.out _ HVA.out
    clear a0 a1 a2 a3 a4 b0 b1 b2 b3 b4 c0 c1 c2 c3 c4 c5
    obtain ⟨⟨a0, a1, a2, a3, a4⟩, -⟩ := box5 hx
    obtain ⟨⟨b0, b1, b2, b3, b4⟩, -⟩ := box5 hy
    obtain ⟨⟨c0, c1, c2, c3, c4, c5⟩, -⟩ := box6 hz
    clear hx hy hz
    go_wp2_with (first | (go_at_call 22; refine (get_any s ra rc ha hc ma mc _ (HSW.out _ HVA.out)).mono ?_; rintro e v1 ⟨ra3, rc3, ha3, hc3, ma3, mc3, rfl, ho1, hsm1, hb1⟩; have HV1 := Lib.hid (HVA.out.trans (hb1.mono HVA.out.size)); have HO3 := Lib.hid ho1; have HSM := Lib.hid hsm1; have HG1 := Lib.hid (box_bl HGA.out hb1); have HH1 := Lib.hid (box_bl HHA.out hb1); have HP1 := Lib.hid (box_bl HPA.out hb1); have HQ1 := Lib.hid (box_bl HQA.out hb1); clear ho1 hsm1 hb1; obtain ⟨⟨x0, x1, x2, x3, x4⟩, y0, y1, y2, y3, y4⟩ := box5 HG1.out; obtain ⟨⟨u0, u1, u2, u3, u4, u5⟩, z0, z1, z2, z3, z4, z5⟩ := box6 HP1.out; obtain ⟨hx, hy, hz, -, -⟩ := HCB.out _ HV1.out; clear a0 a1 a2 a3 a4 b0 b1 b2 b3 b4 c0 c1 c2 c3 c4 c5; obtain ⟨⟨a0, a1, a2, a3, a4⟩, -⟩ := box5 hx; obtain ⟨⟨b0, b1, b2, b3, b4⟩, -⟩ := box5 hy; obtain ⟨⟨c0, c1, c2, c3, c4, c5⟩, -⟩ := box6 hz; clear hx hy hz) | (go_at_call 23; generalize hU : World.setCell (World.setCell (World.setCell (World.setCell (World.setCell v1 _ _) _ _) _ _) _ _) _ _ = U0; have hU' : set5 v1 g (.bool (getS s).fr) (.int .i64 (getS s).nx) (.slice ra3 (getS s).rd.length rc3) (.slice ha3 (getS s).hd.length hc3) (.slice ma3 (getS s).ms.length mc3) = U0 := hU; generalize hY : World.setCell (World.setCell (World.setCell (World.setCell (World.setCell (World.setCell U0 _ _) _ _) _ _) _ _) _ _) _ _ = U1; have hY' : set6 U0 W5.heap.size (.int .i64 (getH s).tag) (.int .i64 (getH s).m.pub) (.int .i64 (getH s).m.seq) (.string ⟨(getH s).m.key.toArray⟩) (.string ⟨(getH s).m.body.toArray⟩) (.bool (getH s).m.again) = U1 := hY; clear hU hY; have HU1 : Hid (Below W2.heap.size W2 U1) := Lib.hid (hY' ▸ set6_below (hU' ▸ set5_below HV1.out hg0 _ _ _ _ _) HSZ.out _ _ _ _ _ _); have HUK : Hid (∀ b, b ≠ g → b ≠ W5.heap.size → U1.heap[b]? = v1.heap[b]?) := Lib.hid fun b hb hb' => hY' ▸ (set6_heap _ _ _ _ _ _ _ _ _ hb').trans (hU' ▸ set5_heap _ _ _ _ _ _ _ _ hb); have HUG : Hid (U1.heap[g]? = some (.cells #[.bool (getS s).fr, .int .i64 (getS s).nx, .slice ra3 (getS s).rd.length rc3, .slice ha3 (getS s).hd.length hc3, .slice ma3 (getS s).ms.length mc3] 26 (0, 0))) := Lib.hid (hY' ▸ (set6_heap _ _ _ _ _ _ _ _ _ o1).trans (hU' ▸ set5_box HG1.out _ _ _ _ _)); have HUP : Hid (U1.heap[W5.heap.size]? = some (.cells #[.int .i64 (getH s).tag, .int .i64 ((getH s).m).pub, .int .i64 ((getH s).m).seq, .string ⟨((getH s).m).key.toArray⟩, .string ⟨((getH s).m).body.toArray⟩, .bool ((getH s).m).again] 37 (0, 0))) := Lib.hid (hY' ▸ set6_box ((hU' ▸ set5_heap _ _ _ _ _ _ _ _ o5).trans HP1.out) _ _ _ _ _ _); have HUH := Lib.hid ((HUK.out _ n8 o3).trans HH1.out); have HUQ := Lib.hid ((HUK.out _ o6 (by omega)).trans HQ1.out); have HUS : Hid (SdAt U1 ra3 rc3 ha3 hc3 ma3 mc3 (getS s)) := Lib.hid ((HO3.out.kept fun b hb => HUK.out b (by have := HSA.out; have := HG5.out; omega) (by have := HSA.out; omega)).sd ra3 rc3 ha3 hc3 ma3 mc3 HSM.out); clear hU' hY' x0 x1 x2 x3 x4 y0 y1 y2 y3 y4 u0 u1 u2 u3 u4 u5 z0 z1 z2 z3 z4 z5; refine (rget_any s ra2 rc2 ha2 hc2 ma2 mc2 _ (HTW.out _ HU1.out)).mono ?_; rintro e v2 ⟨ra4, rc4, ha4, hc4, ma4, mc4, rfl, hs4, hb2⟩; have HV2 := Lib.hid (HU1.out.trans (hb2.mono HU1.out.size)); have HS4 := Lib.hid hs4; have HS32 := Lib.hid (HUS.out.below _ _ _ _ _ _ hb2); have HG2 := Lib.hid (box_bl HUG.out hb2); have HH2 := Lib.hid (box_bl HUH.out hb2); have HP2 := Lib.hid (box_bl HUP.out hb2); have HQ2 := Lib.hid (box_bl HUQ.out hb2); clear hs4 hb2; obtain ⟨⟨x0, x1, x2, x3, x4⟩, y0, y1, y2, y3, y4⟩ := box5 HH2.out; obtain ⟨⟨u0, u1, u2, u3, u4, u5⟩, z0, z1, z2, z3, z4, z5⟩ := box6 HQ2.out; obtain ⟨⟨i0, i1, i2, i3, i4, i5⟩, -⟩ := box6 HP2.out; obtain ⟨hx, hy, hz, -, -⟩ := HCB.out _ HV2.out; clear a0 a1 a2 a3 a4 b0 b1 b2 b3 b4 c0 c1 c2 c3 c4 c5; obtain ⟨⟨a0, a1, a2, a3, a4⟩, -⟩ := box5 hx; obtain ⟨⟨b0, b1, b2, b3, b4⟩, -⟩ := box5 hy; obtain ⟨⟨c0, c1, c2, c3, c4, c5⟩, -⟩ := box6 hz; clear hx hy hz))
    generalize hE : World.setCell (World.setCell (World.setCell (World.setCell (World.setCell v2 _ _) _ _) _ _) _ _) _ _ = E0
    have hE' : set5 v2 h (.bool (getS s).fr) (.int .i64 (getS s).nx) (.slice ra4 (getS s).rd.length rc4) (.slice ha4 (getS s).hd.length hc4) (.slice ma4 (getS s).ms.length mc4) = E0 := hE
    clear hE
    generalize hE : World.setCell (World.setCell (World.setCell (World.setCell (World.setCell (World.setCell E0 _ _) _ _) _ _) _ _) _ _) _ _ = E
    have hF' : set6 E0 (W5.heap.size + 1) (.int .i64 (getH s).tag) (.int .i64 (getH s).m.pub) (.int .i64 (getH s).m.seq) (.string ⟨(getH s).m.key.toArray⟩) (.string ⟨(getH s).m.body.toArray⟩) (.bool (getH s).m.again) = E := hE
    clear hE
    have q0 : E0.heap[W5.heap.size + 1]? = _ := hE' ▸ (set5_heap _ _ _ _ _ _ _ _ o8).trans HQ2.out
    have r1 : Below W2.heap.size W2 E := hF' ▸ set6_below (hE' ▸ set5_below HV2.out hh0 _ _ _ _ _) (Nat.le_succ_of_le HSZ.out) _ _ _ _ _ _
    have r2 : E.heap[g]? = _ := hF' ▸ (set6_heap _ _ _ _ _ _ _ _ _ o2).trans (hE' ▸ (set5_heap _ _ _ _ _ _ _ _ n7).trans HG2.out)
    have r3 : E.heap[h]? = _ := hF' ▸ (set6_heap _ _ _ _ _ _ _ _ _ o4).trans (hE' ▸ set5_box HH2.out _ _ _ _ _)
    have r4 : SdAt E ra3 rc3 ha3 hc3 ma3 mc3 (getS s) := hF' ▸ held_keep _ _ _ _ _ _ (hE' ▸ sd_keep _ _ _ _ _ _ HS32.out HH2.out fun b hb => set5_heap _ _ _ _ _ _ _ _ hb) HMG.out q0 fun b hb => set6_heap _ _ _ _ _ _ _ _ _ hb
    have r5 : SdAt E ra4 rc4 ha4 hc4 ma4 mc4 (getS s) := hF' ▸ held_keep _ _ _ _ _ _ (hE' ▸ sd_keep _ _ _ _ _ _ HS4.out HH2.out fun b hb => set5_heap _ _ _ _ _ _ _ _ hb) HMG.out q0 fun b hb => set6_heap _ _ _ _ _ _ _ _ _ hb
    have hdc : doCut s o W2 g h (.int .i64 (getC s)) (.int .i64 (getC s)) E := by
      unfold doCut
      rw [HSF.out, HSC.out]
      exact ⟨_, _, _, _, _, _, _, _, _, _, _, _, rfl, rfl, r1, r2, r3, r4, r5⟩
    refine HREST.out _ _ _ _ ?_ ?_ ?_ ?_ ?_ ?_ ?_ hdc <;> rfl
  by_cases k6q : kdF o = 6
  ·
    have HSF : Hid (stepF s o = nackS s (tagF s o)) := Lib.hid (by unfold stepF; rw [if_neg k3, if_neg k5, if_neg (by omega), if_pos k6q])
    have HSC : Hid (stepC s o = outC s (tagF s o)) := Lib.hid (by unfold stepC; rw [if_neg k3, if_neg k5, if_neg (by omega), if_pos k6q])
    have l3 : decide ((kdF o : Int) < 3) = false := decide_eq_false (by omega)
    have l5 : decide ((kdF o : Int) < 5) = false := decide_eq_false (by omega)
    have e5x : ((kdF o : Int) == 5) = false := by rw [beq_eq_false_iff_ne]; omega
    have e9x : ((kdF o : Int) == 9) = false := by rw [beq_eq_false_iff_ne]; omega
    have e6x : ((kdF o : Int) == 6) = true := by rw [beq_iff_eq]; omega
    have e7x : ((kdF o : Int) == 7) = false := by rw [beq_eq_false_iff_ne]; omega
    have e8x : ((kdF o : Int) == 8) = false := by rw [beq_eq_false_iff_ne]; omega
    clear k3 k5 k6q
    go_wp2_with (first | (go_at_call 29; refine (nack_any s (tagF s o) ra rc ha hc ma mc _ (HSW.out _ HB5.out)).mono ?_; rintro e v1 ⟨ra3, rc3, ha3, hc3, ma3, mc3, rfl, ho1, hsm1, hb1⟩; have HV1 := Lib.hid (HB5.out.trans (hb1.mono HB5.out.size)); have HS3 := Lib.hid (ho1.sd ra3 rc3 ha3 hc3 ma3 mc3 hsm1); have HG1 := Lib.hid (box_bl HXG.out hb1); have HH1 := Lib.hid (box_bl HXH.out hb1); have HK1 := Lib.hid hb1; clear ho1 hsm1 hb1; obtain ⟨⟨x0, x1, x2, x3, x4⟩, y0, y1, y2, y3, y4⟩ := box5 HG1.out; obtain ⟨hx, hy, hz, -, -⟩ := HCB.out _ HV1.out; clear a0 a1 a2 a3 a4 b0 b1 b2 b3 b4 c0 c1 c2 c3 c4 c5; obtain ⟨⟨a0, a1, a2, a3, a4⟩, -⟩ := box5 hx; obtain ⟨⟨b0, b1, b2, b3, b4⟩, -⟩ := box5 hy; obtain ⟨⟨c0, c1, c2, c3, c4, c5⟩, -⟩ := box6 hz; clear hx hy hz) | (go_at_call 30; generalize hU : World.setCell (World.setCell (World.setCell (World.setCell (World.setCell v1 _ _) _ _) _ _) _ _) _ _ = U1; have hU' : set5 v1 g (.bool (nackS s (tagF s o)).fr) (.int .i64 (nackS s (tagF s o)).nx) (.slice ra3 (nackS s (tagF s o)).rd.length rc3) (.slice ha3 (nackS s (tagF s o)).hd.length hc3) (.slice ma3 (nackS s (tagF s o)).ms.length mc3) = U1 := hU; have HU1 : Hid (Below W2.heap.size W2 U1) := Lib.hid (hU' ▸ set5_below HV1.out hg0 _ _ _ _ _); have HUG : Hid (U1.heap[g]? = some (.cells #[.bool (nackS s (tagF s o)).fr, .int .i64 (nackS s (tagF s o)).nx, .slice ra3 (nackS s (tagF s o)).rd.length rc3, .slice ha3 (nackS s (tagF s o)).hd.length hc3, .slice ma3 (nackS s (tagF s o)).ms.length mc3] 26 (0, 0))) := Lib.hid (hU' ▸ set5_box HG1.out _ _ _ _ _); have HUH : Hid (U1.heap[h]? = v1.heap[h]?) := Lib.hid (hU' ▸ set5_heap _ _ _ _ _ _ _ _ n8); have HUS : Hid (SdAt U1 ra3 rc3 ha3 hc3 ma3 mc3 (nackS s (tagF s o))) := Lib.hid (hU' ▸ sd_keep _ _ _ _ _ _ HS3.out HG1.out fun b hb => set5_heap _ _ _ _ _ _ _ _ hb); have HUF : Hid (∀ b, b ≠ g → U1.heap[b]? = v1.heap[b]?) := Lib.hid (hU' ▸ fun b hb => set5_heap _ _ _ _ _ _ _ _ hb); clear hU hU' x0 x1 x2 x3 x4 y0 y1 y2 y3 y4; refine (rnack_any s (tagF s o) ra2 rc2 ha2 hc2 ma2 mc2 _ (HTW.out _ HU1.out)).mono ?_; rintro e v2 ⟨ra4, rc4, ha4, hc4, ma4, mc4, rfl, hs4, hb2⟩; have HV2 := Lib.hid (HU1.out.trans (hb2.mono HU1.out.size)); have HS4 := Lib.hid hs4; have HS32 := Lib.hid (HUS.out.below _ _ _ _ _ _ hb2); have HG2 := Lib.hid (box_bl HUG.out hb2); have HH2 := Lib.hid (box_bl (HUH.out.trans HH1.out) hb2); clear hs4 hb2; obtain ⟨⟨x0, x1, x2, x3, x4⟩, y0, y1, y2, y3, y4⟩ := box5 HH2.out; obtain ⟨hx, hy, hz, -, -⟩ := HCB.out _ HV2.out; clear a0 a1 a2 a3 a4 b0 b1 b2 b3 b4 c0 c1 c2 c3 c4 c5; obtain ⟨⟨a0, a1, a2, a3, a4⟩, -⟩ := box5 hx; obtain ⟨⟨b0, b1, b2, b3, b4⟩, -⟩ := box5 hy; obtain ⟨⟨c0, c1, c2, c3, c4, c5⟩, -⟩ := box6 hz; clear hx hy hz))
    generalize hE : World.setCell (World.setCell (World.setCell (World.setCell (World.setCell v2 _ _) _ _) _ _) _ _) _ _ = E
    have hE' : set5 v2 h (.bool (nackS s (tagF s o)).fr) (.int .i64 (nackS s (tagF s o)).nx) (.slice ra4 (nackS s (tagF s o)).rd.length rc4) (.slice ha4 (nackS s (tagF s o)).hd.length hc4) (.slice ma4 (nackS s (tagF s o)).ms.length mc4) = E := hE
    clear hE
    have r1 : Below W2.heap.size W2 E := hE' ▸ set5_below HV2.out hh0 _ _ _ _ _
    have r2 : E.heap[g]? = _ := hE' ▸ (set5_heap _ _ _ _ _ _ _ _ n7).trans HG2.out
    have r3 : E.heap[h]? = _ := hE' ▸ set5_box HH2.out _ _ _ _ _
    have r4 : SdAt E ra3 rc3 ha3 hc3 ma3 mc3 (nackS s (tagF s o)) := hE' ▸ sd_keep _ _ _ _ _ _ HS32.out HH2.out fun b hb => set5_heap _ _ _ _ _ _ _ _ hb
    have r5 : SdAt E ra4 rc4 ha4 hc4 ma4 mc4 (nackS s (tagF s o)) := hE' ▸ sd_keep _ _ _ _ _ _ HS4.out HH2.out fun b hb => set5_heap _ _ _ _ _ _ _ _ hb
    have hdc : doCut s o W2 g h (.int .i64 (outC s (tagF s o))) (.int .i64 (outC s (tagF s o))) E := by
      unfold doCut
      rw [HSF.out, HSC.out]
      exact ⟨_, _, _, _, _, _, _, _, _, _, _, _, rfl, rfl, r1, r2, r3, r4, r5⟩
    refine HREST.out _ _ _ _ ?_ ?_ ?_ ?_ ?_ ?_ ?_ hdc <;> rfl
  by_cases k7q : kdF o = 7
  ·
    have HSF : Hid (stepF s o = setS s true) := Lib.hid (by unfold stepF; rw [if_neg k3, if_neg k5, if_neg (by omega), if_neg (by omega), if_pos k7q])
    have HSC : Hid (stepC s o = setC s true) := Lib.hid (by unfold stepC; rw [if_neg k3, if_neg k5, if_neg (by omega), if_neg (by omega), if_pos k7q])
    have l3 : decide ((kdF o : Int) < 3) = false := decide_eq_false (by omega)
    have l5 : decide ((kdF o : Int) < 5) = false := decide_eq_false (by omega)
    have e5x : ((kdF o : Int) == 5) = false := by rw [beq_eq_false_iff_ne]; omega
    have e9x : ((kdF o : Int) == 9) = false := by rw [beq_eq_false_iff_ne]; omega
    have e6x : ((kdF o : Int) == 6) = false := by rw [beq_eq_false_iff_ne]; omega
    have e7x : ((kdF o : Int) == 7) = true := by rw [beq_iff_eq]; omega
    have e8x : ((kdF o : Int) == 8) = false := by rw [beq_eq_false_iff_ne]; omega
    clear k3 k5 k6q k7q
    go_wp2_with (first | (go_at_call 33; refine (freeze_any s ra rc ha hc ma mc _ (HSW.out _ HB5.out)).mono ?_; rintro e v1 ⟨ra3, rc3, ha3, hc3, ma3, mc3, rfl, ho1, hsm1, hb1⟩; have HV1 := Lib.hid (HB5.out.trans (hb1.mono HB5.out.size)); have HS3 := Lib.hid (ho1.sd ra3 rc3 ha3 hc3 ma3 mc3 hsm1); have HG1 := Lib.hid (box_bl HXG.out hb1); have HH1 := Lib.hid (box_bl HXH.out hb1); have HK1 := Lib.hid hb1; clear ho1 hsm1 hb1; obtain ⟨⟨x0, x1, x2, x3, x4⟩, y0, y1, y2, y3, y4⟩ := box5 HG1.out; obtain ⟨hx, hy, hz, -, -⟩ := HCB.out _ HV1.out; clear a0 a1 a2 a3 a4 b0 b1 b2 b3 b4 c0 c1 c2 c3 c4 c5; obtain ⟨⟨a0, a1, a2, a3, a4⟩, -⟩ := box5 hx; obtain ⟨⟨b0, b1, b2, b3, b4⟩, -⟩ := box5 hy; obtain ⟨⟨c0, c1, c2, c3, c4, c5⟩, -⟩ := box6 hz; clear hx hy hz) | (go_at_call 34; generalize hU : World.setCell (World.setCell (World.setCell (World.setCell (World.setCell v1 _ _) _ _) _ _) _ _) _ _ = U1; have hU' : set5 v1 g (.bool (setS s true).fr) (.int .i64 (setS s true).nx) (.slice ra3 (setS s true).rd.length rc3) (.slice ha3 (setS s true).hd.length hc3) (.slice ma3 (setS s true).ms.length mc3) = U1 := hU; have HU1 : Hid (Below W2.heap.size W2 U1) := Lib.hid (hU' ▸ set5_below HV1.out hg0 _ _ _ _ _); have HUG : Hid (U1.heap[g]? = some (.cells #[.bool (setS s true).fr, .int .i64 (setS s true).nx, .slice ra3 (setS s true).rd.length rc3, .slice ha3 (setS s true).hd.length hc3, .slice ma3 (setS s true).ms.length mc3] 26 (0, 0))) := Lib.hid (hU' ▸ set5_box HG1.out _ _ _ _ _); have HUH : Hid (U1.heap[h]? = v1.heap[h]?) := Lib.hid (hU' ▸ set5_heap _ _ _ _ _ _ _ _ n8); have HUS : Hid (SdAt U1 ra3 rc3 ha3 hc3 ma3 mc3 (setS s true)) := Lib.hid (hU' ▸ sd_keep _ _ _ _ _ _ HS3.out HG1.out fun b hb => set5_heap _ _ _ _ _ _ _ _ hb); have HUF : Hid (∀ b, b ≠ g → U1.heap[b]? = v1.heap[b]?) := Lib.hid (hU' ▸ fun b hb => set5_heap _ _ _ _ _ _ _ _ hb); clear hU hU' x0 x1 x2 x3 x4 y0 y1 y2 y3 y4; refine (rfreeze_any s ra2 rc2 ha2 hc2 ma2 mc2 _ (HTW.out _ HU1.out)).mono ?_; rintro e v2 ⟨ra4, rc4, ha4, hc4, ma4, mc4, rfl, hs4, hb2⟩; have HV2 := Lib.hid (HU1.out.trans (hb2.mono HU1.out.size)); have HS4 := Lib.hid hs4; have HS32 := Lib.hid (HUS.out.below _ _ _ _ _ _ hb2); have HG2 := Lib.hid (box_bl HUG.out hb2); have HH2 := Lib.hid (box_bl (HUH.out.trans HH1.out) hb2); clear hs4 hb2; obtain ⟨⟨x0, x1, x2, x3, x4⟩, y0, y1, y2, y3, y4⟩ := box5 HH2.out; obtain ⟨hx, hy, hz, -, -⟩ := HCB.out _ HV2.out; clear a0 a1 a2 a3 a4 b0 b1 b2 b3 b4 c0 c1 c2 c3 c4 c5; obtain ⟨⟨a0, a1, a2, a3, a4⟩, -⟩ := box5 hx; obtain ⟨⟨b0, b1, b2, b3, b4⟩, -⟩ := box5 hy; obtain ⟨⟨c0, c1, c2, c3, c4, c5⟩, -⟩ := box6 hz; clear hx hy hz))
    generalize hE : World.setCell (World.setCell (World.setCell (World.setCell (World.setCell v2 _ _) _ _) _ _) _ _) _ _ = E
    have hE' : set5 v2 h (.bool (setS s true).fr) (.int .i64 (setS s true).nx) (.slice ra4 (setS s true).rd.length rc4) (.slice ha4 (setS s true).hd.length hc4) (.slice ma4 (setS s true).ms.length mc4) = E := hE
    clear hE
    have r1 : Below W2.heap.size W2 E := hE' ▸ set5_below HV2.out hh0 _ _ _ _ _
    have r2 : E.heap[g]? = _ := hE' ▸ (set5_heap _ _ _ _ _ _ _ _ n7).trans HG2.out
    have r3 : E.heap[h]? = _ := hE' ▸ set5_box HH2.out _ _ _ _ _
    have r4 : SdAt E ra3 rc3 ha3 hc3 ma3 mc3 (setS s true) := hE' ▸ sd_keep _ _ _ _ _ _ HS32.out HH2.out fun b hb => set5_heap _ _ _ _ _ _ _ _ hb
    have r5 : SdAt E ra4 rc4 ha4 hc4 ma4 mc4 (setS s true) := hE' ▸ sd_keep _ _ _ _ _ _ HS4.out HH2.out fun b hb => set5_heap _ _ _ _ _ _ _ _ hb
    have hdc : doCut s o W2 g h (.int .i64 (setC s true)) (.int .i64 (setC s true)) E := by
      unfold doCut
      rw [HSF.out, HSC.out]
      exact ⟨_, _, _, _, _, _, _, _, _, _, _, _, rfl, rfl, r1, r2, r3, r4, r5⟩
    refine HREST.out _ _ _ _ ?_ ?_ ?_ ?_ ?_ ?_ ?_ hdc <;> rfl
  by_cases k8q : kdF o = 8
  ·
    have HSF : Hid (stepF s o = setS s false) := Lib.hid (by unfold stepF; rw [if_neg k3, if_neg k5, if_neg (by omega), if_neg (by omega), if_neg (by omega), if_pos k8q])
    have HSC : Hid (stepC s o = setC s false) := Lib.hid (by unfold stepC; rw [if_neg k3, if_neg k5, if_neg (by omega), if_neg (by omega), if_neg (by omega), if_pos k8q])
    have l3 : decide ((kdF o : Int) < 3) = false := decide_eq_false (by omega)
    have l5 : decide ((kdF o : Int) < 5) = false := decide_eq_false (by omega)
    have e5x : ((kdF o : Int) == 5) = false := by rw [beq_eq_false_iff_ne]; omega
    have e9x : ((kdF o : Int) == 9) = false := by rw [beq_eq_false_iff_ne]; omega
    have e6x : ((kdF o : Int) == 6) = false := by rw [beq_eq_false_iff_ne]; omega
    have e7x : ((kdF o : Int) == 7) = false := by rw [beq_eq_false_iff_ne]; omega
    have e8x : ((kdF o : Int) == 8) = true := by rw [beq_iff_eq]; omega
    clear k3 k5 k6q k7q k8q
    go_wp2_with (first | (go_at_call 35; refine (thaw_any s ra rc ha hc ma mc _ (HSW.out _ HB5.out)).mono ?_; rintro e v1 ⟨ra3, rc3, ha3, hc3, ma3, mc3, rfl, ho1, hsm1, hb1⟩; have HV1 := Lib.hid (HB5.out.trans (hb1.mono HB5.out.size)); have HS3 := Lib.hid (ho1.sd ra3 rc3 ha3 hc3 ma3 mc3 hsm1); have HG1 := Lib.hid (box_bl HXG.out hb1); have HH1 := Lib.hid (box_bl HXH.out hb1); have HK1 := Lib.hid hb1; clear ho1 hsm1 hb1; obtain ⟨⟨x0, x1, x2, x3, x4⟩, y0, y1, y2, y3, y4⟩ := box5 HG1.out; obtain ⟨hx, hy, hz, -, -⟩ := HCB.out _ HV1.out; clear a0 a1 a2 a3 a4 b0 b1 b2 b3 b4 c0 c1 c2 c3 c4 c5; obtain ⟨⟨a0, a1, a2, a3, a4⟩, -⟩ := box5 hx; obtain ⟨⟨b0, b1, b2, b3, b4⟩, -⟩ := box5 hy; obtain ⟨⟨c0, c1, c2, c3, c4, c5⟩, -⟩ := box6 hz; clear hx hy hz) | (go_at_call 36; generalize hU : World.setCell (World.setCell (World.setCell (World.setCell (World.setCell v1 _ _) _ _) _ _) _ _) _ _ = U1; have hU' : set5 v1 g (.bool (setS s false).fr) (.int .i64 (setS s false).nx) (.slice ra3 (setS s false).rd.length rc3) (.slice ha3 (setS s false).hd.length hc3) (.slice ma3 (setS s false).ms.length mc3) = U1 := hU; have HU1 : Hid (Below W2.heap.size W2 U1) := Lib.hid (hU' ▸ set5_below HV1.out hg0 _ _ _ _ _); have HUG : Hid (U1.heap[g]? = some (.cells #[.bool (setS s false).fr, .int .i64 (setS s false).nx, .slice ra3 (setS s false).rd.length rc3, .slice ha3 (setS s false).hd.length hc3, .slice ma3 (setS s false).ms.length mc3] 26 (0, 0))) := Lib.hid (hU' ▸ set5_box HG1.out _ _ _ _ _); have HUH : Hid (U1.heap[h]? = v1.heap[h]?) := Lib.hid (hU' ▸ set5_heap _ _ _ _ _ _ _ _ n8); have HUS : Hid (SdAt U1 ra3 rc3 ha3 hc3 ma3 mc3 (setS s false)) := Lib.hid (hU' ▸ sd_keep _ _ _ _ _ _ HS3.out HG1.out fun b hb => set5_heap _ _ _ _ _ _ _ _ hb); have HUF : Hid (∀ b, b ≠ g → U1.heap[b]? = v1.heap[b]?) := Lib.hid (hU' ▸ fun b hb => set5_heap _ _ _ _ _ _ _ _ hb); clear hU hU' x0 x1 x2 x3 x4 y0 y1 y2 y3 y4; refine (rthaw_any s ra2 rc2 ha2 hc2 ma2 mc2 _ (HTW.out _ HU1.out)).mono ?_; rintro e v2 ⟨ra4, rc4, ha4, hc4, ma4, mc4, rfl, hs4, hb2⟩; have HV2 := Lib.hid (HU1.out.trans (hb2.mono HU1.out.size)); have HS4 := Lib.hid hs4; have HS32 := Lib.hid (HUS.out.below _ _ _ _ _ _ hb2); have HG2 := Lib.hid (box_bl HUG.out hb2); have HH2 := Lib.hid (box_bl (HUH.out.trans HH1.out) hb2); clear hs4 hb2; obtain ⟨⟨x0, x1, x2, x3, x4⟩, y0, y1, y2, y3, y4⟩ := box5 HH2.out; obtain ⟨hx, hy, hz, -, -⟩ := HCB.out _ HV2.out; clear a0 a1 a2 a3 a4 b0 b1 b2 b3 b4 c0 c1 c2 c3 c4 c5; obtain ⟨⟨a0, a1, a2, a3, a4⟩, -⟩ := box5 hx; obtain ⟨⟨b0, b1, b2, b3, b4⟩, -⟩ := box5 hy; obtain ⟨⟨c0, c1, c2, c3, c4, c5⟩, -⟩ := box6 hz; clear hx hy hz))
    generalize hE : World.setCell (World.setCell (World.setCell (World.setCell (World.setCell v2 _ _) _ _) _ _) _ _) _ _ = E
    have hE' : set5 v2 h (.bool (setS s false).fr) (.int .i64 (setS s false).nx) (.slice ra4 (setS s false).rd.length rc4) (.slice ha4 (setS s false).hd.length hc4) (.slice ma4 (setS s false).ms.length mc4) = E := hE
    clear hE
    have r1 : Below W2.heap.size W2 E := hE' ▸ set5_below HV2.out hh0 _ _ _ _ _
    have r2 : E.heap[g]? = _ := hE' ▸ (set5_heap _ _ _ _ _ _ _ _ n7).trans HG2.out
    have r3 : E.heap[h]? = _ := hE' ▸ set5_box HH2.out _ _ _ _ _
    have r4 : SdAt E ra3 rc3 ha3 hc3 ma3 mc3 (setS s false) := hE' ▸ sd_keep _ _ _ _ _ _ HS32.out HH2.out fun b hb => set5_heap _ _ _ _ _ _ _ _ hb
    have r5 : SdAt E ra4 rc4 ha4 hc4 ma4 mc4 (setS s false) := hE' ▸ sd_keep _ _ _ _ _ _ HS4.out HH2.out fun b hb => set5_heap _ _ _ _ _ _ _ _ hb
    have hdc : doCut s o W2 g h (.int .i64 (setC s false)) (.int .i64 (setC s false)) E := by
      unfold doCut
      rw [HSF.out, HSC.out]
      exact ⟨_, _, _, _, _, _, _, _, _, _, _, _, rfl, rfl, r1, r2, r3, r4, r5⟩
    refine HREST.out _ _ _ _ ?_ ?_ ?_ ?_ ?_ ?_ ?_ hdc <;> rfl
  by_cases k5q : kdF o = 5
  ·
    have HSF : Hid (stepF s o = ackS s (tagF s o)) := Lib.hid (by unfold stepF; rw [if_neg k3, if_neg k5, if_pos (by omega)])
    have HSC : Hid (stepC s o = outC s (tagF s o)) := Lib.hid (by unfold stepC; rw [if_neg k3, if_neg k5, if_pos (by omega)])
    have l3 : decide ((kdF o : Int) < 3) = false := decide_eq_false (by omega)
    have l5 : decide ((kdF o : Int) < 5) = false := decide_eq_false (by omega)
    have e5x : ((kdF o : Int) == 5) = true := by rw [beq_iff_eq]; omega
    have e9x : ((kdF o : Int) == 9) = false := by rw [beq_eq_false_iff_ne]; omega
    have e6x : ((kdF o : Int) == 6) = false := by rw [beq_eq_false_iff_ne]; omega
    have e7x : ((kdF o : Int) == 7) = false := by rw [beq_eq_false_iff_ne]; omega
    have e8x : ((kdF o : Int) == 8) = false := by rw [beq_eq_false_iff_ne]; omega
    clear k3 k5 k6q k7q k8q k5q
    go_wp2_with (first | (go_at_call 27; refine (ack_any s (tagF s o) ra rc ha hc ma mc _ (HSW.out _ HB5.out)).mono ?_; rintro e v1 ⟨ra3, rc3, ha3, hc3, ma3, mc3, rfl, ho1, hsm1, hb1⟩; have HV1 := Lib.hid (HB5.out.trans (hb1.mono HB5.out.size)); have HS3 := Lib.hid (ho1.sd ra3 rc3 ha3 hc3 ma3 mc3 hsm1); have HG1 := Lib.hid (box_bl HXG.out hb1); have HH1 := Lib.hid (box_bl HXH.out hb1); have HK1 := Lib.hid hb1; clear ho1 hsm1 hb1; obtain ⟨⟨x0, x1, x2, x3, x4⟩, y0, y1, y2, y3, y4⟩ := box5 HG1.out; obtain ⟨hx, hy, hz, -, -⟩ := HCB.out _ HV1.out; clear a0 a1 a2 a3 a4 b0 b1 b2 b3 b4 c0 c1 c2 c3 c4 c5; obtain ⟨⟨a0, a1, a2, a3, a4⟩, -⟩ := box5 hx; obtain ⟨⟨b0, b1, b2, b3, b4⟩, -⟩ := box5 hy; obtain ⟨⟨c0, c1, c2, c3, c4, c5⟩, -⟩ := box6 hz; clear hx hy hz) | (go_at_call 28; generalize hU : World.setCell (World.setCell (World.setCell (World.setCell (World.setCell v1 _ _) _ _) _ _) _ _) _ _ = U1; have hU' : set5 v1 g (.bool (ackS s (tagF s o)).fr) (.int .i64 (ackS s (tagF s o)).nx) (.slice ra3 (ackS s (tagF s o)).rd.length rc3) (.slice ha3 (ackS s (tagF s o)).hd.length hc3) (.slice ma3 (ackS s (tagF s o)).ms.length mc3) = U1 := hU; have HU1 : Hid (Below W2.heap.size W2 U1) := Lib.hid (hU' ▸ set5_below HV1.out hg0 _ _ _ _ _); have HUG : Hid (U1.heap[g]? = some (.cells #[.bool (ackS s (tagF s o)).fr, .int .i64 (ackS s (tagF s o)).nx, .slice ra3 (ackS s (tagF s o)).rd.length rc3, .slice ha3 (ackS s (tagF s o)).hd.length hc3, .slice ma3 (ackS s (tagF s o)).ms.length mc3] 26 (0, 0))) := Lib.hid (hU' ▸ set5_box HG1.out _ _ _ _ _); have HUH : Hid (U1.heap[h]? = v1.heap[h]?) := Lib.hid (hU' ▸ set5_heap _ _ _ _ _ _ _ _ n8); have HUS : Hid (SdAt U1 ra3 rc3 ha3 hc3 ma3 mc3 (ackS s (tagF s o))) := Lib.hid (hU' ▸ sd_keep _ _ _ _ _ _ HS3.out HG1.out fun b hb => set5_heap _ _ _ _ _ _ _ _ hb); have HUF : Hid (∀ b, b ≠ g → U1.heap[b]? = v1.heap[b]?) := Lib.hid (hU' ▸ fun b hb => set5_heap _ _ _ _ _ _ _ _ hb); clear hU hU' x0 x1 x2 x3 x4 y0 y1 y2 y3 y4; refine (rack_any s (tagF s o) ra2 rc2 ha2 hc2 ma2 mc2 _ (HTW.out _ HU1.out)).mono ?_; rintro e v2 ⟨ra4, rc4, ha4, hc4, ma4, mc4, rfl, hs4, hb2⟩; have HV2 := Lib.hid (HU1.out.trans (hb2.mono HU1.out.size)); have HS4 := Lib.hid hs4; have HS32 := Lib.hid (HUS.out.below _ _ _ _ _ _ hb2); have HG2 := Lib.hid (box_bl HUG.out hb2); have HH2 := Lib.hid (box_bl (HUH.out.trans HH1.out) hb2); clear hs4 hb2; obtain ⟨⟨x0, x1, x2, x3, x4⟩, y0, y1, y2, y3, y4⟩ := box5 HH2.out; obtain ⟨hx, hy, hz, -, -⟩ := HCB.out _ HV2.out; clear a0 a1 a2 a3 a4 b0 b1 b2 b3 b4 c0 c1 c2 c3 c4 c5; obtain ⟨⟨a0, a1, a2, a3, a4⟩, -⟩ := box5 hx; obtain ⟨⟨b0, b1, b2, b3, b4⟩, -⟩ := box5 hy; obtain ⟨⟨c0, c1, c2, c3, c4, c5⟩, -⟩ := box6 hz; clear hx hy hz))
    generalize hE : World.setCell (World.setCell (World.setCell (World.setCell (World.setCell v2 _ _) _ _) _ _) _ _) _ _ = E
    have hE' : set5 v2 h (.bool (ackS s (tagF s o)).fr) (.int .i64 (ackS s (tagF s o)).nx) (.slice ra4 (ackS s (tagF s o)).rd.length rc4) (.slice ha4 (ackS s (tagF s o)).hd.length hc4) (.slice ma4 (ackS s (tagF s o)).ms.length mc4) = E := hE
    clear hE
    have r1 : Below W2.heap.size W2 E := hE' ▸ set5_below HV2.out hh0 _ _ _ _ _
    have r2 : E.heap[g]? = _ := hE' ▸ (set5_heap _ _ _ _ _ _ _ _ n7).trans HG2.out
    have r3 : E.heap[h]? = _ := hE' ▸ set5_box HH2.out _ _ _ _ _
    have r4 : SdAt E ra3 rc3 ha3 hc3 ma3 mc3 (ackS s (tagF s o)) := hE' ▸ sd_keep _ _ _ _ _ _ HS32.out HH2.out fun b hb => set5_heap _ _ _ _ _ _ _ _ hb
    have r5 : SdAt E ra4 rc4 ha4 hc4 ma4 mc4 (ackS s (tagF s o)) := hE' ▸ sd_keep _ _ _ _ _ _ HS4.out HH2.out fun b hb => set5_heap _ _ _ _ _ _ _ _ hb
    have hdc : doCut s o W2 g h (.int .i64 (outC s (tagF s o))) (.int .i64 (outC s (tagF s o))) E := by
      unfold doCut
      rw [HSF.out, HSC.out]
      exact ⟨_, _, _, _, _, _, _, _, _, _, _, _, rfl, rfl, r1, r2, r3, r4, r5⟩
    refine HREST.out _ _ _ _ ?_ ?_ ?_ ?_ ?_ ?_ ?_ hdc <;> rfl
  have k9q : kdF o = 9 := by omega
  have HO9 := Lib.hid (HO9.out k9q)
  have hpa := pub_and o.pub
  by_cases hod : o.pub % 2 = 1
  ·
    have HSF : Hid (stepF s o = ackS s (tagF s o)) := Lib.hid (by unfold stepF; rw [if_neg k3, if_neg k5, if_pos (Or.inr ⟨k9q, hod⟩)])
    have HSC : Hid (stepC s o = outC s (tagF s o)) := Lib.hid (by unfold stepC; rw [if_neg k3, if_neg k5, if_pos (Or.inr ⟨k9q, hod⟩)])
    have l3 : decide ((kdF o : Int) < 3) = false := decide_eq_false (by omega)
    have l5 : decide ((kdF o : Int) < 5) = false := decide_eq_false (by omega)
    have e5x : ((kdF o : Int) == 5) = false := by rw [beq_eq_false_iff_ne]; omega
    have e9x : ((kdF o : Int) == 9) = true := by rw [beq_iff_eq]; omega
    have e6x : ((kdF o : Int) == 6) = false := by rw [beq_eq_false_iff_ne]; omega
    have e7x : ((kdF o : Int) == 7) = false := by rw [beq_eq_false_iff_ne]; omega
    have e8x : ((kdF o : Int) == 8) = false := by rw [beq_eq_false_iff_ne]; omega
    have e1x : (bits BinOp.and IntKind.i64 o.pub 1 == 1) = true := by rw [hpa, beq_iff_eq]; exact hod
    clear k3 k5 k6q k7q k8q k5q hod hpa k9q
    go_wp2_with (first | (go_at_call 27; refine (ack_any s (tagF s o) ra rc ha hc ma mc _ (HSW.out _ HB5.out)).mono ?_; rintro e v1 ⟨ra3, rc3, ha3, hc3, ma3, mc3, rfl, ho1, hsm1, hb1⟩; have HV1 := Lib.hid (HB5.out.trans (hb1.mono HB5.out.size)); have HS3 := Lib.hid (ho1.sd ra3 rc3 ha3 hc3 ma3 mc3 hsm1); have HG1 := Lib.hid (box_bl HXG.out hb1); have HH1 := Lib.hid (box_bl HXH.out hb1); have HK1 := Lib.hid hb1; clear ho1 hsm1 hb1; obtain ⟨⟨x0, x1, x2, x3, x4⟩, y0, y1, y2, y3, y4⟩ := box5 HG1.out; obtain ⟨hx, hy, hz, -, -⟩ := HCB.out _ HV1.out; clear a0 a1 a2 a3 a4 b0 b1 b2 b3 b4 c0 c1 c2 c3 c4 c5; obtain ⟨⟨a0, a1, a2, a3, a4⟩, -⟩ := box5 hx; obtain ⟨⟨b0, b1, b2, b3, b4⟩, -⟩ := box5 hy; obtain ⟨⟨c0, c1, c2, c3, c4, c5⟩, -⟩ := box6 hz; clear hx hy hz) | (go_at_call 28; generalize hU : World.setCell (World.setCell (World.setCell (World.setCell (World.setCell v1 _ _) _ _) _ _) _ _) _ _ = U1; have hU' : set5 v1 g (.bool (ackS s (tagF s o)).fr) (.int .i64 (ackS s (tagF s o)).nx) (.slice ra3 (ackS s (tagF s o)).rd.length rc3) (.slice ha3 (ackS s (tagF s o)).hd.length hc3) (.slice ma3 (ackS s (tagF s o)).ms.length mc3) = U1 := hU; have HU1 : Hid (Below W2.heap.size W2 U1) := Lib.hid (hU' ▸ set5_below HV1.out hg0 _ _ _ _ _); have HUG : Hid (U1.heap[g]? = some (.cells #[.bool (ackS s (tagF s o)).fr, .int .i64 (ackS s (tagF s o)).nx, .slice ra3 (ackS s (tagF s o)).rd.length rc3, .slice ha3 (ackS s (tagF s o)).hd.length hc3, .slice ma3 (ackS s (tagF s o)).ms.length mc3] 26 (0, 0))) := Lib.hid (hU' ▸ set5_box HG1.out _ _ _ _ _); have HUH : Hid (U1.heap[h]? = v1.heap[h]?) := Lib.hid (hU' ▸ set5_heap _ _ _ _ _ _ _ _ n8); have HUS : Hid (SdAt U1 ra3 rc3 ha3 hc3 ma3 mc3 (ackS s (tagF s o))) := Lib.hid (hU' ▸ sd_keep _ _ _ _ _ _ HS3.out HG1.out fun b hb => set5_heap _ _ _ _ _ _ _ _ hb); have HUF : Hid (∀ b, b ≠ g → U1.heap[b]? = v1.heap[b]?) := Lib.hid (hU' ▸ fun b hb => set5_heap _ _ _ _ _ _ _ _ hb); clear hU hU' x0 x1 x2 x3 x4 y0 y1 y2 y3 y4; refine (rack_any s (tagF s o) ra2 rc2 ha2 hc2 ma2 mc2 _ (HTW.out _ HU1.out)).mono ?_; rintro e v2 ⟨ra4, rc4, ha4, hc4, ma4, mc4, rfl, hs4, hb2⟩; have HV2 := Lib.hid (HU1.out.trans (hb2.mono HU1.out.size)); have HS4 := Lib.hid hs4; have HS32 := Lib.hid (HUS.out.below _ _ _ _ _ _ hb2); have HG2 := Lib.hid (box_bl HUG.out hb2); have HH2 := Lib.hid (box_bl (HUH.out.trans HH1.out) hb2); clear hs4 hb2; obtain ⟨⟨x0, x1, x2, x3, x4⟩, y0, y1, y2, y3, y4⟩ := box5 HH2.out; obtain ⟨hx, hy, hz, -, -⟩ := HCB.out _ HV2.out; clear a0 a1 a2 a3 a4 b0 b1 b2 b3 b4 c0 c1 c2 c3 c4 c5; obtain ⟨⟨a0, a1, a2, a3, a4⟩, -⟩ := box5 hx; obtain ⟨⟨b0, b1, b2, b3, b4⟩, -⟩ := box5 hy; obtain ⟨⟨c0, c1, c2, c3, c4, c5⟩, -⟩ := box6 hz; clear hx hy hz))
    generalize hE : World.setCell (World.setCell (World.setCell (World.setCell (World.setCell v2 _ _) _ _) _ _) _ _) _ _ = E
    have hE' : set5 v2 h (.bool (ackS s (tagF s o)).fr) (.int .i64 (ackS s (tagF s o)).nx) (.slice ra4 (ackS s (tagF s o)).rd.length rc4) (.slice ha4 (ackS s (tagF s o)).hd.length hc4) (.slice ma4 (ackS s (tagF s o)).ms.length mc4) = E := hE
    clear hE
    have r1 : Below W2.heap.size W2 E := hE' ▸ set5_below HV2.out hh0 _ _ _ _ _
    have r2 : E.heap[g]? = _ := hE' ▸ (set5_heap _ _ _ _ _ _ _ _ n7).trans HG2.out
    have r3 : E.heap[h]? = _ := hE' ▸ set5_box HH2.out _ _ _ _ _
    have r4 : SdAt E ra3 rc3 ha3 hc3 ma3 mc3 (ackS s (tagF s o)) := hE' ▸ sd_keep _ _ _ _ _ _ HS32.out HH2.out fun b hb => set5_heap _ _ _ _ _ _ _ _ hb
    have r5 : SdAt E ra4 rc4 ha4 hc4 ma4 mc4 (ackS s (tagF s o)) := hE' ▸ sd_keep _ _ _ _ _ _ HS4.out HH2.out fun b hb => set5_heap _ _ _ _ _ _ _ _ hb
    have hdc : doCut s o W2 g h (.int .i64 (outC s (tagF s o))) (.int .i64 (outC s (tagF s o))) E := by
      unfold doCut
      rw [HSF.out, HSC.out]
      exact ⟨_, _, _, _, _, _, _, _, _, _, _, _, rfl, rfl, r1, r2, r3, r4, r5⟩
    refine HREST.out _ _ _ _ ?_ ?_ ?_ ?_ ?_ ?_ ?_ hdc <;> rfl
  ·
    have HSF : Hid (stepF s o = putS s o.l) := Lib.hid (by unfold stepF; rw [if_neg k3, if_neg k5, if_neg (by omega), if_neg k6q, if_neg k7q, if_neg k8q])
    have HSC : Hid (stepC s o = putC s o.l) := Lib.hid (by unfold stepC; rw [if_neg k3, if_neg k5, if_neg (by omega), if_neg k6q, if_neg k7q, if_neg k8q])
    have l3 : decide ((kdF o : Int) < 3) = false := decide_eq_false (by omega)
    have l5 : decide ((kdF o : Int) < 5) = false := decide_eq_false (by omega)
    have e5x : ((kdF o : Int) == 5) = false := by rw [beq_eq_false_iff_ne]; omega
    have e9x : ((kdF o : Int) == 9) = true := by rw [beq_iff_eq]; omega
    have e6x : ((kdF o : Int) == 6) = false := by rw [beq_eq_false_iff_ne]; omega
    have e7x : ((kdF o : Int) == 7) = false := by rw [beq_eq_false_iff_ne]; omega
    have e8x : ((kdF o : Int) == 8) = false := by rw [beq_eq_false_iff_ne]; omega
    have e1x : (bits BinOp.and IntKind.i64 o.pub 1 == 1) = false := by rw [hpa, beq_eq_false_iff_ne]; exact hod
    clear k3 k5 k6q k7q k8q k5q hod hpa k9q
    go_wp2_with (first | (go_at_call 20; refine (put_any s ra rc ha hc ma mc ao co o.l HO9.out _ (HSW.out _ HB5.out) (HOW.out _ HB5.out).at' (HOW.out _ HB5.out).nil).mono ?_; rintro e v1 ⟨ra3, rc3, ha3, hc3, ma3, mc3, rfl, ho1, hsm1, hb1⟩; have HV1 := Lib.hid (HB5.out.trans (hb1.mono HB5.out.size)); have HS3 := Lib.hid (ho1.sd ra3 rc3 ha3 hc3 ma3 mc3 hsm1); have HG1 := Lib.hid (box_bl HXG.out hb1); have HH1 := Lib.hid (box_bl HXH.out hb1); have HK1 := Lib.hid hb1; clear ho1 hsm1 hb1; obtain ⟨⟨x0, x1, x2, x3, x4⟩, y0, y1, y2, y3, y4⟩ := box5 HG1.out; obtain ⟨hx, hy, hz, -, -⟩ := HCB.out _ HV1.out; clear a0 a1 a2 a3 a4 b0 b1 b2 b3 b4 c0 c1 c2 c3 c4 c5; obtain ⟨⟨a0, a1, a2, a3, a4⟩, -⟩ := box5 hx; obtain ⟨⟨b0, b1, b2, b3, b4⟩, -⟩ := box5 hy; obtain ⟨⟨c0, c1, c2, c3, c4, c5⟩, -⟩ := box6 hz; clear hx hy hz) | (go_at_call 21; generalize hU : World.setCell (World.setCell (World.setCell (World.setCell (World.setCell v1 _ _) _ _) _ _) _ _) _ _ = U1; have hU' : set5 v1 g (.bool (putS s o.l).fr) (.int .i64 (putS s o.l).nx) (.slice ra3 (putS s o.l).rd.length rc3) (.slice ha3 (putS s o.l).hd.length hc3) (.slice ma3 (putS s o.l).ms.length mc3) = U1 := hU; have HU1 : Hid (Below W2.heap.size W2 U1) := Lib.hid (hU' ▸ set5_below HV1.out hg0 _ _ _ _ _); have HUG : Hid (U1.heap[g]? = some (.cells #[.bool (putS s o.l).fr, .int .i64 (putS s o.l).nx, .slice ra3 (putS s o.l).rd.length rc3, .slice ha3 (putS s o.l).hd.length hc3, .slice ma3 (putS s o.l).ms.length mc3] 26 (0, 0))) := Lib.hid (hU' ▸ set5_box HG1.out _ _ _ _ _); have HUH : Hid (U1.heap[h]? = v1.heap[h]?) := Lib.hid (hU' ▸ set5_heap _ _ _ _ _ _ _ _ n8); have HUS : Hid (SdAt U1 ra3 rc3 ha3 hc3 ma3 mc3 (putS s o.l)) := Lib.hid (hU' ▸ sd_keep _ _ _ _ _ _ HS3.out HG1.out fun b hb => set5_heap _ _ _ _ _ _ _ _ hb); have HUF : Hid (∀ b, b ≠ g → U1.heap[b]? = v1.heap[b]?) := Lib.hid (hU' ▸ fun b hb => set5_heap _ _ _ _ _ _ _ _ hb); clear hU hU' x0 x1 x2 x3 x4 y0 y1 y2 y3 y4; refine (rput_any s ra2 rc2 ha2 hc2 ma2 mc2 ao co o.l HO9.out _ (HTW.out _ HU1.out) (HOW.out _ HU1.out).at' (HOW.out _ HU1.out).nil).mono ?_; rintro e v2 ⟨ra4, rc4, ha4, hc4, ma4, mc4, rfl, hs4, hb2⟩; have HV2 := Lib.hid (HU1.out.trans (hb2.mono HU1.out.size)); have HS4 := Lib.hid hs4; have HS32 := Lib.hid (HUS.out.below _ _ _ _ _ _ hb2); have HG2 := Lib.hid (box_bl HUG.out hb2); have HH2 := Lib.hid (box_bl (HUH.out.trans HH1.out) hb2); clear hs4 hb2; obtain ⟨⟨x0, x1, x2, x3, x4⟩, y0, y1, y2, y3, y4⟩ := box5 HH2.out; obtain ⟨hx, hy, hz, -, -⟩ := HCB.out _ HV2.out; clear a0 a1 a2 a3 a4 b0 b1 b2 b3 b4 c0 c1 c2 c3 c4 c5; obtain ⟨⟨a0, a1, a2, a3, a4⟩, -⟩ := box5 hx; obtain ⟨⟨b0, b1, b2, b3, b4⟩, -⟩ := box5 hy; obtain ⟨⟨c0, c1, c2, c3, c4, c5⟩, -⟩ := box6 hz; clear hx hy hz))
    generalize hE : World.setCell (World.setCell (World.setCell (World.setCell (World.setCell v2 _ _) _ _) _ _) _ _) _ _ = E
    have hE' : set5 v2 h (.bool (putS s o.l).fr) (.int .i64 (putS s o.l).nx) (.slice ra4 (putS s o.l).rd.length rc4) (.slice ha4 (putS s o.l).hd.length hc4) (.slice ma4 (putS s o.l).ms.length mc4) = E := hE
    clear hE
    have r1 : Below W2.heap.size W2 E := hE' ▸ set5_below HV2.out hh0 _ _ _ _ _
    have r2 : E.heap[g]? = _ := hE' ▸ (set5_heap _ _ _ _ _ _ _ _ n7).trans HG2.out
    have r3 : E.heap[h]? = _ := hE' ▸ set5_box HH2.out _ _ _ _ _
    have r4 : SdAt E ra3 rc3 ha3 hc3 ma3 mc3 (putS s o.l) := hE' ▸ sd_keep _ _ _ _ _ _ HS32.out HH2.out fun b hb => set5_heap _ _ _ _ _ _ _ _ hb
    have r5 : SdAt E ra4 rc4 ha4 hc4 ma4 mc4 (putS s o.l) := hE' ▸ sd_keep _ _ _ _ _ _ HS4.out HH2.out fun b hb => set5_heap _ _ _ _ _ _ _ _ hb
    have hdc : doCut s o W2 g h (.int .i64 (putC s o.l)) (.int .i64 (putC s o.l)) E := by
      unfold doCut
      rw [HSF.out, HSC.out]
      exact ⟨_, _, _, _, _, _, _, _, _, _, _, _, rfl, rfl, r1, r2, r3, r4, r5⟩
    refine HREST.out _ _ _ _ ?_ ?_ ?_ ?_ ?_ ?_ ?_ hdc <;> rfl

end Go.Proofs.Ythohjcfpobeplaa.Sh
