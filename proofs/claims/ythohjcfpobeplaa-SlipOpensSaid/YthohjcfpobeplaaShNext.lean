/-
  Law 12's Name, Next, walked; an Op as plain data.
-/
import Derived.Test.YthohjcfpobeplaaShRPut
import Derived.Test.YthohjcfpobeplaaShRSame
namespace Go.Proofs.Ythohjcfpobeplaa.Sh
open Go.RowKit Rg Go.Sort
set_option linter.unusedVariables false
set_option linter.unusedSimpArgs false

structure OpD where
  kind : Int
  pub : Int
  key : Int
  many : Int
  n : Int
  l : List Mg
def nameF (k : Nat) : List UInt8 := [(97 + k % 6).toUInt8]
def u64m (x : Int) (k : Nat) : Nat := (IntKind.u64.wrap x % k).toNat
theorem u64_mod (p : Int) (k : Nat) (hk : 0 < k) : (IntKind.u64.wrap p).tmod k = (u64m p k : Int) ∧ u64m p k < k := by
  have h : 0 ≤ IntKind.u64.wrap p := by rw [IntKind.wrap_u64]; omega
  rw [Int.tmod_eq_emod_of_nonneg h]
  have h1 := Int.emod_nonneg (IntKind.u64.wrap p) (show (k : Int) ≠ 0 by omega)
  have h2 := Int.emod_lt_of_pos (IntKind.u64.wrap p) (show (0 : Int) < (k : Int) by omega)
  unfold u64m
  omega
def nextF (s : Sd) (o : OpD) : List Mg := (List.range (u64m o.many 3 + 1)).map fun (i : Nat) => ⟨u64m o.pub 4, lastF s.ms (u64m o.pub 4) (nameF (u64m o.key 6)) + 1 + (i : Int), nameF (u64m o.key 6), [120], false⟩
theorem ext_name : ∀ i : Fin 6, (⟨#[97, 98, 99, 100, 101, 102]⟩ : ByteArray).extract i.val (i.val + 1) = ⟨(nameF i.val).toArray⟩ := by decide +kernel

set_option maxHeartbeats 1000000 in
theorem name_any (k : Nat) (hk : k ≤ 1000000) (w : World) : Calls Try.prog 42 #[.int .i64 k] w fun e w' => e = .returned (.string ⟨(nameF k).toArray⟩) ∧ w = w' := by
  have HE := Lib.hid (ext_name ⟨k % 6, by omega⟩)
  have hnm : nameF (k % 6) = nameF k := by unfold nameF; rw [Nat.mod_mod]
  have g40 : (k : Int).tmod 6 = ((k % 6 : Nat) : Int) := by rw [Int.natCast_emod]; exact Int.tmod_eq_emod_of_nonneg (by omega)
  have g60 : (k : Int) % 6 = ((k % 6 : Nat) : Int) := by omega
  have HN := Lib.hid hnm
  have hr9 : k % 6 < 6 := by omega
  obtain ⟨r, hr⟩ : ∃ r, k % 6 = r := ⟨_, rfl⟩
  simp only at HE
  rw [hr] at HE HN g40 g60 hr9
  have f3 : IntKind.i64.wrap (r : Int) = (r : Int) := IntWalk.i64_in _ (by omega)
  have f4 : IntKind.i64.wrap ((r : Int) + 1) = (r : Int) + 1 := IntWalk.i64_in _ (by omega)
  have f7 : (0 : Int) ≤ (r : Int) := by omega
  have f8 : (r : Int) + 1 ≤ 6 := by omega
  have f9 : (r : Int) ≤ (r : Int) + 1 := by omega
  clear hnm hr
  go_enter Try.func42, Try.ntmps42
  go_wp2_with fail
  go_ret
  exact ⟨by rw [← HN.out]; exact congrArg (fun x => Ending.returned (.string x)) HE.out, rfl⟩

/-- an Op in memory. -/
structure OpAt (w : World) (a : Option Addr) (cap : Nat) (o : OpD) : Prop where
  at' : MgsAt w a cap o.l
  nil : a = none → cap = 0
theorem OpAt.below {w w' : World} {a : Option Addr} {cap : Nat} {o : OpD} (h : OpAt w a cap o) (hb : Below w.heap.size w w') : OpAt w' a cap o := ⟨h.at'.below hb, h.nil⟩
def nextRel (W2 : World) (B : Nat) (g : Nat → Mg) (N : Nat) (m : Nat) (v8 v9 : Value) (wr : World) : Prop :=
  ∃ i : Nat, i ≤ N ∧ v9 = .int .i64 i ∧ m = N - i ∧ Below W2.heap.size W2 wr ∧ OwnG wr B v8 ((List.range i).map g)

set_option maxRecDepth 100000 in
set_option maxHeartbeats 4000000 in
theorem next_any (s : Sd) (ra : Option Addr) (rc : Nat) (ha : Option Addr) (hc : Nat) (ma : Option Addr) (mc : Nat) (o : OpD) (ao : Option Addr) (co : Nat) (hm : MaySd s) (w : World) (hs : SdAt w ra rc ha hc ma mc s) :
    Calls Try.prog 41 #[.agg #[.bool s.fr, .int .i64 s.nx, .slice ra s.rd.length rc, .slice ha s.hd.length hc, .slice ma s.ms.length mc], .agg #[.int .i64 o.kind, .int .i64 o.pub, .int .i64 o.key, .int .i64 o.many, .int .i64 o.n, .slice ao o.l.length co]] w
      fun e w' => ∃ v, e = .returned v ∧ OwnG w' w.heap.size v (nextF s o) ∧ Below w.heap.size w w' := by
  obtain ⟨hx, hy, hb0, hWs⟩ := two_box (w := w) (.cells #[.bool s.fr, .int .i64 s.nx, .slice ra s.rd.length rc, .slice ha s.hd.length hc, .slice ma s.ms.length mc] 26) (.cells #[.int .i64 o.kind, .int .i64 o.pub, .int .i64 o.key, .int .i64 o.many, .int .i64 o.n, .slice ao o.l.length co] 48)
  obtain ⟨W, hW⟩ : ∃ W, W = (w.alloc (.cells #[.bool s.fr, .int .i64 s.nx, .slice ra s.rd.length rc, .slice ha s.hd.length hc, .slice ma s.ms.length mc] 26)).alloc (.cells #[.int .i64 o.kind, .int .i64 o.pub, .int .i64 o.key, .int .i64 o.many, .int .i64 o.n, .slice ao o.l.length co] 48) := ⟨_, rfl⟩
  rw [← hW] at hx hy hb0 hWs
  have HBX := Lib.hid (fun (wx : World) (h : Below W.heap.size W wx) => And.intro (box5 (box_bl hx h)).1 (box6 (box_bl hy h)).1)
  have HB0 := Lib.hid hb0
  have HWS := Lib.hid hWs
  have HS1 := Lib.hid (hs.below ra rc ha hc ma mc hb0)
  have HW := Lib.hid hW
  obtain ⟨hp1, hp2⟩ := u64_mod o.pub 4 (by decide)
  obtain ⟨hk1, hk2⟩ := u64_mod o.key 6 (by decide)
  obtain ⟨hm1, hm2⟩ := u64_mod o.many 3 (by decide)
  rw [show ((4 : Nat) : Int) = 4 from rfl] at hp1
  rw [show ((6 : Nat) : Int) = 6 from rfl] at hk1
  rw [show ((3 : Nat) : Int) = 3 from rfl] at hm1
  have HNF : Hid (nextF s o = (List.range (u64m o.many 3 + 1)).map fun (i : Nat) => ⟨u64m o.pub 4, lastF s.ms (u64m o.pub 4) (nameF (u64m o.key 6)) + 1 + (i : Int), nameF (u64m o.key 6), [120], false⟩) := Lib.hid rfl
  generalize u64m o.pub 4 = p at *
  generalize u64m o.key 6 = k at *
  generalize u64m o.many 3 = m at *
  have hlv := last_may hm.2.2.2.2.1 p (nameF k)
  have HLAST := Lib.hid fun q : Und W => rlast_any s ra rc ha hc ma mc p (nameF k) q.wx (HS1.out.below _ _ _ _ _ _ q.hb)
  generalize hL : lastF s.ms p (nameF k) = lv at *
  have hlv1 : 0 ≤ lv ∧ lv ≤ 1073741824 := by rcases hlv with h | h <;> omega
  have wp : IntKind.i64.wrap (p : Int) = (p : Int) := IntWalk.i64_in _ (by omega)
  have wk : IntKind.i64.wrap (k : Int) = (k : Int) := IntWalk.i64_in _ (by omega)
  have wm : IntKind.i64.wrap (m : Int) = (m : Int) := IntWalk.i64_in _ (by omega)
  have wl : IntKind.i64.wrap (lv + 1) = lv + 1 := IntWalk.i64_in _ (by omega)
  obtain ⟨⟨b0, b1, b2, b3, b4⟩, c0, c1, c2, c3, c4, c5⟩ := HBX.out W (Below.refl _ _)
  have HNM := Lib.hid fun wx => name_any k (by omega) wx
  have mixed : Try.prog.follows .mixedOrders = true := by kernel_rfl
  clear hs hx hy hb0 hWs hW hm hlv hL
  go_enter Try.func41, Try.ntmps41
  go_wp2_with fail
  rw [← HW.out]
  go_quiet (fail)
  obtain ⟨W2, hW2⟩ : ∃ W2, W2 = W.drewN nq := ⟨_, rfl⟩
  rw [← hW2]
  have hb2 : Below W.heap.size W W2 := by rw [hW2]; exact Below.drewN (Below.refl _ _) _
  have HB2 := Lib.hid hb2
  have y0 := fun q : Und W2 => (HBX.out _ (HB2.out.trans (q.hb.mono HB2.out.size))).1.1
  have y1 := fun q : Und W2 => (HBX.out _ (HB2.out.trans (q.hb.mono HB2.out.size))).1.2.1
  have y2 := fun q : Und W2 => (HBX.out _ (HB2.out.trans (q.hb.mono HB2.out.size))).1.2.2.1
  have y3 := fun q : Und W2 => (HBX.out _ (HB2.out.trans (q.hb.mono HB2.out.size))).1.2.2.2.1
  have y4 := fun q : Und W2 => (HBX.out _ (HB2.out.trans (q.hb.mono HB2.out.size))).1.2.2.2.2
  have HLA := Lib.hid fun q : Und W2 => HLAST.out ⟨q.wx, HB2.out.trans (q.hb.mono HB2.out.size)⟩
  have HNA := Lib.hid fun q : Und W2 => (HNM.out q.wx).mono fun e w' (h : e = .returned (.string ⟨(nameF k).toArray⟩) ∧ q.wx = w') => And.intro h.1 (show Below q.wx.heap.size q.wx w' from h.2 ▸ Below.refl _ _)
  clear hW2 hb2 b0 b1 b2 b3 b4 c0 c1 c2 c3 c4 c5 HLAST hp1 hk1
  go_wp2_with fail
  (refine wp_region_quiet_below (by assumption) (by kernel_rfl) ?_; (try dsimp only [List.append]); (repeat (go_big_quiet_step (first | (go_at_call 42; with_reducible exact Calls.below_of (HNA.out _)) | (go_at_call 67; with_reducible exact Calls.below_of (HLA.out _))))); refine wpQuiet_nil ?_; intro _ hw'; obtain ⟨wq, hw''⟩ := hw'; subst hw''; have HBQ := Lib.hid wq.hb)
  clear y0 y1 y2 y3 y4 HLA HNA
  have hb3 := HB2.out.trans (HBQ.out.mono HB2.out.size)
  obtain ⟨W3, hW3⟩ : ∃ W3, W3 = wq.wx := ⟨_, rfl⟩
  rw [← hW3] at hb3 ⊢
  clear hW3 HBQ HB2
  have HB3 := Lib.hid hb3
  clear hb3
  go_wp2_with fail
  go_loopg [8, 9] (m + 1) (nextRel W3 W3.heap.size (fun (i : Nat) => ⟨p, lv + 1 + (i : Int), nameF k, [120], false⟩) (m + 1))
  case atStart => exact ⟨0, Nat.zero_le _, rfl, rfl, Below.refl _ _, OwnE.nil _ _ _ _ _⟩
  case round =>
    obtain ⟨i, hi, rfl, rfl, hb, ho⟩ := hrel
    have HB := Lib.hid hb
    have HO := Lib.hid ho
    clear hb ho
    obtain ⟨-, c0, c1, c2, c3, c4, c5⟩ := HBX.out _ (HB3.out.trans (HB.out.mono HB3.out.size))
    by_cases hlt : i < m + 1
    · have hle : (i : Int) ≤ (m : Int) := by omega
      have h4 : IntKind.i64.wrap ((i : Int) + 1) = (i : Int) + 1 := IntWalk.i64_in _ (by omega)
      have wli : IntKind.i64.wrap (lv + 1 + (i : Int)) = lv + 1 + (i : Int) := IntWalk.i64_in _ (by omega)
      have hln : ((List.range i).map (fun (i : Nat) => (⟨p, lv + 1 + (i : Int), nameF k, [120], false⟩ : Mg))).length ≤ 900000 := by simp; omega
      go_wp2_with (first | (go_at_call 42; refine (HNM.out _).mono ?_; rintro e w2 ⟨rfl, rfl⟩) | (at_builtin; refine put_one mgE (base := W3.heap.size) (⟨p, lv + 1 + (i : Int), nameF k, [120], false⟩ : Mg) rfl (.tmp 34) (.tmp 43) rfl HO.out HB.out.size hln _ rfl rfl _ rfl rfl ?_; intro v5 w5 hown5 hg5; have HOWN5 := Lib.hid hown5; have HB5 := Lib.hid (OwnE.grown HB.out HO.out hg5 HB.out.size); clear hown5 hg5))
      go_roundg (m + 1 - (i + 1))
      case measure => omega
      case rel => exact ⟨i + 1, by omega, by go_num, rfl, HB5.out, by rw [List.range_succ, List.map_append]; exact HOWN5.out⟩
    · obtain rfl : i = m + 1 := by omega
      have hle : ¬ ((m + 1 : Nat) : Int) ≤ (m : Int) := by omega
      go_wp2_with fail
      refine bodyPost_ret (by simp [results, Try.results41, go_sem]; rfl) rfl ?_
      have hw := HWS.out
      have h3 := HB3.out.size
      exact ⟨_, rfl, by rw [HNF.out]; exact HO.out.mono (by omega), HB0.out.trans ((HB3.out.trans (HB.out.mono HB3.out.size)).mono HB0.out.size)⟩

end Go.Proofs.Ythohjcfpobeplaa.Sh
