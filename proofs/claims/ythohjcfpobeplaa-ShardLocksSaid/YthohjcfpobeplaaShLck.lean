/-
  Law 12's ShardLocks, walked.
-/
import Derived.Test.YthohjcfpobeplaaShLckP
import Derived.Test.YthohjcfpobeplaaShNext
import Derived.Test.YthohjcfpobeplaaShTold
import Derived.Test.YthohjcfpobeplaaShGetG
import Derived.Test.YthohjcfpobeplaaShAck
import Derived.Deep.CutRange
import Derived.Deep.RegionHeld3
import Derived.BigRegion
namespace Go.Proofs.Ythohjcfpobeplaa.Sh
open Go.RowKit Rg Go.Sort
set_option linter.unusedVariables false
set_option linter.unusedSimpArgs false

/-- a shard's box is written anew with what lies in another one. -/
theorem bx_move {w wc : World} {B g h : Nat} (ra : Option Addr) (rc : Nat) (ha : Option Addr) (hc : Nat) (ma : Option Addr) (mc : Nat) (ra6 : Option Addr) (rc6 : Nat) (ha6 : Option Addr) (hc6 : Nat) (ma6 : Option Addr) (mc6 : Nat) {s0 s : Sd} (hb : Below B w wc) (hg : B ≤ g) (hx : Bx wc g ra rc ha hc ma mc s0) (hy : Bx wc h ra6 rc6 ha6 hc6 ma6 mc6 s) :
    Below B w (set5 wc g (.bool s.fr) (.int .i64 s.nx) (.slice ra6 s.rd.length rc6) (.slice ha6 s.hd.length hc6) (.slice ma6 s.ms.length mc6)) ∧ Bx (set5 wc g (.bool s.fr) (.int .i64 s.nx) (.slice ra6 s.rd.length rc6) (.slice ha6 s.hd.length hc6) (.slice ma6 s.ms.length mc6)) g ra6 rc6 ha6 hc6 ma6 mc6 s :=
  ⟨set5_below hb hg _ _ _ _ _, set5_box hx.bx _ _ _ _ _, sd_keep _ _ _ _ _ _ hy.sd hx.bx fun b hb => set5_heap _ _ _ _ _ _ _ _ hb⟩
theorem lck_call {k m : Nat} (hk : 1 ≤ k ∧ k ≤ 6) (hm : 1 ≤ m ∧ m ≤ 5) (i j : Nat) (hi : i < m) (hj : j < k) (ra : Option Addr) (rc : Nat) (ha : Option Addr) (hc : Nat) (ma : Option Addr) (mc : Nat) (g : Nat) (w : World) (hs : SdAt w ra rc ha hc ma mc (lckT k m (k * i + j))) (h : w.heap[g]? = some (.cells #[.int .i64 (lckM i j).pub, .int .i64 (lckM i j).seq, .string ⟨(lckM i j).key.toArray⟩, .string ⟨(lckM i j).body.toArray⟩, .bool (lckM i j).again] 35 (0, 0))) :
    Calls Try.prog 20 #[.agg #[.bool (lckT k m (k * i + j)).fr, .int .i64 (lckT k m (k * i + j)).nx, .slice ra (lckT k m (k * i + j)).rd.length rc, .slice ha (lckT k m (k * i + j)).hd.length hc, .slice ma (lckT k m (k * i + j)).ms.length mc], .slice (some ⟨g, 0, none⟩) 1 1] w (ShO (lckT k m (k * i + (j + 1))) 0 w) := by
  have h1 := put_any (lckT k m (k * i + j)) ra rc ha hc ma mc (some ⟨g, 0, none⟩) 1 [lckM i j] (by simp) w hs (mgs_one h) (fun e => by cases e)
  obtain ⟨e1, e2⟩ := lck_put hk hm i j hi hj
  rw [e1, ← e2] at h1
  exact h1
def lckRel (W : World) (g : Nat) (f : Nat → Sd) (n : Nat) (m : Nat) (v : Value) (wr : World) : Prop :=
  ∃ i : Nat, i ≤ n ∧ m = n - i ∧ v = .int .i64 i ∧ Below W.heap.size W wr ∧ ∃ ra rc ha hc ma mc, Bx wr g ra rc ha hc ma mc (f i)
def lckRelE (W : World) (g : Nat) (f : Nat → Sd) (n : Nat) (m : Nat) (wr : World) : Prop :=
  ∃ i : Nat, i ≤ n ∧ m = n - i ∧ Below W.heap.size W wr ∧ ∃ ra rc ha hc ma mc, Bx wr g ra rc ha hc ma mc (f i)

set_option maxRecDepth 100000 in
set_option maxHeartbeats 8000000 in
theorem locks_any (p0 p1 : Int) (w : World) :
    Calls Try.prog 8 #[.int .i64 p0, .int .i64 p1] w fun e w' => e = .returned (.bool true) ∧ Below w.heap.size w w' := by
  have HT := Lib.hid told_any
  have HNEW := Lib.hid (new_any w)
  have mixed : Try.prog.follows .mixedOrders = true := by kernel_rfl
  obtain ⟨u, hu, lu⟩ := u64_rem p0 6 (by decide)
  obtain ⟨v, hv, lv⟩ := u64_rem p1 5 (by decide)
  rw [show ((6 : Nat) : Int) = 6 from rfl] at hu
  rw [show ((5 : Nat) : Int) = 5 from rfl] at hv
  have wu : IntKind.i64.wrap (u : Int) = (u : Int) := IntWalk.i64_in _ (by omega)
  have wv : IntKind.i64.wrap (v : Int) = (v : Int) := IntWalk.i64_in _ (by omega)
  obtain ⟨k, hk⟩ : ∃ k, k = u + 1 := ⟨_, rfl⟩
  obtain ⟨m, hm⟩ : ∃ m, m = v + 1 := ⟨_, rfl⟩
  have wu1 : IntKind.i64.wrap (1 + (u : Int)) = (k : Int) := by rw [IntWalk.i64_in _ (by omega)]; omega
  have wv1 : IntKind.i64.wrap (1 + (v : Int)) = (m : Int) := by rw [IntWalk.i64_in _ (by omega)]; omega
  have HK : Hid (1 ≤ k ∧ k ≤ 6) := Lib.hid (by omega)
  have HM : Hid (1 ≤ m ∧ m ≤ 5) := Lib.hid (by omega)
  have lk : k ≤ 6 := by omega
  have lm : m ≤ 5 := by omega
  clear hk hm
  go_enter Try.func8, Try.ntmps8
  go_wp2_with fail
  refine HNEW.out.mono ?_
  rintro e w1 ⟨rfl, hb1⟩
  have HB1 := Lib.hid hb1
  clear hb1
  go_wp2_with fail
  obtain ⟨hx1, hn1, hz1⟩ := one_box (w := w1) (.cells #[.bool false, .int .i64 1, .slice none 0 0, .slice none 0 0, .slice none 0 0] 26)
  have HB := Lib.hid (HB1.out.trans (hn1.mono HB1.out.size))
  have HX1 := Lib.hid (show Bx (w1.alloc (.cells #[.bool false, .int .i64 1, .slice none 0 0, .slice none 0 0, .slice none 0 0] 26)) w1.heap.size none 0 none 0 none 0 (lckT k m (k * 0)) from ⟨hx1, sd_nil _⟩)
  have hg1 : w.heap.size ≤ w1.heap.size := HB1.out.size
  generalize w1.heap.size = g at *
  clear hn1 hz1 hx1 HNEW hu hv wu wv wu1 wv1 lu lv
  go_loopg [8] m (lckRel w g (fun i => lckT k m (k * i)) m)
  case atStart => exact ⟨0, Nat.zero_le _, rfl, rfl, HB.out, none, 0, none, 0, none, 0, HX1.out⟩
  case round =>
    obtain ⟨i, hi, rfl, rfl, hb, ra, rc, ha, hc, ma, mc, hx⟩ := hrel
    have HB2 := Lib.hid hb
    have HX := Lib.hid hx
    clear HX1 HB hb hx
    by_cases hlt : i < m
    case pos =>
      have h1 : (i : Int) < (m : Int) := by omega
      have h2 : IntKind.i64.wrap ((i : Int) + 1) = (i : Int) + 1 := IntWalk.i64_in _ (by omega)
      go_wp2_with fail
      go_loopg [9] k (lckRel w g (fun j => lckT k m (k * i + j)) k)
      case atStart => exact ⟨0, Nat.zero_le _, rfl, rfl, HB2.out, _, _, _, _, _, _, HX.out⟩
      case round =>
        obtain ⟨j, hj, rfl, rfl, hb, ra, rc, ha, hc, ma, mc, hx⟩ := hrel
        clear HB2 HX
        have HB2 := Lib.hid hb
        have HX := Lib.hid hx
        clear hb hx
        by_cases hjt : j < k
        case pos =>
          have h3 : (j : Int) < (k : Int) := by omega
          have h4 : IntKind.i64.wrap ((j : Int) + 1) = (j : Int) + 1 := IntWalk.i64_in _ (by omega)
          have HNM := Lib.hid (show ∀ wx, Calls Try.prog 42 #[.int .i64 (j : Int)] wx fun e w' => e = .returned (.string ⟨(nmF j).toArray⟩) ∧ wx = w' from fun wx => name_any j (by omega) wx)
          have HCALL := Lib.hid fun (ra : Option Addr) (rc : Nat) (ha : Option Addr) (hc : Nat) (ma : Option Addr) (mc : Nat) gm wx hs h => lck_call HK.out HM.out i j hlt hjt ra rc ha hc ma mc gm wx hs h
          simp only at HX
          obtain ⟨⟨x0, x1, x2, x3, x4⟩, xf0, xf1, xf2, xf3, xf4⟩ := box5 HX.out.bx
          obtain ⟨g0, g1, g2⟩ := box_lt HX.out.bx
          go_upto_region 9 with fail
          go_cut [10, 11] from 43 to 53 (fun vp vc wx => ∃ (gp : Nat) (ra6 : Option Addr) (rc6 : Nat) (ha6 : Option Addr) (hc6 : Nat) (ma6 : Option Addr) (mc6 : Nat), vp = .pointer (some ⟨gp, 0, none⟩) ∧ vc = .int .i64 0 ∧ Bx wx gp ra6 rc6 ha6 hc6 ma6 mc6 (lckT k m (k * i + (j + 1))) ∧ Below wr.heap.size wr wx ∧ wr.heap.size ≤ gp)
          case first =>
            have HSK := Lib.hid (fun (wz : World) (k9 : Below wr.heap.size wr wz) => (box5 (box_bl HX.out.bx k9)).1)
            have hSS := HSK.out _ (Below.refl _ _)
            have HK0 : Hid (Below wr.heap.size wr wr.drew) := Lib.hid (Below.refl _ _).drew
            have HK1 : Hid (Below wr.heap.size wr (wr.alloc (.cells #[.bool false, .int .i64 0, .slice none 0 0, .slice none 0 0, .slice none 0 0] 26)).drew) := Lib.hid ((Below.refl _ _).alloc (Nat.le_refl _) _).drew
            have HK1b : Hid (Below wr.heap.size wr (wr.drew.alloc (.cells #[.bool false, .int .i64 0, .slice none 0 0, .slice none 0 0, .slice none 0 0] 26))) := Lib.hid ((Below.refl _ _).drew.alloc (Nat.le_refl _) _)
            have HK2 : Hid (Below wr.heap.size wr (wr.alloc (.cells #[.int .i64 1, .int .i64 ((i : Int) + 1), .string ⟨(nmF j).toArray⟩, .string ⟨#[]⟩, .bool false] 35)).drew) := Lib.hid ((Below.refl _ _).alloc (Nat.le_refl _) _).drew
            have HK3 : Hid (Below wr.heap.size wr ((wr.alloc (.cells #[.bool false, .int .i64 0, .slice none 0 0, .slice none 0 0, .slice none 0 0] 26)).alloc (.cells #[.int .i64 1, .int .i64 ((i : Int) + 1), .string ⟨(nmF j).toArray⟩, .string ⟨#[]⟩, .bool false] 35)).drew) := Lib.hid (low_al ((Below.refl _ _).alloc (Nat.le_refl _) _) (Nat.le_refl _) _).drew
            have HK4 : Hid (Below wr.heap.size wr ((wr.alloc (.cells #[.int .i64 1, .int .i64 ((i : Int) + 1), .string ⟨(nmF j).toArray⟩, .string ⟨#[]⟩, .bool false] 35)).alloc (.cells #[.bool false, .int .i64 0, .slice none 0 0, .slice none 0 0, .slice none 0 0] 26)).drew) := Lib.hid (low_al ((Below.refl _ _).alloc (Nat.le_refl _) _) (Nat.le_refl _) _).drew
            have HM2 : Hid (((wr.alloc (.cells #[.int .i64 1, .int .i64 ((i : Int) + 1), .string ⟨(nmF j).toArray⟩, .string ⟨#[]⟩, .bool false] 35)).drew).heap[wr.heap.size]? = some (.cells #[.int .i64 1, .int .i64 ((i : Int) + 1), .string ⟨(nmF j).toArray⟩, .string ⟨#[]⟩, .bool false] 35 (0, 0))) := Lib.hid (heap_alloc_new wr _)
            have HM3 : Hid ((((wr.alloc (.cells #[.bool false, .int .i64 0, .slice none 0 0, .slice none 0 0, .slice none 0 0] 26)).alloc (.cells #[.int .i64 1, .int .i64 ((i : Int) + 1), .string ⟨(nmF j).toArray⟩, .string ⟨#[]⟩, .bool false] 35)).drew).heap[wr.heap.size + 1]? = some (.cells #[.int .i64 1, .int .i64 ((i : Int) + 1), .string ⟨(nmF j).toArray⟩, .string ⟨#[]⟩, .bool false] 35 (0, 0)) ∧ (((wr.alloc (.cells #[.bool false, .int .i64 0, .slice none 0 0, .slice none 0 0, .slice none 0 0] 26)).alloc (.cells #[.int .i64 1, .int .i64 ((i : Int) + 1), .string ⟨(nmF j).toArray⟩, .string ⟨#[]⟩, .bool false] 35)).drew).heap[wr.heap.size]? = some (.cells #[.bool false, .int .i64 0, .slice none 0 0, .slice none 0 0, .slice none 0 0] 26 (0, 0))) := Lib.hid ⟨(two_box (w := wr) (.cells #[.bool false, .int .i64 0, .slice none 0 0, .slice none 0 0, .slice none 0 0] 26) (.cells #[.int .i64 1, .int .i64 ((i : Int) + 1), .string ⟨(nmF j).toArray⟩, .string ⟨#[]⟩, .bool false] 35)).2.1, (two_box (w := wr) (.cells #[.bool false, .int .i64 0, .slice none 0 0, .slice none 0 0, .slice none 0 0] 26) (.cells #[.int .i64 1, .int .i64 ((i : Int) + 1), .string ⟨(nmF j).toArray⟩, .string ⟨#[]⟩, .bool false] 35)).1⟩
            have HM4 : Hid ((((wr.alloc (.cells #[.int .i64 1, .int .i64 ((i : Int) + 1), .string ⟨(nmF j).toArray⟩, .string ⟨#[]⟩, .bool false] 35)).alloc (.cells #[.bool false, .int .i64 0, .slice none 0 0, .slice none 0 0, .slice none 0 0] 26)).drew).heap[wr.heap.size]? = some (.cells #[.int .i64 1, .int .i64 ((i : Int) + 1), .string ⟨(nmF j).toArray⟩, .string ⟨#[]⟩, .bool false] 35 (0, 0)) ∧ (((wr.alloc (.cells #[.int .i64 1, .int .i64 ((i : Int) + 1), .string ⟨(nmF j).toArray⟩, .string ⟨#[]⟩, .bool false] 35)).alloc (.cells #[.bool false, .int .i64 0, .slice none 0 0, .slice none 0 0, .slice none 0 0] 26)).drew).heap[wr.heap.size + 1]? = some (.cells #[.bool false, .int .i64 0, .slice none 0 0, .slice none 0 0, .slice none 0 0] 26 (0, 0))) := Lib.hid ⟨(two_box (w := wr) (.cells #[.int .i64 1, .int .i64 ((i : Int) + 1), .string ⟨(nmF j).toArray⟩, .string ⟨#[]⟩, .bool false] 35) (.cells #[.bool false, .int .i64 0, .slice none 0 0, .slice none 0 0, .slice none 0 0] 26)).1, (two_box (w := wr) (.cells #[.int .i64 1, .int .i64 ((i : Int) + 1), .string ⟨(nmF j).toArray⟩, .string ⟨#[]⟩, .bool false] 35) (.cells #[.bool false, .int .i64 0, .slice none 0 0, .slice none 0 0, .slice none 0 0] 26)).2.1⟩
            have hs3 : wr.heap.size < (((wr.alloc (.cells #[.bool false, .int .i64 0, .slice none 0 0, .slice none 0 0, .slice none 0 0] 26)).alloc (.cells #[.int .i64 1, .int .i64 ((i : Int) + 1), .string ⟨(nmF j).toArray⟩, .string ⟨#[]⟩, .bool false] 35)).drew).heap.size ∧ wr.heap.size + 1 < (((wr.alloc (.cells #[.int .i64 1, .int .i64 ((i : Int) + 1), .string ⟨(nmF j).toArray⟩, .string ⟨#[]⟩, .bool false] 35)).alloc (.cells #[.bool false, .int .i64 0, .slice none 0 0, .slice none 0 0, .slice none 0 0] 26)).drew).heap.size := by have a1 := (two_box (w := wr) (.cells #[.bool false, .int .i64 0, .slice none 0 0, .slice none 0 0, .slice none 0 0] 26) (.cells #[.int .i64 1, .int .i64 ((i : Int) + 1), .string ⟨(nmF j).toArray⟩, .string ⟨#[]⟩, .bool false] 35)).2.2.2; have a2 := (two_box (w := wr) (.cells #[.int .i64 1, .int .i64 ((i : Int) + 1), .string ⟨(nmF j).toArray⟩, .string ⟨#[]⟩, .bool false] 35) (.cells #[.bool false, .int .i64 0, .slice none 0 0, .slice none 0 0, .slice none 0 0] 26)).2.2.2; exact ⟨by show _ < ((wr.alloc (.cells #[.bool false, .int .i64 0, .slice none 0 0, .slice none 0 0, .slice none 0 0] 26)).alloc (.cells #[.int .i64 1, .int .i64 ((i : Int) + 1), .string ⟨(nmF j).toArray⟩, .string ⟨#[]⟩, .bool false] 35)).heap.size; omega, by show _ < ((wr.alloc (.cells #[.int .i64 1, .int .i64 ((i : Int) + 1), .string ⟨(nmF j).toArray⟩, .string ⟨#[]⟩, .bool false] 35)).alloc (.cells #[.bool false, .int .i64 0, .slice none 0 0, .slice none 0 0, .slice none 0 0] 26)).heap.size; omega⟩
            have HS3 := Lib.hid hs3
            clear hs3
            go_region_held3 (fun wx => (wx.cell? ⟨g, 0, none⟩ = some (.bool (lckT k m (k * i + j)).fr) ∧ wx.cell? ⟨g, 1, none⟩ = some (.int .i64 (lckT k m (k * i + j)).nx) ∧ wx.cell? ⟨g, 2, none⟩ = some (.slice ra (lckT k m (k * i + j)).rd.length rc) ∧ wx.cell? ⟨g, 3, none⟩ = some (.slice ha (lckT k m (k * i + j)).hd.length hc) ∧ wx.cell? ⟨g, 4, none⟩ = some (.slice ma (lckT k m (k * i + j)).ms.length mc)))
              (first | (refine HSK.out _ ?_; first | with_reducible exact HK0.out | with_reducible exact HK1.out | with_reducible exact HK1b.out | with_reducible exact HK2.out | with_reducible exact HK3.out | with_reducible exact HK4.out | with_reducible exact HB7.out | with_reducible exact Below.refl _ _ | with_reducible exact low_al HB7.out (Nat.le_refl _) _ | exact set5_below HB7.out (Nat.le_refl _) _ _ _ _ _ | exact set5_below HB7.out (Nat.le_succ _) _ _ _ _ _))
              (first |
              (go_at_call 42; refine (HNM.out _).mono ?_; rintro e w6 ⟨rfl, rfl⟩; dsimp only) |
              (go_at_call 20; have hh := HCALL.out _ _ _ _ _ _ (wr.heap.size) ((wr.alloc (.cells #[.int .i64 1, .int .i64 ((i : Int) + 1), .string ⟨(nmF j).toArray⟩, .string ⟨#[]⟩, .bool false] 35)).drew) (HX.out.sd.below _ _ _ _ _ _ HK2.out) HM2.out; (with_reducible refine hh.mono ?_); clear hh; rintro e w7 ⟨ra6, rc6, ha6, hc6, ma6, mc6, rfl, ho7, hsm7, hb7⟩; have HB7 : Hid (Below wr.heap.size wr w7) := Lib.hid (HK2.out.trans (hb7.mono HK2.out.size)); have HS7 := Lib.hid (ho7.sd _ _ _ _ _ _ hsm7); clear ho7 hsm7 hb7; dsimp only) |
              (go_at_call 20; have hh := HCALL.out _ _ _ _ _ _ (wr.heap.size + 1) (((wr.alloc (.cells #[.bool false, .int .i64 0, .slice none 0 0, .slice none 0 0, .slice none 0 0] 26)).alloc (.cells #[.int .i64 1, .int .i64 ((i : Int) + 1), .string ⟨(nmF j).toArray⟩, .string ⟨#[]⟩, .bool false] 35)).drew) (HX.out.sd.below _ _ _ _ _ _ HK3.out) HM3.out.1; (with_reducible refine hh.mono ?_); clear hh; rintro e w7 ⟨ra6, rc6, ha6, hc6, ma6, mc6, rfl, ho7, hsm7, hb7⟩; have HB7 : Hid (Below wr.heap.size wr w7) := Lib.hid (HK3.out.trans (hb7.mono HK3.out.size)); have hz7 := box_bl HM3.out.2 hb7; obtain ⟨⟨u0, u1, u2, u3, u4⟩, r0, r1, r2, r3, r4⟩ := box5 hz7; have HZ7 := Lib.hid (bx_store _ _ _ _ _ _ HB7.out (Nat.le_refl _) HS3.out.1 ho7 hsm7 hz7); clear hz7; have HS7 := Lib.hid (ho7.sd _ _ _ _ _ _ hsm7); clear ho7 hsm7 hb7; dsimp only) |
              (go_at_call 20; have hh := HCALL.out _ _ _ _ _ _ (wr.heap.size) (((wr.alloc (.cells #[.int .i64 1, .int .i64 ((i : Int) + 1), .string ⟨(nmF j).toArray⟩, .string ⟨#[]⟩, .bool false] 35)).alloc (.cells #[.bool false, .int .i64 0, .slice none 0 0, .slice none 0 0, .slice none 0 0] 26)).drew) (HX.out.sd.below _ _ _ _ _ _ HK4.out) HM4.out.1; (with_reducible refine hh.mono ?_); clear hh; rintro e w7 ⟨ra6, rc6, ha6, hc6, ma6, mc6, rfl, ho7, hsm7, hb7⟩; have HB7 : Hid (Below wr.heap.size wr w7) := Lib.hid (HK4.out.trans (hb7.mono HK4.out.size)); have hz7 := box_bl HM4.out.2 hb7; obtain ⟨⟨u0, u1, u2, u3, u4⟩, r0, r1, r2, r3, r4⟩ := box5 hz7; have HZ7 := Lib.hid (bx_store _ _ _ _ _ _ HB7.out (Nat.le_succ _) HS3.out.2 ho7 hsm7 hz7); clear hz7; have HS7 := Lib.hid (ho7.sd _ _ _ _ _ _ hsm7); clear ho7 hsm7 hb7; dsimp only) |
              fail)
            all_goals
              go_wp2_with fail
              go_meet
              case rel => first | exact ⟨_, _, _, _, _, _, _, rfl, rfl, HZ7.out.2, HZ7.out.1, by omega⟩ | exact ⟨_, _, _, _, _, _, _, rfl, rfl, ⟨heap_alloc_new w7 _, sd_al _ _ _ _ _ _ HS7.out _⟩, low_al HB7.out (Nat.le_refl _) _, HB7.out.size⟩
          case rest =>
          obtain ⟨gp, ra6, rc6, ha6, hc6, ma6, mc6, rfl, rfl, hx6, hb6, hgp⟩ := hcut
          have HX6 := Lib.hid hx6
          have HB6 := Lib.hid hb6
          have HXg := Lib.hid (HX.out.below _ _ _ _ _ _ hb6)
          clear x0 x1 x2 x3 x4 xf0 xf1 xf2 xf3 xf4 g0 g1 g2 hx6 hb6
          obtain ⟨⟨x0, x1, x2, x3, x4⟩, xf0, xf1, xf2, xf3, xf4⟩ := box5 HXg.out.bx
          obtain ⟨⟨y0, y1, y2, y3, y4⟩, -⟩ := box5 HX6.out.bx
          go_wp2_with fail
          have HMV := Lib.hid (bx_move _ _ _ _ _ _ _ _ _ _ _ _ (HB2.out.trans (HB6.out.mono HB2.out.size)) hg1 HXg.out HX6.out)
          go_roundg (k - (j + 1))
          case measure => omega
          case rel => exact ⟨j + 1, by omega, rfl, by go_num, HMV.out.1, _, _, _, _, _, _, HMV.out.2⟩
        case neg =>
          obtain rfl : j = k := by omega
          have h3 : ¬ ((j : Int) < (j : Int)) := by omega
          go_wp2_with fail
          go_roundg (m - (i + 1))
          case measure => omega
          case rel => exact ⟨i + 1, by omega, rfl, by go_num, HB2.out, _, _, _, _, _, _, by simp only [Nat.mul_succ]; exact HX.out⟩
    case neg =>
      obtain rfl : i = m := by omega
      have h1 : ¬ ((i : Int) < (i : Int)) := by omega
      go_wp2_with fail
      have HX1 := Lib.hid (show Bx wr g ra rc ha hc ma mc (lckT k i (lckN k i 0)) from by rw [lck_start]; exact HX.out)
      clear HX
      go_loopg [12] i (lckRel w g (fun n => lckT k i (lckN k i n)) i)
      case atStart => exact ⟨0, Nat.zero_le _, rfl, rfl, HB2.out, _, _, _, _, _, _, HX1.out⟩
      case round =>
        obtain ⟨n, hn, rfl, rfl, hb, ra, rc, ha, hc, ma, mc, hx⟩ := hrel
        clear HX1 HB2
        have HB2 := Lib.hid hb
        have HX := Lib.hid hx
        clear hb hx
        simp only at HX
        by_cases hnt : n < i
        case pos =>
          have h5 : (n : Int) < (i : Int) := by omega
          have h6 : IntKind.i64.wrap ((n : Int) + 1) = (n : Int) + 1 := IntWalk.i64_in _ (by omega)
          go_wp2_with fail
          go_loopg [13] k (lckRel w g (fun j => lckT k i (lckN k i n + j)) k)
          case atStart => exact ⟨0, Nat.zero_le _, rfl, rfl, HB2.out, _, _, _, _, _, _, HX.out⟩
          case round =>
            obtain ⟨j, hj, rfl, rfl, hb, ra, rc, ha, hc, ma, mc, hx⟩ := hrel
            clear HX HB2
            have HB2 := Lib.hid hb
            have HX := Lib.hid hx
            clear hb hx
            simp only at HX
            obtain ⟨⟨x0, x1, x2, x3, x4⟩, xf0, xf1, xf2, xf3, xf4⟩ := box5 HX.out.bx
            obtain ⟨g0, g1, g2⟩ := box_lt HX.out.bx
            by_cases hjt : j < k
            case pos =>
              have h3 : (j : Int) < (k : Int) := by omega
              have h4 : IntKind.i64.wrap ((j : Int) + 1) = (j : Int) + 1 := IntWalk.i64_in _ (by omega)
              have HNM := Lib.hid (show ∀ wx, Calls Try.prog 42 #[.int .i64 (j : Int)] wx fun e w' => e = .returned (.string ⟨(nmF j).toArray⟩) ∧ wx = w' from fun wx => name_any j (by omega) wx)
              have HGT := Lib.hid (get_any _ ra rc ha hc ma mc wr HX.out.sd)
              obtain ⟨e1, e2, e3, e4⟩ := lck_get HK.out HM.out n j hnt hjt
              unfold GetR at HGT
              rw [e1, ← e4] at HGT
              generalize getH (lckT k i (lckN k i n + j)) = H at *
              have HE := Lib.hid (And.intro e2 e3)
              clear e1 e2 e3 e4
              go_upto_region 20 with (go_at_call 22; (with_reducible refine HGT.out.mono ?_); rintro e w7 ⟨ra6, rc6, ha6, hc6, ma6, mc6, rfl, ho7, hsm7, hb7⟩; have HB7 := Lib.hid hb7; have HS7 := Lib.hid (ho7.sd _ _ _ _ _ _ hsm7); clear ho7 hsm7 hb7; rw [HE.out.1, HE.out.2])
              obtain ⟨t1, t2, t3, t4⟩ := two_box (w := w7) (.cells #[.bool (lckT k i (lckN k i n + (j + 1))).fr, .int .i64 (lckT k i (lckN k i n + (j + 1))).nx, .slice ra6 (lckT k i (lckN k i n + (j + 1))).rd.length rc6, .slice ha6 (lckT k i (lckN k i n + (j + 1))).hd.length hc6, .slice ma6 (lckT k i (lckN k i n + (j + 1))).ms.length mc6] 26) (.cells #[.int .i64 H.tag, .int .i64 H.m.pub, .int .i64 ((n : Int) + 1), .string ⟨(nmF j).toArray⟩, .string ⟨H.m.body.toArray⟩, .bool H.m.again] 37)
              have hx8 := sd_al _ _ _ _ _ _ (sd_al _ _ _ _ _ _ HS7.out (.cells #[.bool (lckT k i (lckN k i n + (j + 1))).fr, .int .i64 (lckT k i (lckN k i n + (j + 1))).nx, .slice ra6 (lckT k i (lckN k i n + (j + 1))).rd.length rc6, .slice ha6 (lckT k i (lckN k i n + (j + 1))).hd.length hc6, .slice ma6 (lckT k i (lckN k i n + (j + 1))).ms.length mc6] 26)) (.cells #[.int .i64 H.tag, .int .i64 H.m.pub, .int .i64 ((n : Int) + 1), .string ⟨(nmF j).toArray⟩, .string ⟨H.m.body.toArray⟩, .bool H.m.again] 37)
              generalize (w7.alloc (.cells #[.bool (lckT k i (lckN k i n + (j + 1))).fr, .int .i64 (lckT k i (lckN k i n + (j + 1))).nx, .slice ra6 (lckT k i (lckN k i n + (j + 1))).rd.length rc6, .slice ha6 (lckT k i (lckN k i n + (j + 1))).hd.length hc6, .slice ma6 (lckT k i (lckN k i n + (j + 1))).ms.length mc6] 26)).alloc (.cells #[.int .i64 H.tag, .int .i64 H.m.pub, .int .i64 ((n : Int) + 1), .string ⟨(nmF j).toArray⟩, .string ⟨H.m.body.toArray⟩, .bool H.m.again] 37) = W8 at *
              have HX8 := Lib.hid (show Bx W8 w7.heap.size ra6 rc6 ha6 hc6 ma6 mc6 (lckT k i (lckN k i n + (j + 1))) from ⟨t1, hx8⟩)
              have HB8 := Lib.hid (HB7.out.trans (t3.mono HB7.out.size))
              have HZ8 := Lib.hid t2
              have y0 := fun q : Und W8 => (box6 (box_bl HZ8.out q.hb)).1.1
              have y1 := fun q : Und W8 => (box6 (box_bl HZ8.out q.hb)).1.2.1
              have y2 := fun q : Und W8 => (box6 (box_bl HZ8.out q.hb)).1.2.2.1
              have y3 := fun q : Und W8 => (box6 (box_bl HZ8.out q.hb)).1.2.2.2.1
              have y4 := fun q : Und W8 => (box6 (box_bl HZ8.out q.hb)).1.2.2.2.2.1
              have y5 := fun q : Und W8 => (box6 (box_bl HZ8.out q.hb)).1.2.2.2.2.2
              have HNA := Lib.hid fun q : Und W8 => (HNM.out q.wx).mono fun e w' (h : e = .returned (.string ⟨(nmF j).toArray⟩) ∧ q.wx = w') => And.intro h.1 (show Below q.wx.heap.size q.wx w' from h.2 ▸ Below.refl _ _)
              clear t1 t2 t3 t4 hx8
              (refine wp_region_quiet_below (by assumption) (by kernel_rfl) ?_; (try dsimp only [List.append]); (repeat (go_big_quiet_step (first | (go_at_call 42; with_reducible exact Calls.below_of (HNA.out _))))); refine wpQuiet_nil ?_; intro _ hw'; obtain ⟨wq, hw''⟩ := hw'; subst hw''; have HBQ := Lib.hid wq.hb)
              clear y0 y1 y2 y3 y4 y5 HNA x0 x1 x2 x3 x4 xf0 xf1 xf2 xf3 xf4
              have HX9 := Lib.hid (HX8.out.below _ _ _ _ _ _ HBQ.out)
              have HXg := Lib.hid (HX.out.below _ _ _ _ _ _ (HB8.out.trans (HBQ.out.mono HB8.out.size)))
              have HB9 := Lib.hid (HB2.out.trans ((HB8.out.trans (HBQ.out.mono HB8.out.size)).mono HB2.out.size))
              obtain ⟨⟨x0, x1, x2, x3, x4⟩, xf0, xf1, xf2, xf3, xf4⟩ := box5 HXg.out.bx
              obtain ⟨⟨y0, y1, y2, y3, y4⟩, -⟩ := box5 HX9.out.bx
              go_wp2_with fail
              have HMV := Lib.hid (bx_move _ _ _ _ _ _ _ _ _ _ _ _ HB9.out hg1 HXg.out HX9.out)
              go_roundg (k - (j + 1))
              case measure => omega
              case rel => exact ⟨j + 1, by omega, rfl, by go_num, HMV.out.1, _, _, _, _, _, _, HMV.out.2⟩
            case neg =>
              obtain rfl : j = k := by omega
              have h3 : ¬ ((j : Int) < (j : Int)) := by omega
              have HGT := Lib.hid (get_any _ ra rc ha hc ma mc wr HX.out.sd)
              obtain ⟨e1, e2, -, -⟩ := lck_ack HK.out HM.out n 0 hnt (by have := HK.out; omega)
              have e2 := e2 rfl
              rw [Nat.add_zero] at e1 e2
              unfold GetR at HGT
              rw [e2] at HGT
              have e5 : (((lckT j i (lckN j i n + j)).hd.length : Int) != (j : Int)) = false := by rw [bne_eq_false_iff_eq]; omega
              clear e1 e2
              go_wp2_with (go_at_call 22; (with_reducible refine HGT.out.mono ?_); rintro e w7 ⟨ra6, rc6, ha6, hc6, ma6, mc6, rfl, -, -, hb7⟩; have HB7 := Lib.hid hb7; have hxg := HX.out.below _ _ _ _ _ _ hb7; clear x0 x1 x2 x3 x4 xf0 xf1 xf2 xf3 xf4 g0 g1 g2; obtain ⟨⟨x0, x1, x2, x3, x4⟩, -⟩ := box5 hxg.bx; obtain ⟨g0, g1, g2⟩ := box_lt hxg.bx; clear hxg hb7)
              have hx7 := (HX.out.below _ _ _ _ _ _ HB7.out).below _ _ _ _ _ _ (two_box (w := w7) (.cells #[.bool (getS (lckT j i (lckN j i n + j))).fr, .int .i64 (getS (lckT j i (lckN j i n + j))).nx, .slice ra6 (getS (lckT j i (lckN j i n + j))).rd.length rc6, .slice ha6 (getS (lckT j i (lckN j i n + j))).hd.length hc6, .slice ma6 (getS (lckT j i (lckN j i n + j))).ms.length mc6] 26) (.cells #[.int .i64 (getH (lckT j i (lckN j i n + j))).tag, .int .i64 ((getH (lckT j i (lckN j i n + j))).m).pub, .int .i64 ((getH (lckT j i (lckN j i n + j))).m).seq, .string ⟨((getH (lckT j i (lckN j i n + j))).m).key.toArray⟩, .string ⟨((getH (lckT j i (lckN j i n + j))).m).body.toArray⟩, .bool ((getH (lckT j i (lckN j i n + j))).m).again] 37)).2.2.1
              have hb9 := (HB2.out.trans (HB7.out.mono HB2.out.size)).trans ((two_box (w := w7) (.cells #[.bool (getS (lckT j i (lckN j i n + j))).fr, .int .i64 (getS (lckT j i (lckN j i n + j))).nx, .slice ra6 (getS (lckT j i (lckN j i n + j))).rd.length rc6, .slice ha6 (getS (lckT j i (lckN j i n + j))).hd.length hc6, .slice ma6 (getS (lckT j i (lckN j i n + j))).ms.length mc6] 26) (.cells #[.int .i64 (getH (lckT j i (lckN j i n + j))).tag, .int .i64 ((getH (lckT j i (lckN j i n + j))).m).pub, .int .i64 ((getH (lckT j i (lckN j i n + j))).m).seq, .string ⟨((getH (lckT j i (lckN j i n + j))).m).key.toArray⟩, .string ⟨((getH (lckT j i (lckN j i n + j))).m).body.toArray⟩, .bool ((getH (lckT j i (lckN j i n + j))).m).again] 37)).2.2.1.mono (Nat.le_trans HB2.out.size HB7.out.size))
              have HX7 := Lib.hid hx7
              have HB9 := Lib.hid hb9
              clear hx7 hb9 x0 x1 x2 x3 x4 g0 g1 g2
              go_loopg [] j (lckRelE w g (fun a => lckT j i (lckN j i n + j + a)) j)
              case atStart => exact ⟨0, Nat.zero_le _, rfl, HB9.out, _, _, _, _, _, _, HX7.out⟩
              case round =>
                clear HX7 HB9 HX HB2
                obtain ⟨a, ha9, rfl, hb, ra, rc, ha, hc, ma, mc, hx⟩ := hrel
                have HB2 := Lib.hid hb
                have HX := Lib.hid hx
                clear hb hx
                simp only at HX
                obtain ⟨⟨x0, x1, x2, x3, x4⟩, xf0, xf1, xf2, xf3, xf4⟩ := box5 HX.out.bx
                obtain ⟨g0, g1, g2⟩ := box_lt HX.out.bx
                by_cases hat : a < j
                case pos =>
                  obtain ⟨e1, -, e3, e4⟩ := lck_ack HK.out HM.out n a hnt hat
                  have h0 : 0 < (lckT j i (lckN j i n + j + a)).hd.length := by omega
                  have h0i : (0 : Int) < ((lckT j i (lckN j i n + j + a)).hd.length : Int) := by omega
                  have htg : hdT (lckT j i (lckN j i n + j + a)) = (lckT j i (lckN j i n + j + a)).hd[0].tag := by unfold hdT; rw [List.getElem?_eq_getElem h0]; rfl
                  rw [htg] at e3 e4
                  obtain ⟨hb9, ho9, rfl, e0, -⟩ := HdsAt.get HX.out.sd.hd 0 h0
                  rw [show ho9 + 0 * 6 = ho9 by omega] at e0
                  generalize (lckT j i (lckN j i n + j + a)).hd[0].tag = tg at *
                  have HNK := Lib.hid (And.intro e3 e4)
                  clear e1 e3 e4 htg
                  generalize lckT j i (lckN j i n + j + a) = F at *
                  go_upto_region 27 with fail
                  go_cut [20, 21] from 111 to 120 (fun vp vc wx => ∃ (gp : Nat) (ra6 : Option Addr) (rc6 : Nat) (ha6 : Option Addr) (hc6 : Nat) (ma6 : Option Addr) (mc6 : Nat), vp = .pointer (some ⟨gp, 0, none⟩) ∧ vc = .int .i64 0 ∧ Bx wx gp ra6 rc6 ha6 hc6 ma6 mc6 (ackS F tg) ∧ Below wr.heap.size wr wx ∧ wr.heap.size ≤ gp)
                  case first =>
                    have HSK := Lib.hid (fun (wz : World) (k : Below wr.heap.size wr wz) => And.intro (box5 (box_bl HX.out.bx k)).1 ((k.cell (p := ⟨hb9, ho9, none⟩) (lt_of_cell e0)).trans e0))
                    have hSS := HSK.out _ (Below.refl _ _)
                    have HDR : Hid (Below wr.heap.size wr wr.drew) := Lib.hid (Below.refl _ _).drew
                    have HDA : Hid (Below wr.heap.size wr (wr.alloc (.cells #[.bool false, .int .i64 0, .slice none 0 0, .slice none 0 0, .slice none 0 0] 26)).drew) := Lib.hid ((Below.refl _ _).alloc (Nat.le_refl _) _).drew
                    have HDB : Hid (Below wr.heap.size wr (wr.drew.alloc (.cells #[.bool false, .int .i64 0, .slice none 0 0, .slice none 0 0, .slice none 0 0] 26))) := Lib.hid ((Below.refl _ _).drew.alloc (Nat.le_refl _) _)
                    have hlt9 : wr.heap.size < (wr.alloc (.cells #[.bool false, .int .i64 0, .slice none 0 0, .slice none 0 0, .slice none 0 0] 26)).drew.heap.size := by show _ < (wr.alloc (.cells #[.bool false, .int .i64 0, .slice none 0 0, .slice none 0 0, .slice none 0 0] 26)).heap.size; simp
                    go_region_held3 (fun wx => ((wx.cell? ⟨g, 0, none⟩ = some (.bool F.fr) ∧ wx.cell? ⟨g, 1, none⟩ = some (.int .i64 F.nx) ∧ wx.cell? ⟨g, 2, none⟩ = some (.slice ra F.rd.length rc) ∧ wx.cell? ⟨g, 3, none⟩ = some (.slice (some ⟨hb9, ho9, none⟩) F.hd.length hc) ∧ wx.cell? ⟨g, 4, none⟩ = some (.slice ma F.ms.length mc)) ∧ wx.cell? ⟨hb9, ho9, none⟩ = some (.int .i64 tg)))
                      (first | (refine HSK.out _ ?_; first | with_reducible exact HDR.out | with_reducible exact HDA.out | with_reducible exact HDB.out | with_reducible exact HB7.out | with_reducible exact Below.refl _ _ | with_reducible exact low_al HB7.out (Nat.le_refl _) _ | exact set5_below HB7.out (Nat.le_refl _) _ _ _ _ _))
                      (first | (go_at_call 27; (with_reducible refine (ack_any F tg _ _ _ _ _ _ _ (HX.out.sd.below _ _ _ _ _ _ (by first | with_reducible exact HDR.out | with_reducible exact HDA.out | with_reducible exact HDB.out))).mono ?_); rintro e w7 ⟨ra6, rc6, ha6, hc6, ma6, mc6, rfl, ho7, hsm7, hb7⟩; rw [HNK.out.1]; have HB7 : Hid (Below wr.heap.size wr w7) := Lib.hid (by first | with_reducible exact HDR.out.trans (hb7.mono HDR.out.size) | with_reducible exact HDA.out.trans (hb7.mono HDA.out.size) | with_reducible exact HDB.out.trans (hb7.mono HDB.out.size)); (try (have hz7 : w7.heap[wr.heap.size]? = some (.cells #[.bool false, .int .i64 0, .slice none 0 0, .slice none 0 0, .slice none 0 0] 26 (0, 0)) := (by first | with_reducible exact box_bl (w := (wr.alloc (.cells #[.bool false, .int .i64 0, .slice none 0 0, .slice none 0 0, .slice none 0 0] 26)).drew) (heap_alloc_new wr (.cells #[.bool false, .int .i64 0, .slice none 0 0, .slice none 0 0, .slice none 0 0] 26)) hb7 | with_reducible exact box_bl (heap_alloc_new wr.drew (.cells #[.bool false, .int .i64 0, .slice none 0 0, .slice none 0 0, .slice none 0 0] 26)) hb7); obtain ⟨⟨u0, u1, u2, u3, u4⟩, r0, r1, r2, r3, r4⟩ := box5 hz7; have HZ7 := Lib.hid (bx_store _ _ _ _ _ _ HB7.out (Nat.le_refl _) hlt9 ho7 hsm7 hz7); clear hz7)); have HS7 := Lib.hid (ho7.sd _ _ _ _ _ _ hsm7); clear ho7 hsm7 hb7; dsimp only) | fail)
                    all_goals
                      go_wp2_with fail
                      go_meet
                      case rel => first | exact ⟨_, _, _, _, _, _, _, rfl, rfl, HZ7.out.2, HZ7.out.1, Nat.le_refl _⟩ | exact ⟨_, _, _, _, _, _, _, rfl, rfl, ⟨heap_alloc_new w7 _, sd_al _ _ _ _ _ _ HS7.out _⟩, low_al HB7.out (Nat.le_refl _) _, HB7.out.size⟩
                  case rest =>
                  obtain ⟨gp, ra6, rc6, ha6, hc6, ma6, mc6, rfl, rfl, hx6, hb6, hgp⟩ := hcut
                  have HX6 := Lib.hid hx6
                  have HB6 := Lib.hid hb6
                  have HXg := Lib.hid (HX.out.below _ _ _ _ _ _ hb6)
                  clear x0 x1 x2 x3 x4 xf0 xf1 xf2 xf3 xf4 g0 g1 g2 hx6 hb6 e0
                  obtain ⟨⟨x0, x1, x2, x3, x4⟩, xf0, xf1, xf2, xf3, xf4⟩ := box5 HXg.out.bx
                  obtain ⟨⟨y0, y1, y2, y3, y4⟩, -⟩ := box5 HX6.out.bx
                  go_wp2_with fail
                  have HMV := Lib.hid (bx_move _ _ _ _ _ _ _ _ _ _ _ _ (HB2.out.trans (HB6.out.mono HB2.out.size)) hg1 HXg.out HX6.out)
                  go_roundg (j - (a + 1))
                  case measure => omega
                  case rel => exact ⟨a + 1, by omega, rfl, HMV.out.1, _, _, _, _, _, _, by show Bx _ _ _ _ _ _ _ _ (lckT j i (lckN j i n + j + (a + 1))); rw [HNK.out.2]; exact HMV.out.2⟩
                case neg =>
                  obtain rfl : a = j := by omega
                  have e1 := lck_none HK.out HM.out (n + 1) (by omega)
                  rw [lck_next] at e1
                  have h0i : ¬ (0 : Int) < ((lckT a i (lckN a i n + a + a)).hd.length : Int) := by omega
                  clear e1
                  go_wp2_with fail
                  go_roundg (i - (n + 1))
                  case measure => omega
                  case rel => exact ⟨n + 1, by omega, rfl, by go_num, HB2.out, _, _, _, _, _, _, by show Bx _ _ _ _ _ _ _ _ (lckT a i (lckN a i (n + 1))); rw [lck_next]; exact HX.out⟩
        case neg =>
          obtain rfl : n = i := by omega
          have h5 : ¬ ((n : Int) < (n : Int)) := by omega
          obtain ⟨e1, e2⟩ := lck_end HK.out HM.out
          have e3 : (((lckT k n (lckN k n n)).rd.length : Int) == 0) = true := by rw [beq_iff_eq]; omega
          have e4 : (((lckT k n (lckN k n n)).ms.length : Int) == (k : Int)) = true := by rw [beq_iff_eq]; omega
          clear e1 e2
          generalize lckT k n (lckN k n n) = F at *
          go_wp2_with (go_at_call 19; refine (HT.out wr).mono ?_; rintro e w2 ⟨rfl, hb⟩; have hx := HX.out.below _ _ _ _ _ _ hb; obtain ⟨⟨b0, b1, b2, b3, b4⟩, -⟩ := box5 hx.bx; have HB3 := Lib.hid (HB2.out.trans (hb.mono HB2.out.size)); clear hb hx)
          go_ret
          exact ⟨rfl, HB3.out⟩

end Go.Proofs.Ythohjcfpobeplaa.Sh
