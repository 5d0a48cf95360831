/-
  shard.Get, walked.
-/
import Derived.Test.YthohjcfpobeplaaShGet
namespace Go.Proofs.Ythohjcfpobeplaa.Sh
open Go.RowKit Rg Go.Sort
set_option linter.unusedVariables false
set_option linter.unusedSimpArgs false

theorem box6 {w : World} {g : Nat} {x y z u v q : Value} {t : TypeId} (h : w.heap[g]? = some (.cells #[x, y, z, u, v, q] t (0, 0))) :
    (w.cell? ⟨g, 0, none⟩ = some x ∧ w.cell? ⟨g, 1, none⟩ = some y ∧ w.cell? ⟨g, 2, none⟩ = some z ∧ w.cell? ⟨g, 3, none⟩ = some u ∧ w.cell? ⟨g, 4, none⟩ = some v ∧ w.cell? ⟨g, 5, none⟩ = some q) ∧
    w.frozen? ⟨g, 0, none⟩ = false ∧ w.frozen? ⟨g, 1, none⟩ = false ∧ w.frozen? ⟨g, 2, none⟩ = false ∧ w.frozen? ⟨g, 3, none⟩ = false ∧ w.frozen? ⟨g, 4, none⟩ = false ∧ w.frozen? ⟨g, 5, none⟩ = false := by
  refine ⟨⟨?_, ?_, ?_, ?_, ?_, ?_⟩, ?_, ?_, ?_, ?_, ?_, ?_⟩
  all_goals first | (rw [cell_of_row w _ _ _ _ _ h]; rfl) | simp [World.frozen?, h]
def GetR (s : Sd) (w : World) (e : Ending) (w' : World) : Prop :=
  ∃ ra rc ha hc ma mc, e = .returned (.tuple #[.agg #[.bool (getS s).fr, .int .i64 (getS s).nx, .slice ra (getS s).rd.length rc, .slice ha (getS s).hd.length hc, .slice ma (getS s).ms.length mc], .agg #[.int .i64 (getH s).tag, .int .i64 ((getH s).m).pub, .int .i64 ((getH s).m).seq, .string ⟨((getH s).m).key.toArray⟩, .string ⟨((getH s).m).body.toArray⟩, .bool ((getH s).m).again], .int .i64 (getC s)]) ∧ OwnS w' w.heap.size (getS s) (.slice ra (getS s).rd.length rc) (.slice ha (getS s).hd.length hc) (.slice ma (getS s).ms.length mc) ∧ ((getS s).rd.length ≤ 1000 ∧ (getS s).hd.length ≤ 1000 ∧ (getS s).ms.length ≤ 1000) ∧ Below w.heap.size w w'
theorem get_zero {s : Sd} (h : getC s = 0) : ∃ hi : getI s < s.rd.length, firI s = (getI s : Int) ∧ getH s = ⟨s.nx, s.rd[getI s]⟩ ∧ getS s = { s with nx := s.nx + 1, rd := s.rd.eraseIdx (getI s), hd := s.hd ++ [⟨s.nx, s.rd[getI s]⟩] } ∧ s.nx < 1073741824 ∧ MaySd s := by
  have h' := h
  unfold getC at h'
  split at h'
  · cases h'
  · rename_i h1
    split at h'
    · cases h'
    · split at h'
      · cases h'
      · rename_i h3
        split at h'
        · cases h'
        · rename_i h4
          have hm : MaySd s := Classical.byContradiction fun g => h1 g
          cases hq : freeI s with
          | none => exact absurd hq h3
          | some i =>
            have hi : i < s.rd.length := by
              unfold freeI at hq
              rw [List.findIdx?_eq_some_iff_getElem] at hq
              exact hq.1
            have hI : getI s = i := by unfold getI; rw [hq]; rfl
            have hH : getH s = ⟨s.nx, s.rd[i]⟩ := by
              unfold getH
              rw [if_pos h]
              simp only [hI]
              rw [List.getElem?_eq_getElem hi]; rfl
            refine ⟨by rw [hI]; exact hi, by unfold firI; rw [if_pos h], ?_, ?_, ?_, hm⟩
            · simp only [hI]; exact hH
            · unfold getS
              rw [if_pos h, hH]
              simp only [hI]
            · have := hm.2.1; omega

set_option maxRecDepth 100000 in
set_option maxHeartbeats 4000000 in
theorem get_any (s : Sd) (ra : Option Addr) (rc : Nat) (ha : Option Addr) (hc : Nat) (ma : Option Addr) (mc : Nat) (w : World) (hs : SdAt w ra rc ha hc ma mc s) : Calls Try.prog 22 #[.agg #[.bool s.fr, .int .i64 s.nx, .slice ra s.rd.length rc, .slice ha s.hd.length hc, .slice ma s.ms.length mc]] w (GetR s w) := by
  unfold GetR
  obtain ⟨hx, hy, hz, hb0, hWs⟩ := three_box (w := w) (.cells #[.bool s.fr, .int .i64 s.nx, .slice ra s.rd.length rc, .slice ha s.hd.length hc, .slice ma s.ms.length mc] 26) (.cells #[.bool false, .int .i64 0, .slice none 0 0, .slice none 0 0, .slice none 0 0] 26) (.cells #[.int .i64 0, .int .i64 0, .int .i64 0, .string ⟨#[]⟩, .string ⟨#[]⟩, .bool false] 37)
  obtain ⟨W, hW⟩ : ∃ W, W = ((w.alloc (.cells #[.bool s.fr, .int .i64 s.nx, .slice ra s.rd.length rc, .slice ha s.hd.length hc, .slice ma s.ms.length mc] 26)).alloc (.cells #[.bool false, .int .i64 0, .slice none 0 0, .slice none 0 0, .slice none 0 0] 26)).alloc (.cells #[.int .i64 0, .int .i64 0, .int .i64 0, .string ⟨#[]⟩, .string ⟨#[]⟩, .bool false] 37) := ⟨_, rfl⟩
  rw [← hW] at hx hy hz hb0 hWs
  have HBX := Lib.hid (boxes ra rc ha hc ma mc hx hy (by omega))
  have HBZ : Hid (∀ wx, Below W.heap.size W wx → wx.heap[w.heap.size + 2]? = some (.cells #[.int .i64 0, .int .i64 0, .int .i64 0, .string ⟨#[]⟩, .string ⟨#[]⟩, .bool false] 37 (0, 0))) := Lib.hid fun wx h => (h.block _ (by omega)).trans hz
  have HB0 := Lib.hid hb0
  have HWS := Lib.hid hWs
  have HS1 := Lib.hid (hs.below ra rc ha hc ma mc hb0)
  have HSM := Lib.hid hs.sm
  have HW := Lib.hid hW
  have HUN := Lib.hid (first_any s ra rc ha hc ma mc W HS1.out)
  rw [hW] at HUN
  have HOWN := Lib.hid fun wx (hx : Below W.heap.size W wx) => own2_any s ra rc ha hc ma mc wx (HS1.out.below _ _ _ _ _ _ hx)
  clear hs hx hy hz hb0 hWs hW
  by_cases h1 : getC s = 0
  case neg =>
    have HR : Hid (getS s = s ∧ getH s = hd0) := Lib.hid ⟨if_neg h1, if_neg h1⟩
    rw [HR.out.1, HR.out.2]
    have hne : (getC s != 0) = true := by simpa using h1
    have hne2 : (getC s == 0) = false := by simpa using h1
    generalize getC s = c at *
    generalize firI s = u at *
    clear h1
    go_enter Try.func22, Try.ntmps22
    go_wp2_with (first | (go_at_call 68; refine HUN.out.mono ?_; rintro e w1 ⟨rfl, hb1⟩; rw [← HW.out] at hb1; have HB1 := Lib.hid hb1; obtain ⟨⟨c0, c1, c2, c3, c4⟩, -⟩ := box5 (HBX.out _ hb1).1; clear hb1) | (go_at_call 64; refine (HOWN.out _ HB1.out).mono ?_; rintro e w2 ⟨ra2, rc2, ha2, hc2, ma2, mc2, rfl, ho2, hb2⟩; have HO2 := Lib.hid ho2; have HB2 := Lib.hid (HB1.out.trans (hb2.mono HB1.out.size)); obtain ⟨⟨d0, d1, d2, d3, d4⟩, f0, f1, f2, f3, f4⟩ := box5 (HBX.out _ HB2.out).2; obtain ⟨⟨e0, e1, e2, e3, e4⟩, k0, k1, k2, k3, k4⟩ := box5 (HBX.out _ HB2.out).1; obtain ⟨⟨g0, g1, g2, g3, g4, g5⟩, l0, l1, l2, l3, l4, l5⟩ := box6 (HBZ.out _ HB2.out); clear ho2 hb2))
    refine bodyPost_ret (v := .tuple #[.agg #[.bool s.fr, .int .i64 s.nx, .slice ra2 s.rd.length rc2, .slice ha2 s.hd.length hc2, .slice ma2 s.ms.length mc2], .agg #[.int .i64 hd0.tag, .int .i64 hd0.m.pub, .int .i64 hd0.m.seq, .string ⟨hd0.m.key.toArray⟩, .string ⟨hd0.m.body.toArray⟩, .bool hd0.m.again], .int .i64 c]) (by simp [results, Try.results22, go_sem, *, hd0, mg0]) rfl ?_
    have hsz := HWS.out
    have hs1 := HB1.out.size
    refine ⟨ra2, rc2, ha2, hc2, ma2, mc2, rfl, (HO2.out.kept ?_).mono (by omega), HSM.out, ?_⟩
    · repeat (refine far_set ?_ (by omega))
      exact far_refl _
    · repeat (refine low_set ?_ (by omega))
      exact HB0.out.trans (HB2.out.mono HB0.out.size)
  obtain ⟨hi, hu, hH, hS, hnx, hm⟩ := get_zero h1
  rw [h1, hu] at HUN
  rw [h1, hH, hS]
  have hnx1 := hm.1
  have hlen := hm.2.2.1
  generalize hii : getI s = i at *
  have hii' : (i : Int) < (s.rd.length : Int) := by omega
  have h0i : (0 : Int) ≤ (i : Int) := by omega
  have hw1 : IntKind.i64.wrap ((i : Int) + 1) = (i : Int) + 1 := IntWalk.i64_in _ (by omega)
  have hw2 : IntKind.i64.wrap (s.nx + 1) = s.nx + 1 := IntWalk.i64_in _ (by omega)
  obtain ⟨mm, hmm⟩ : ∃ mm, s.rd[i] = mm := ⟨_, rfl⟩
  rw [hmm]
  have HMM := Lib.hid hmm
  clear h1 hu hH hS hii hm hmm
  go_enter Try.func22, Try.ntmps22
  go_wp2_with (first | (go_at_call 68; refine HUN.out.mono ?_; rintro e w1 ⟨rfl, hb1⟩; rw [← HW.out] at hb1; have HB1 := Lib.hid hb1; obtain ⟨⟨c0, c1, c2, c3, c4⟩, -⟩ := box5 (HBX.out _ hb1).1; clear hb1) | (go_at_call 64; refine (HOWN.out _ HB1.out).mono ?_; rintro e w2 ⟨ra2, rc2, ha2, hc2, ma2, mc2, rfl, ho2, hb2⟩; have HO2 := Lib.hid ho2; have HSZ := Lib.hid hb2.size; have HB2 := Lib.hid (HB1.out.trans (hb2.mono HB1.out.size)); obtain ⟨⟨e0, e1, e2, e3, e4⟩, k0, k1, k2, k3, k4⟩ := box5 (HBX.out _ HB2.out).1; clear ho2 hb2))
  generalize hw3 : World.setCell (World.setCell (World.setCell (World.setCell (World.setCell w2 _ _) _ _) _ _) _ _) _ _ = w3
  have hw3' : set5 w2 w.heap.size (.bool s.fr) (.int .i64 s.nx) (.slice ra2 s.rd.length rc2) (.slice ha2 s.hd.length hc2) (.slice ma2 s.ms.length mc2) = w3 := hw3
  have hsz := HWS.out
  have hs1 := HB1.out.size
  have hs2 := HSZ.out
  have s3 : w3.heap.size = w2.heap.size := by rw [← hw3']; exact set5_size _ _ _ _ _ _ _
  have b1 : w3.heap[w.heap.size]? = some (.cells #[.bool s.fr, .int .i64 s.nx, .slice ra2 s.rd.length rc2, .slice ha2 s.hd.length hc2, .slice ma2 s.ms.length mc2] 26 (0, 0)) := by
    rw [← hw3']; exact set5_box (HBX.out _ HB2.out).1 _ _ _ _ _
  have far3 : ∀ b, b ≠ w.heap.size → w3.heap[b]? = w2.heap[b]? := fun b h2 => by rw [← hw3']; exact set5_heap _ _ _ _ _ _ _ _ h2
  have b2 := (far3 (w.heap.size + 1) (by omega)).trans (HBX.out _ HB2.out).2
  have b3 := (far3 (w.heap.size + 2) (by omega)).trans (HBZ.out _ HB2.out)
  have bel3 : Below w.heap.size w w3 := by rw [← hw3']; exact set5_below (HB0.out.trans (HB2.out.mono HB0.out.size)) (Nat.le_refl _) _ _ _ _ _
  have o3 : OwnS w3 w1.heap.size s (.slice ra2 s.rd.length rc2) (.slice ha2 s.hd.length hc2) (.slice ma2 s.ms.length mc2) := HO2.out.kept fun b hb => far3 b (by omega)
  have HX3 := Lib.hid (And.intro b1 (And.intro b2 b3))
  have HB3 := Lib.hid bel3
  obtain ⟨hb, ho, rfl, p0, p1, p2, p3, p4⟩ := MgsAt.get (OwnS.sd _ _ _ _ _ _ o3 HSM.out).rd i hi
  have HO3 := Lib.hid o3
  have hbB := own_at o3.rd
  have n0 := lt_of_cell p0
  have n1 : ¬ hb = w.heap.size := by omega
  have n2 : ¬ w.heap.size = hb := by omega
  have n3 : ¬ hb = w3.heap.size := by omega
  have n4 : w.heap.size < w3.heap.size := by omega
  have n5 : ¬ w.heap.size = w3.heap.size := by omega
  obtain ⟨⟨y0, y1, y2, y3, y4⟩, g0, g1, g2, g3, g4⟩ := box5 b1
  rw [HMM.out] at p0 p1 p2 p3 p4
  clear hw3 hw3' b1 b2 b3 far3 bel3 o3 e0 e1 e2 e3 e4 k0 k1 k2 k3 k4 c0 c1 c2 c3 c4 s3 hs2 hs1 hsz
  go_region
  go_wp2_with fail
  generalize hw4 : World.drew (World.alloc (World.setCell w3 _ _) _) = w4
  have hw4' : ((w3.setCell ⟨w.heap.size, 1, none⟩ (.int .i64 (s.nx + 1))).alloc (.cells #[.int .i64 (⟨s.nx, mm⟩ : Hd).tag, .int .i64 ((⟨s.nx, mm⟩ : Hd).m).pub, .int .i64 ((⟨s.nx, mm⟩ : Hd).m).seq, .string ⟨((⟨s.nx, mm⟩ : Hd).m).key.toArray⟩, .string ⟨((⟨s.nx, mm⟩ : Hd).m).body.toArray⟩, .bool ((⟨s.nx, mm⟩ : Hd).m).again] 37)).drew = w4 := hw4
  have hsz := HWS.out
  have hs1 := HB1.out.size
  have s4 : w4.heap.size = w3.heap.size + 1 := by rw [← hw4']; simp [World.drew]
  have far4 : ∀ b, b < w3.heap.size → b ≠ w.heap.size → w4.heap[b]? = w3.heap[b]? := fun b h1 h2 => by
    rw [← hw4']
    show ((w3.setCell ⟨w.heap.size, 1, none⟩ (.int .i64 (s.nx + 1))).alloc (.cells #[.int .i64 (⟨s.nx, mm⟩ : Hd).tag, .int .i64 ((⟨s.nx, mm⟩ : Hd).m).pub, .int .i64 ((⟨s.nx, mm⟩ : Hd).m).seq, .string ⟨((⟨s.nx, mm⟩ : Hd).m).key.toArray⟩, .string ⟨((⟨s.nx, mm⟩ : Hd).m).body.toArray⟩, .bool ((⟨s.nx, mm⟩ : Hd).m).again] 37)).heap[b]? = _
    rw [Below.heap_alloc _ _ _ (by simp; exact h1)]
    exact Below.heap_setCell w3 ⟨w.heap.size, 1, none⟩ _ b h2
  have b1 : w4.heap[w.heap.size]? = some (.cells #[.bool s.fr, .int .i64 (s.nx + 1), .slice (some ⟨hb, ho, none⟩) s.rd.length rc2, .slice ha2 s.hd.length hc2, .slice ma2 s.ms.length mc2] 26 (0, 0)) := by
    rw [← hw4']
    show ((w3.setCell ⟨w.heap.size, 1, none⟩ (.int .i64 (s.nx + 1))).alloc (.cells #[.int .i64 (⟨s.nx, mm⟩ : Hd).tag, .int .i64 ((⟨s.nx, mm⟩ : Hd).m).pub, .int .i64 ((⟨s.nx, mm⟩ : Hd).m).seq, .string ⟨((⟨s.nx, mm⟩ : Hd).m).key.toArray⟩, .string ⟨((⟨s.nx, mm⟩ : Hd).m).body.toArray⟩, .bool ((⟨s.nx, mm⟩ : Hd).m).again] 37)).heap[w.heap.size]? = _
    rw [Below.heap_alloc _ _ _ (by simp; exact n4)]
    exact set_heap HX3.out.1 1 _
  have b2 := (far4 (w.heap.size + 1) (Array.getElem?_eq_some_iff.1 HX3.out.2.1).1 (by omega)).trans HX3.out.2.1
  have b3 := (far4 (w.heap.size + 2) (Array.getElem?_eq_some_iff.1 HX3.out.2.2).1 (by omega)).trans HX3.out.2.2
  have b4 : w4.heap[w3.heap.size]? = some (.cells #[.int .i64 (⟨s.nx, mm⟩ : Hd).tag, .int .i64 ((⟨s.nx, mm⟩ : Hd).m).pub, .int .i64 ((⟨s.nx, mm⟩ : Hd).m).seq, .string ⟨((⟨s.nx, mm⟩ : Hd).m).key.toArray⟩, .string ⟨((⟨s.nx, mm⟩ : Hd).m).body.toArray⟩, .bool ((⟨s.nx, mm⟩ : Hd).m).again] 37 (0, 0)) := by
    rw [← hw4']
    have := heap_alloc_new (w3.setCell ⟨w.heap.size, 1, none⟩ (.int .i64 (s.nx + 1))) (.cells #[.int .i64 (⟨s.nx, mm⟩ : Hd).tag, .int .i64 ((⟨s.nx, mm⟩ : Hd).m).pub, .int .i64 ((⟨s.nx, mm⟩ : Hd).m).seq, .string ⟨((⟨s.nx, mm⟩ : Hd).m).key.toArray⟩, .string ⟨((⟨s.nx, mm⟩ : Hd).m).body.toArray⟩, .bool ((⟨s.nx, mm⟩ : Hd).m).again] 37)
    rw [show (w3.setCell ⟨w.heap.size, 1, none⟩ (.int .i64 (s.nx + 1))).heap.size = w3.heap.size by simp] at this
    exact this
  have bel4 : Below w.heap.size w w4 := by
    rw [← hw4']
    exact ((low_set HB3.out (Nat.le_refl _)).alloc (by simp; omega) _).drew
  have o3 := HO3.out
  have o4 : OwnS w4 w1.heap.size s (.slice (some ⟨hb, ho, none⟩) s.rd.length rc2) (.slice ha2 s.hd.length hc2) (.slice ma2 s.ms.length mc2) :=
    ⟨o3.rd.kept fun b h1 h2 => far4 b h2 (by omega), o3.hd.kept fun b h1 h2 => far4 b h2 (by omega), o3.ms.kept fun b h1 h2 => far4 b h2 (by omega)⟩
  have HLH : Hid (∀ g, (Value.slice ha2 s.hd.length hc2).ownBlock = some g → w.heap.size + 2 < g ∧ g < w3.heap.size) := Lib.hid fun g e => by
    have := World.ownsRow.lt o3.hd g e
    omega
  have HDEL := Lib.hid (delG_any s.rd i hi (by omega) w4 w1.heap.size _ o4.rd)
  have HO4 := Lib.hid o4
  have HB4 := Lib.hid bel4
  have HX4 := Lib.hid (And.intro b1 (And.intro b2 (And.intro b3 b4)))
  clear hw4 hw4' b1 b2 b3 b4 far4 bel4 o3 o4 y0 y1 y2 y3 y4 g0 g1 g2 g3 g4 p0 p1 p2 p3 p4
  refine HDEL.out.mono ?_
  rintro e w5 ⟨v', rfl, hd5, hg5⟩
  obtain ⟨xr, cr, rfl, -, -⟩ := OwnE.at mgE hd5
  rw [own_blk mgE HO4.out.rd] at hg5
  have k1 := (hg5.block w.heap.size (by omega) (fun e => n1 (Option.some.inj e).symm)).trans HX4.out.1
  have k2 := (hg5.block (w.heap.size + 1) (by omega) (fun e => by have := Option.some.inj e; omega)).trans HX4.out.2.1
  have k3 := (hg5.block (w.heap.size + 2) (by omega) (fun e => by have := Option.some.inj e; omega)).trans HX4.out.2.2.1
  have k4 := (hg5.block w3.heap.size (by omega) (fun e => n3 (Option.some.inj e).symm)).trans HX4.out.2.2.2
  have hgo : w4.grownBy w5 (Value.slice (some ⟨hb, ho, none⟩) s.rd.length rc2).ownBlock := by rw [own_blk mgE HO4.out.rd]; exact hg5
  have HR5 := Lib.hid hd5
  have HH5 := Lib.hid (OwnE.other HO4.out.rd HO4.out.hd (by decide) hgo)
  have HK5 := Lib.hid (OwnE.other HO4.out.rd HO4.out.ms (by decide) hgo)
  have HB5 : Hid (Below w.heap.size w w5) := Lib.hid (HB4.out.grown hg5 (by omega) (fun k e => by have := Option.some.inj e; omega))
  have hs5 := hg5.size
  have HX5 := Lib.hid (And.intro k1 (And.intro k2 (And.intro k3 k4)))
  obtain ⟨⟨a0, a1, a2, a3, a4⟩, f0, f1, f2, f3, f4⟩ := box5 k1
  obtain ⟨⟨q0, q1, q2, q3, q4, q5⟩, -⟩ := box6 k4
  have m1 : w.heap.size < w5.heap.size := by omega
  have m2 : ¬ w.heap.size = w5.heap.size := by omega
  have m3 : w3.heap.size < w5.heap.size := by omega
  have m4 : ¬ w3.heap.size = w5.heap.size := by omega
  have m5 : ¬ w3.heap.size = w.heap.size := by omega
  have hlh : s.hd.length ≤ 900000 := by omega
  have HSZ5 : Hid (w1.heap.size ≤ w5.heap.size ∧ w.heap.size + 2 < w1.heap.size) := Lib.hid (by have := HSZ.out; have := HB3.out.size; have h3 := HO3.out; have := own_at h3.rd; omega)
  clear k1 k2 k3 k4 hgo hd5 hg5 s4 hs5 hsz hs1
  obtain ⟨w5s, hw5s⟩ : ∃ x, x = (w5.setCell ⟨w.heap.size, 2, none⟩ (.slice xr (s.rd.eraseIdx i).length cr)) := ⟨_, rfl⟩
  have far5 : ∀ b, b ≠ w.heap.size → w5s.heap[b]? = w5.heap[b]? := fun b hb => by rw [hw5s]; exact Below.heap_setCell w5 ⟨w.heap.size, 2, none⟩ _ b hb
  have hzz := HSZ5.out
  have HH5s := Lib.hid (HH5.out.kept (w' := w5s) (fun b hb _ => far5 b (by omega)))
  have HR5s := Lib.hid (HR5.out.kept (w' := w5s) (fun b hb _ => far5 b (by omega)))
  have HK5s := Lib.hid (HK5.out.kept (w' := w5s) (fun b hb _ => far5 b (by omega)))
  have HZ5 : Hid (w5s.heap.size = w5.heap.size) := Lib.hid (by rw [hw5s]; simp)
  have HB5s : Hid (Below w.heap.size w w5s) := Lib.hid (by rw [hw5s]; exact low_set HB5.out (Nat.le_refl _))
  have HX5s := Lib.hid (And.intro (show w5s.heap[w.heap.size]? = some (.cells #[.bool s.fr, .int .i64 (s.nx + 1), .slice xr (s.rd.eraseIdx i).length cr, .slice ha2 s.hd.length hc2, .slice ma2 s.ms.length mc2] 26 (0, 0)) by rw [hw5s]; exact set_heap HX5.out.1 2 _) (And.intro ((far5 (w.heap.size + 1) (by omega)).trans HX5.out.2.1) (And.intro ((far5 (w.heap.size + 2) (by omega)).trans HX5.out.2.2.1) ((far5 w3.heap.size m5).trans HX5.out.2.2.2))))
  have HW5s := Lib.hid hw5s
  have HLL : Hid (w1.heap.size ≤ w5s.heap.size) := Lib.hid (by rw [HZ5.out]; exact hzz.1)
  clear far5 hzz hw5s
  go_wp2_with (at_builtin; rw [← HW5s.out]; refine put_one hdE (base := w1.heap.size) (w := w5s) (⟨s.nx, mm⟩ : Hd) rfl (.tmp 40) (.tmp 42) rfl HH5s.out HLL.out hlh _ rfl rfl w5.heap.size HZ5.out rfl ?_; intro v6 w6 hh6 hg6; obtain ⟨xh, ch, rfl, -, -⟩ := OwnE.at hdE hh6; have hlt := HLH.out; have hz5 := HZ5.out; have hzz := HSZ5.out; have x1 := (hg6.block w.heap.size (by omega) (fun e => (by have := hlt _ e.symm; omega))).trans HX5s.out.1; have x2 := (hg6.block (w.heap.size + 1) (by omega) (fun e => (by have := hlt _ e.symm; omega))).trans HX5s.out.2.1; have x3 := (hg6.block (w.heap.size + 2) (by omega) (fun e => (by have := hlt _ e.symm; omega))).trans HX5s.out.2.2.1; have x4 := (hg6.block w3.heap.size (by omega) (fun e => (by have := hlt _ e.symm; omega))).trans HX5s.out.2.2.2; have HX6 := Lib.hid (And.intro x1 (And.intro x2 (And.intro x3 x4))); have HR6 := Lib.hid (OwnE.other HH5s.out HR5s.out (by decide) hg6); have HK6 := Lib.hid (OwnE.other HH5s.out HK5s.out (by decide) hg6); have HH6 := Lib.hid hh6; have HB6 := Lib.hid (HB5s.out.grown hg6 (by omega) (fun k e => (by have := hlt _ e; omega))); have hs6 := hg6.size; have y6 : w3.heap.size < w6.heap.size := (by omega); obtain ⟨⟨y0, y1, y2, y3, y4⟩, g0, g1, g2, g3, g4⟩ := box5 x1; clear hh6 hg6 x1 x2 x3 x4 hlt hzz hz5 hs6 a0 a1 a2 a3 a4 f0 f1 f2 f3 f4 q0 q1 q2 q3 q4 q5)
  obtain ⟨⟨d0, d1, d2, d3, d4⟩, l0, l1, l2, l3, l4⟩ := box5 HX6.out.2.1
  obtain ⟨⟨r0, r1, r2, r3, r4, r5⟩, t0, t1, t2, t3, t4, t5⟩ := box6 HX6.out.2.2.1
  obtain ⟨⟨q0, q1, q2, q3, q4, q5⟩, -⟩ := box6 HX6.out.2.2.2
  have hsz := HWS.out
  have h3z := HB3.out.size
  have r0' : w6.cell? ⟨w.heap.size + 1 + 1, 0, none⟩ = _ := r0
  have r1' : w6.cell? ⟨w.heap.size + 1 + 1, 1, none⟩ = _ := r1
  have r2' : w6.cell? ⟨w.heap.size + 1 + 1, 2, none⟩ = _ := r2
  have r3' : w6.cell? ⟨w.heap.size + 1 + 1, 3, none⟩ = _ := r3
  have r4' : w6.cell? ⟨w.heap.size + 1 + 1, 4, none⟩ = _ := r4
  have r5' : w6.cell? ⟨w.heap.size + 1 + 1, 5, none⟩ = _ := r5
  have t0' : w6.frozen? ⟨w.heap.size + 1 + 1, 0, none⟩ = false := t0
  have t1' : w6.frozen? ⟨w.heap.size + 1 + 1, 1, none⟩ = false := t1
  have t2' : w6.frozen? ⟨w.heap.size + 1 + 1, 2, none⟩ = false := t2
  have t3' : w6.frozen? ⟨w.heap.size + 1 + 1, 3, none⟩ = false := t3
  have t4' : w6.frozen? ⟨w.heap.size + 1 + 1, 4, none⟩ = false := t4
  have t5' : w6.frozen? ⟨w.heap.size + 1 + 1, 5, none⟩ = false := t5
  have hlow := (Array.getElem?_eq_some_iff.1 HX3.out.2.2).1
  have e1 : ¬ w3.heap.size = w.heap.size + 1 := by omega
  have e2 : ¬ w3.heap.size = w.heap.size + 1 + 1 := by omega
  have HZZ := Lib.hid (show w.heap.size + 2 < w1.heap.size from HSZ5.out.2)
  clear hsz h3z hlow
  go_region
  all_goals
    go_wp2_with fail
    refine bodyPost_ret (v := .tuple #[.agg #[.bool s.fr, .int .i64 (s.nx + 1), .slice xr (s.rd.eraseIdx i).length cr, .slice xh (s.hd ++ [(⟨s.nx, mm⟩ : Hd)]).length ch, .slice ma2 s.ms.length mc2], .agg #[.int .i64 (⟨s.nx, mm⟩ : Hd).tag, .int .i64 ((⟨s.nx, mm⟩ : Hd).m).pub, .int .i64 ((⟨s.nx, mm⟩ : Hd).m).seq, .string ⟨((⟨s.nx, mm⟩ : Hd).m).key.toArray⟩, .string ⟨((⟨s.nx, mm⟩ : Hd).m).body.toArray⟩, .bool ((⟨s.nx, mm⟩ : Hd).m).again], .int .i64 0]) (by simp [results, Try.results22, go_sem, y0, y1, y2, y3, y4, d0, d1, d2, d3, d4, r0', r1', r2', r3', r4', r5', e1, e2]) rfl ?_
    have hzz := HZZ.out
    have o6 : OwnS w6 w1.heap.size { s with nx := s.nx + 1, rd := s.rd.eraseIdx i, hd := s.hd ++ [(⟨s.nx, mm⟩ : Hd)] } (.slice xr (s.rd.eraseIdx i).length cr) (.slice xh (s.hd ++ [(⟨s.nx, mm⟩ : Hd)]).length ch) (.slice ma2 s.ms.length mc2) := ⟨HR6.out, HH6.out, HK6.out⟩
    refine ⟨xr, cr, xh, ch, ma2, mc2, rfl, (o6.kept ?_).mono (by omega), ⟨?_, ?_, HSM.out.2.2⟩, ?_⟩
    · refine far_drew ?_
      repeat (refine far_set ?_ (by omega))
      exact far_refl _
    · have := List.length_eraseIdx_le s.rd i
      show (s.rd.eraseIdx i).length ≤ 1000
      omega
    · show (s.hd ++ [_]).length ≤ 1000
      rw [List.length_append, List.length_singleton]
      omega
    · refine low_drew ?_
      repeat (refine low_set ?_ (by omega))
      exact HB6.out

end Go.Proofs.Ythohjcfpobeplaa.Sh
