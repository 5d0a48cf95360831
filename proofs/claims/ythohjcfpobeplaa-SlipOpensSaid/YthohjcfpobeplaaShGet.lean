/-
  shard.settle, Ack, Nack, Get, walked.
-/
import Derived.Test.YthohjcfpobeplaaShTurn
import Derived.Test.YthohjcfpobeplaaShFst
import Derived.Test.YthohjcfpobeplaaShFull
import Derived.Test.YthohjcfpobeplaaShDel
import Derived.BigRegion
namespace Go.Proofs.Ythohjcfpobeplaa.Sh
open Go.RowKit Rg Go.Sort
set_option linter.unusedVariables false
set_option linter.unusedSimpArgs false

theorem under_get {s : Sd} {t : Int} (h : outC s t = 0) : ∃ hi : outI s t < s.hd.length, undI s t = (outI s t : Int) ∧ outM s t = s.hd[outI s t].m ∧ tagI s t = some (outI s t) := by
  unfold outC at h
  split at h
  · cases h
  · split at h
    · cases h
    · rename_i h1 h2
      cases hq : tagI s t with
      | none => exact absurd hq h2
      | some i =>
        have hi : i < s.hd.length := by
          unfold tagI at hq
          rw [List.findIdx?_eq_some_iff_getElem] at hq
          exact hq.1
        have hc : outC s t = 0 := by unfold outC; rw [if_neg h1, if_neg h2]
        have hI : outI s t = i := by unfold outI; rw [hq]; rfl
        refine ⟨by rw [hI]; exact hi, by unfold undI; rw [if_pos hc], ?_, by rw [hI]⟩
        unfold outM
        simp only [hI]
        rw [List.getElem?_eq_getElem hi]; rfl
def setlS (s : Sd) (t : Int) : Sd := if outC s t = 0 then { s with hd := s.hd.eraseIdx (outI s t) } else s
def setlM (s : Sd) (t : Int) : Mg := if outC s t = 0 then outM s t else mg0
def SetR (s : Sd) (t : Int) (w : World) (e : Ending) (w' : World) : Prop :=
  ∃ ra rc ha hc ma mc, e = .returned (.tuple #[.agg #[.bool (setlS s t).fr, .int .i64 (setlS s t).nx, .slice ra (setlS s t).rd.length rc, .slice ha (setlS s t).hd.length hc, .slice ma (setlS s t).ms.length mc], .agg #[.int .i64 (setlM s t).pub, .int .i64 (setlM s t).seq, .string ⟨(setlM s t).key.toArray⟩, .string ⟨(setlM s t).body.toArray⟩, .bool (setlM s t).again], .int .i64 (outC s t)]) ∧ OwnS w' w.heap.size (setlS s t) (.slice ra (setlS s t).rd.length rc) (.slice ha (setlS s t).hd.length hc) (.slice ma (setlS s t).ms.length mc) ∧ Below w.heap.size w w'
theorem own_at {α : Type} {k : Nat} {f : α → List Value} {E : TypeId} {w : World} {base b o n cap : Nat} {l : List α} (h : OwnE k f E w base (.slice (some ⟨b, o, none⟩) n cap) l) : base ≤ b := by
  rcases h.2 with ⟨e1, _⟩ | ⟨g, cap', cur, e1, hbg, _⟩
  · cases e1
  · cases e1; exact hbg
theorem own_blk {α : Type} {k : Nat} {f : α → List Value} {E T : TypeId} (h0 : El k f E T) {w : World} {base b o n cap : Nat} {l : List α} (h : OwnE k f E w base (.slice (some ⟨b, o, none⟩) n cap) l) : (Value.slice (some ⟨b, o, none⟩) n cap).ownBlock = some b := by
  rcases h.2 with ⟨e1, _⟩ | ⟨g, cap', cur, e1, hbg, _⟩
  · cases e1
  · cases e1; rfl
theorem far_refl {B : Nat} (w : World) : ∀ b, B ≤ b → w.heap[b]? = w.heap[b]? := fun _ _ => rfl
theorem far_drew {B : Nat} {w w' : World} (h : ∀ b, B ≤ b → w'.heap[b]? = w.heap[b]?) : ∀ b, B ≤ b → w'.drew.heap[b]? = w.heap[b]? := h
theorem low_drew {B : Nat} {w w' : World} (h : Below B w w') : Below B w w'.drew := h.drew
theorem three_box {w : World} (o1 o2 o3 : Obj) : (((w.alloc o1).alloc o2).alloc o3).heap[w.heap.size]? = some o1 ∧ (((w.alloc o1).alloc o2).alloc o3).heap[w.heap.size + 1]? = some o2 ∧ (((w.alloc o1).alloc o2).alloc o3).heap[w.heap.size + 2]? = some o3 ∧ Below w.heap.size w (((w.alloc o1).alloc o2).alloc o3) ∧ (((w.alloc o1).alloc o2).alloc o3).heap.size = w.heap.size + 3 := by
  obtain ⟨h1, h2, h3, h4⟩ := two_box (w := w) o1 o2
  refine ⟨(Below.heap_alloc _ _ _ (by omega)).trans h1, (Below.heap_alloc _ _ _ (by omega)).trans h2, ?_, h3.alloc (by omega) _, by simp [h4]⟩
  have := heap_alloc_new ((w.alloc o1).alloc o2) o3
  rwa [h4] at this

set_option maxRecDepth 100000 in
set_option maxHeartbeats 4000000 in
theorem settle_any (s : Sd) (t : Int) (ra : Option Addr) (rc : Nat) (ha : Option Addr) (hc : Nat) (ma : Option Addr) (mc : Nat) (w : World) (hs : SdAt w ra rc ha hc ma mc s) : Calls Try.prog 76 #[.agg #[.bool s.fr, .int .i64 s.nx, .slice ra s.rd.length rc, .slice ha s.hd.length hc, .slice ma s.ms.length mc], .int .i64 t] w (SetR s t w) := by
  unfold SetR
  obtain ⟨hx, hy, hz, hb0, hWs⟩ := three_box (w := w) (.cells #[.bool s.fr, .int .i64 s.nx, .slice ra s.rd.length rc, .slice ha s.hd.length hc, .slice ma s.ms.length mc] 26) (.cells #[.bool false, .int .i64 0, .slice none 0 0, .slice none 0 0, .slice none 0 0] 26) (.cells #[.int .i64 0, .int .i64 0, .string ⟨#[]⟩, .string ⟨#[]⟩, .bool false] 35)
  obtain ⟨W, hW⟩ : ∃ W, W = ((w.alloc (.cells #[.bool s.fr, .int .i64 s.nx, .slice ra s.rd.length rc, .slice ha s.hd.length hc, .slice ma s.ms.length mc] 26)).alloc (.cells #[.bool false, .int .i64 0, .slice none 0 0, .slice none 0 0, .slice none 0 0] 26)).alloc (.cells #[.int .i64 0, .int .i64 0, .string ⟨#[]⟩, .string ⟨#[]⟩, .bool false] 35) := ⟨_, rfl⟩
  rw [← hW] at hx hy hz hb0 hWs
  have HBX := Lib.hid (boxes ra rc ha hc ma mc hx hy (by omega))
  have HBZ : Hid (∀ wx, Below W.heap.size W wx → wx.heap[w.heap.size + 2]? = some (.cells #[.int .i64 0, .int .i64 0, .string ⟨#[]⟩, .string ⟨#[]⟩, .bool false] 35 (0, 0))) := Lib.hid fun wx h => (h.block _ (by omega)).trans hz
  have HB0 := Lib.hid hb0
  have HWS := Lib.hid hWs
  have HS1 := Lib.hid (hs.below ra rc ha hc ma mc hb0)
  have HSM := Lib.hid hs.sm
  have HW := Lib.hid hW
  have HUN := Lib.hid (under_any s t ra rc ha hc ma mc W HS1.out)
  rw [hW] at HUN
  have HOWN := Lib.hid fun wx (hx : Below W.heap.size W wx) => own2_any s ra rc ha hc ma mc wx (HS1.out.below _ _ _ _ _ _ hx)
  clear hs hx hy hz hb0 hWs hW
  by_cases h1 : outC s t = 0
  case neg =>
    have HR : Hid (setlS s t = s ∧ setlM s t = mg0) := Lib.hid ⟨if_neg h1, if_neg h1⟩
    have hne : (outC s t != 0) = true := by simpa using h1
    obtain ⟨c, hc⟩ : ∃ c, outC s t = c := ⟨_, rfl⟩
    obtain ⟨u, hu⟩ : ∃ u, undI s t = u := ⟨_, rfl⟩
    rw [hc] at hne HUN h1
    rw [hu] at HUN
    have HC := Lib.hid hc
    have hne2 : (c == 0) = false := by simpa using h1
    clear h1 hc hu
    go_enter Try.func76, Try.ntmps76
    go_wp2_with (first | (go_at_call 111; refine HUN.out.mono ?_; rintro e w1 ⟨rfl, hb1⟩; rw [← HW.out] at hb1; have HB1 := Lib.hid hb1; obtain ⟨⟨c0, c1, c2, c3, c4⟩, -⟩ := box5 (HBX.out _ hb1).1; clear hb1) | (go_at_call 64; refine (HOWN.out _ HB1.out).mono ?_; rintro e w2 ⟨ra2, rc2, ha2, hc2, ma2, mc2, rfl, ho2, hb2⟩; have HO2 := Lib.hid ho2; have HB2 := Lib.hid (HB1.out.trans (hb2.mono HB1.out.size)); obtain ⟨⟨d0, d1, d2, d3, d4⟩, f0, f1, f2, f3, f4⟩ := box5 (HBX.out _ HB2.out).2; obtain ⟨⟨e0, e1, e2, e3, e4⟩, k0, k1, k2, k3, k4⟩ := box5 (HBX.out _ HB2.out).1; obtain ⟨⟨g0, g1, g2, g3, g4⟩, l0, l1, l2, l3, l4⟩ := box5 (HBZ.out _ HB2.out); clear ho2 hb2))
    refine bodyPost_ret (v := .tuple #[.agg #[.bool s.fr, .int .i64 s.nx, .slice ra2 s.rd.length rc2, .slice ha2 s.hd.length hc2, .slice ma2 s.ms.length mc2], .agg #[.int .i64 mg0.pub, .int .i64 mg0.seq, .string ⟨mg0.key.toArray⟩, .string ⟨mg0.body.toArray⟩, .bool mg0.again], .int .i64 c]) (by simp [results, Try.results76, go_sem, *, mg0]) rfl ?_
    rw [HR.out.1, HR.out.2, HC.out]
    have hsz := HWS.out
    have hs1 := HB1.out.size
    refine ⟨ra2, rc2, ha2, hc2, ma2, mc2, rfl, (HO2.out.kept ?_).mono (by omega), ?_⟩
    · repeat (refine far_set ?_ (by omega))
      exact fun _ _ => rfl
    · repeat (refine low_set ?_ (by omega))
      exact HB0.out.trans (HB2.out.mono HB0.out.size)
  obtain ⟨hi, hu, hm, -⟩ := under_get h1
  have HR : Hid (setlS s t = { s with hd := s.hd.eraseIdx (outI s t) } ∧ setlM s t = s.hd[outI s t].m) := Lib.hid ⟨if_pos h1, (if_pos h1).trans hm⟩
  rw [h1, hu] at HUN
  have HC := Lib.hid h1
  generalize hii : outI s t = i at *
  have hii' : (i : Int) < (s.hd.length : Int) := by omega
  have h0i : (0 : Int) ≤ (i : Int) := by omega
  have hw1 : IntKind.i64.wrap ((i : Int) + 1) = (i : Int) + 1 := IntWalk.i64_in _ (by have := HSM.out; omega)
  have hsl := HSM.out.2.1
  clear h1 hu hm hii
  go_enter Try.func76, Try.ntmps76
  go_wp2_with (first | (go_at_call 111; refine HUN.out.mono ?_; rintro e w1 ⟨rfl, hb1⟩; rw [← HW.out] at hb1; have HB1 := Lib.hid hb1; obtain ⟨⟨c0, c1, c2, c3, c4⟩, -⟩ := box5 (HBX.out _ hb1).1; clear hb1) | (go_at_call 64; refine (HOWN.out _ HB1.out).mono ?_; rintro e w2 ⟨ra2, rc2, ha2, hc2, ma2, mc2, rfl, ho2, hb2⟩; have HO2 := Lib.hid ho2; have HB2 := Lib.hid (HB1.out.trans (hb2.mono HB1.out.size)); obtain ⟨⟨d0, d1, d2, d3, d4⟩, f0, f1, f2, f3, f4⟩ := box5 (HBX.out _ HB2.out).2; obtain ⟨⟨e0, e1, e2, e3, e4⟩, k0, k1, k2, k3, k4⟩ := box5 (HBX.out _ HB2.out).1; obtain ⟨⟨g0, g1, g2, g3, g4⟩, l0, l1, l2, l3, l4⟩ := box5 (HBZ.out _ HB2.out); clear ho2 hb2; obtain ⟨hb, ho, rfl, p0, p1, p2, p3, p4, p5⟩ := HdsAt.get (OwnS.sd _ _ _ _ _ _ HO2.out HSM.out).hd i hi; have hbB := own_at HO2.out.hd; have hbs := HB1.out.size; have n1 : ¬ hb = w.heap.size := (by have := HWS.out; omega); have n2 : ¬ w.heap.size = hb := (fun e => n1 e.symm); clear hbB hbs; have z2 : w2.cell? ⟨hb, ho + i * 6 + 1 + 1, none⟩ = _ := p2; have z3 : w2.cell? ⟨hb, ho + i * 6 + 1 + 2, none⟩ = _ := p3; have z4 : w2.cell? ⟨hb, ho + i * 6 + 1 + 3, none⟩ = _ := p4; have z5 : w2.cell? ⟨hb, ho + i * 6 + 1 + 4, none⟩ = _ := p5; have m0 := lt_of_cell p0; have m1 : ¬ hb = w2.heap.size := (by omega); have m2 := HB2.out.size; have m3 : w.heap.size < w2.heap.size := (by have := HWS.out; omega); have m4 : ¬ w.heap.size = w2.heap.size := (by omega); have m5 : w.heap.size + 1 < w2.heap.size := (by have := HWS.out; omega); have m6 : ¬ w.heap.size + 1 = w2.heap.size := (by omega); have m7 : w.heap.size + 2 < w2.heap.size := (by have := HWS.out; omega); have m8 : ¬ w.heap.size + 2 = w2.heap.size := (by omega)))
  generalize hw3 : World.alloc (World.setCell (World.setCell (World.setCell (World.setCell (World.setCell w2 _ _) _ _) _ _) _ _) _ _) _ = w3
  have hw3' : (set5 w2 w.heap.size (.bool s.fr) (.int .i64 s.nx) (.slice ra2 s.rd.length rc2) (.slice (some ⟨hb, ho, none⟩) s.hd.length hc2) (.slice ma2 s.ms.length mc2)).alloc (.cells #[.int .i64 (s.hd[i].m).pub, .int .i64 (s.hd[i].m).seq, .string ⟨(s.hd[i].m).key.toArray⟩, .string ⟨(s.hd[i].m).body.toArray⟩, .bool (s.hd[i].m).again] 35) = w3 := hw3
  have hsz := HWS.out
  have hs1 := HB1.out.size
  have s3 : w3.heap.size = w2.heap.size + 1 := by rw [← hw3']; simp [set5_size]
  have hbb := own_at HO2.out.hd
  have b1 : w3.heap[w.heap.size]? = some (.cells #[.bool s.fr, .int .i64 s.nx, .slice ra2 s.rd.length rc2, .slice (some ⟨hb, ho, none⟩) s.hd.length hc2, .slice ma2 s.ms.length mc2] 26 (0, 0)) := by
    rw [← hw3', Below.heap_alloc _ _ _ (by rw [set5_size]; omega)]
    exact set5_box (HBX.out _ HB2.out).1 _ _ _ _ _
  have b2 := (HBX.out _ HB2.out).2
  have b3 := HBZ.out _ HB2.out
  have far3 : ∀ b, b < w2.heap.size → b ≠ w.heap.size → w3.heap[b]? = w2.heap[b]? := fun b h1 h2 => by
    rw [← hw3', Below.heap_alloc _ _ _ (by rw [set5_size]; exact h1), set5_heap _ _ _ _ _ _ _ _ h2]
  rw [← far3 _ (by omega) (by omega)] at b2 b3
  have b4 : w3.heap[w2.heap.size]? = some (.cells #[.int .i64 (s.hd[i].m).pub, .int .i64 (s.hd[i].m).seq, .string ⟨(s.hd[i].m).key.toArray⟩, .string ⟨(s.hd[i].m).body.toArray⟩, .bool (s.hd[i].m).again] 35 (0, 0)) := by
    rw [← hw3']
    have := heap_alloc_new (set5 w2 w.heap.size (.bool s.fr) (.int .i64 s.nx) (.slice ra2 s.rd.length rc2) (.slice (some ⟨hb, ho, none⟩) s.hd.length hc2) (.slice ma2 s.ms.length mc2)) (.cells #[.int .i64 (s.hd[i].m).pub, .int .i64 (s.hd[i].m).seq, .string ⟨(s.hd[i].m).key.toArray⟩, .string ⟨(s.hd[i].m).body.toArray⟩, .bool (s.hd[i].m).again] 35)
    rwa [set5_size] at this
  have bel3 : Below w.heap.size w w3 := by
    rw [← hw3']
    exact (set5_below (HB0.out.trans (HB2.out.mono HB0.out.size)) (Nat.le_refl _) _ _ _ _ _).alloc (by rw [set5_size]; omega) _
  have o3 : OwnS w3 w1.heap.size s (.slice ra2 s.rd.length rc2) (.slice (some ⟨hb, ho, none⟩) s.hd.length hc2) (.slice ma2 s.ms.length mc2) := by
    rw [← hw3']
    exact (HO2.out.kept fun b hb' => set5_heap _ _ _ _ _ _ _ _ (by omega)).below1 ((Below.refl _ _).alloc (Nat.le_refl _) _)
  have hdel := delH_any s.hd i hi (by omega) w3 w1.heap.size _ o3.hd
  have HDEL := Lib.hid hdel
  have HO3 := Lib.hid o3
  have HB3 := Lib.hid bel3
  have HBB := Lib.hid (And.intro b1 (And.intro b2 (And.intro b3 b4)))
  have hn4 : hb < w2.heap.size := m0
  clear b1 b2 b3 b4 far3 bel3 o3 hdel hw3 hw3' p0 p1 p2 p3 p4 p5 z2 z3 z4 z5 d0 d1 d2 d3 d4 f0 f1 f2 f3 f4 k0 k1 k2 k3 k4 e0 e1 e2 e3 e4 g0 g1 g2 g3 g4 l0 l1 l2 l3 l4 c0 c1 c2 c3 c4
  refine HDEL.out.mono ?_
  rintro e w4 ⟨v', rfl, hd4, hg4⟩
  obtain ⟨xh, ch, rfl, -, -⟩ := OwnE.at hdE hd4
  have hel : (s.hd.eraseIdx i).length = (s.hd.eraseIdx i).length := rfl
  have hg4' : w3.grownBy w4 (some hb) := by
    have hxx := own_blk hdE HO3.out.hd
    rw [hxx] at hg4
    exact hg4
  have k1 := (hg4'.block w.heap.size (by omega) (fun e => n1 (Option.some.inj e).symm)).trans HBB.out.1
  have k2 := (hg4'.block (w.heap.size + 1) (by omega) (fun e => by have := Option.some.inj e; omega)).trans HBB.out.2.1
  have k3 := (hg4'.block (w.heap.size + 2) (by omega) (fun e => by have := Option.some.inj e; omega)).trans HBB.out.2.2.1
  have k4 := (hg4'.block w2.heap.size (by omega) (fun e => by have := Option.some.inj e; omega)).trans HBB.out.2.2.2
  obtain ⟨⟨a0, a1, a2, a3, a4⟩, f0, f1, f2, f3, f4⟩ := box5 k1
  obtain ⟨⟨d0, d1, d2, d3, d4⟩, l0, l1, l2, l3, l4⟩ := box5 k2
  obtain ⟨⟨g0, g1, g2, g3, g4⟩, r0, r1, r2, r3, r4⟩ := box5 k3
  obtain ⟨⟨q0, q1, q2, q3, q4⟩, -⟩ := box5 k4
  have HO4 : Hid (OwnS w4 w1.heap.size { s with hd := s.hd.eraseIdx i } (.slice ra2 s.rd.length rc2) (.slice xh (s.hd.eraseIdx i).length ch) (.slice ma2 s.ms.length mc2)) := Lib.hid ⟨OwnE.other HO3.out.hd HO3.out.rd (by decide) hg4, hd4, OwnE.other HO3.out.hd HO3.out.ms (by decide) hg4⟩
  have HB4 : Hid (Below w.heap.size w w4) := Lib.hid (HB3.out.grown hg4' (by omega) (fun k e => by have := Option.some.inj e; omega))
  have hs4 := hg4'.size
  have HM := Lib.hid (show s.hd[i].m = s.hd[i].m from rfl)
  generalize s.hd[i].m = mm at *
  clear hd4 hg4 hg4' k1 k2 k3 k4 hel
  have g0' : w4.cell? ⟨w.heap.size + 1 + 1, 0, none⟩ = _ := g0
  have g1' : w4.cell? ⟨w.heap.size + 1 + 1, 1, none⟩ = _ := g1
  have g2' : w4.cell? ⟨w.heap.size + 1 + 1, 2, none⟩ = _ := g2
  have g3' : w4.cell? ⟨w.heap.size + 1 + 1, 3, none⟩ = _ := g3
  have g4' : w4.cell? ⟨w.heap.size + 1 + 1, 4, none⟩ = _ := g4
  have r0' : w4.frozen? ⟨w.heap.size + 1 + 1, 0, none⟩ = false := r0
  have r1' : w4.frozen? ⟨w.heap.size + 1 + 1, 1, none⟩ = false := r1
  have r2' : w4.frozen? ⟨w.heap.size + 1 + 1, 2, none⟩ = false := r2
  have r3' : w4.frozen? ⟨w.heap.size + 1 + 1, 3, none⟩ = false := r3
  have r4' : w4.frozen? ⟨w.heap.size + 1 + 1, 4, none⟩ = false := r4
  have n5 : ¬ w2.heap.size = w.heap.size + 1 := by omega
  have n6 : ¬ w2.heap.size = w.heap.size := by omega
  have n7 : ¬ w2.heap.size = w.heap.size + 1 + 1 := by omega
  go_wp2_with fail
  go_region
  all_goals
    go_wp2_with fail
    refine bodyPost_ret (v := .tuple #[.agg #[.bool s.fr, .int .i64 s.nx, .slice ra2 s.rd.length rc2, .slice xh (s.hd.eraseIdx i).length ch, .slice ma2 s.ms.length mc2], .agg #[.int .i64 mm.pub, .int .i64 mm.seq, .string ⟨mm.key.toArray⟩, .string ⟨mm.body.toArray⟩, .bool mm.again], .int .i64 0]) (by simp [results, Try.results76, go_sem, a0, a1, a2, a3, a4, d0, d1, d2, d3, d4, g0', g1', g2', g3', g4', n5, n6, n7]) rfl ?_
    rw [HR.out.1, HR.out.2, HC.out]
    refine ⟨ra2, rc2, xh, ch, ma2, mc2, rfl, (HO4.out.kept ?_).mono (by omega), ?_⟩
    · refine far_drew ?_
      repeat (refine far_set ?_ (by omega))
      exact far_refl _
    · refine low_drew ?_
      repeat (refine low_set ?_ (by omega))
      exact HB4.out

end Go.Proofs.Ythohjcfpobeplaa.Sh
