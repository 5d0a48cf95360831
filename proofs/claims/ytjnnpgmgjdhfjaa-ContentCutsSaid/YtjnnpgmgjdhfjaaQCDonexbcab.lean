/-
  Done, walked.
-/
import Derived.Test.YtjnnpgmgjdhfjaaQCJoinDxedbc
import Derived.Test.YtjnnpgmgjdhfjaaQGetTxeecd
import Derived.Deep.RegionWith
import Derived.Test.YtjnnpgmgjdhfjaaQMEndxdafb
namespace Go.Proofs.Ytjnnpgmgjdhfjaa
open Go.RowKit
set_option linter.unusedVariables false
variable {B : Nat}

theorem get_back {l : List It} {w : World} {e : Ending} {w' : World} (hm : MayT 1 l) (hf : Fits l) (hl : (putT l).length ≤ 3000) (h : GetR (putT l) w e w') :
    Below w.heap.size w w' ∧ ∃ a cap bs, e = .returned (.tuple #[.slice a l.length cap, .int .i64 0]) ∧ SlAt w' bs a cap l ∧ Own w' w.heap.size bs := by
  obtain ⟨hb, h⟩ := h
  refine ⟨hb, ?_⟩
  rcases h with ⟨_, h⟩ | ⟨m, a, cap, bs, g1, g2, g3, g4, g5, g6⟩
  · exact (h l hm hf rfl hl).elim
  · obtain rfl := putT_inj g1 hm (Tb.fits ⟨_, g5⟩) hf (by rw [g2]; exact g3) g2
    exact ⟨a, cap, bs, g4, g5, g6⟩

set_option maxRecDepth 100000 in
/-- all cells of a call's block are written. -/
theorem set12 {w : World} {g : Nat} {t : TypeId} {u0 u1 u2 u3 u4 u5 u6 u7 u8 u9 u10 u11 : Value} (h : w.heap[g]? = some (.cells #[u0, u1, u2, u3, u4, u5, u6, u7, u8, u9, u10, u11] t (0, 0))) (v0 v1 v2 v3 v4 v5 v6 v7 v8 v9 v10 v11 : Value) :
    ((((((((((((w.setCell ⟨g, 0, none⟩ v0).setCell ⟨g, 1, none⟩ v1).setCell ⟨g, 2, none⟩ v2).setCell ⟨g, 3, none⟩ v3).setCell ⟨g, 4, none⟩ v4).setCell ⟨g, 5, none⟩ v5).setCell ⟨g, 6, none⟩ v6).setCell ⟨g, 7, none⟩ v7).setCell ⟨g, 8, none⟩ v8).setCell ⟨g, 9, none⟩ v9).setCell ⟨g, 10, none⟩ v10).setCell ⟨g, 11, none⟩ v11).heap[g]? = some (.cells #[v0, v1, v2, v3, v4, v5, v6, v7, v8, v9, v10, v11] t (0, 0)) ∧ Kept [g] w ((((((((((((w.setCell ⟨g, 0, none⟩ v0).setCell ⟨g, 1, none⟩ v1).setCell ⟨g, 2, none⟩ v2).setCell ⟨g, 3, none⟩ v3).setCell ⟨g, 4, none⟩ v4).setCell ⟨g, 5, none⟩ v5).setCell ⟨g, 6, none⟩ v6).setCell ⟨g, 7, none⟩ v7).setCell ⟨g, 8, none⟩ v8).setCell ⟨g, 9, none⟩ v9).setCell ⟨g, 10, none⟩ v10).setCell ⟨g, 11, none⟩ v11) := by
  have hg : g ∈ [g] := by simp
  exact ⟨(set_heap (set_heap (set_heap (set_heap (set_heap (set_heap (set_heap (set_heap (set_heap (set_heap (set_heap (set_heap h 0 v0) 1 v1) 2 v2) 3 v3) 4 v4) 5 v5) 6 v6) 7 v7) 8 v8) 9 v9) 10 v10) 11 v11).trans (by simp only [List.setIfInBounds_toArray, List.set_cons_zero, List.set_cons_succ]), (((((((((((((Kept.refl [g] w).set hg 0 v0).set hg 1 v1).set hg 2 v2).set hg 3 v3).set hg 4 v4).set hg 5 v5).set hg 6 v6).set hg 7 v7).set hg 8 v8).set hg 9 v9).set hg 10 v10).set hg 11 v11)⟩

set_option maxRecDepth 100000 in
set_option maxHeartbeats 8000000 in
theorem done_any {w : World} {g : Nat} {ch : Int} {J : JS} {bs : List Nat} {ma : Option Addr} {mc : Nat} {pv bv : Value} (hj : JAt w g ch J bs ma mc pv bv) (hst : J.st = 3) {l : List It} (hp : J.props = putT l) (hm : MayT 1 l) (hfit : Fits l) (h3 : (putT l).length ≤ 3000) (hbl : J.body.length ≤ 100000) :
    Calls Try.prog 14 #[.pointer (some ⟨g, 0, none⟩)] w fun e w' => ∃ (a : Option Addr) (k : Nat) (tb : List Nat) (v : Value), e = .returned (.tuple #[.agg (meC J.m ma mc), .slice a l.length k, v]) ∧ SlAt w' tb a k l ∧ Own w' w.heap.size tb ∧ Buf w' w.heap.size v J.body ∧ Below w.heap.size w w' := by
  have hgl : g < w.heap.size := hj.lt
  have hb0 : Below w.heap.size w (w.alloc (.cells #[.int .i64 0, .string ⟨#[]⟩, .string ⟨#[]⟩, .string ⟨#[]⟩, .string ⟨#[]⟩, .string ⟨#[]⟩, .int .i64 0, .int .i64 0, .int .u64 0, .bool false, .bool false, .slice none 0 0] 25)) := (Below.refl _ _).alloc (Nat.le_refl _) _
  have hr0 : MeAt (w.alloc (.cells #[.int .i64 0, .string ⟨#[]⟩, .string ⟨#[]⟩, .string ⟨#[]⟩, .string ⟨#[]⟩, .string ⟨#[]⟩, .int .i64 0, .int .i64 0, .int .u64 0, .bool false, .bool false, .slice none 0 0] 25)) w.heap.size (Me.of 0) none 0 := heap_alloc_new w _
  have hw0 : (w.alloc (.cells #[.int .i64 0, .string ⟨#[]⟩, .string ⟨#[]⟩, .string ⟨#[]⟩, .string ⟨#[]⟩, .string ⟨#[]⟩, .int .i64 0, .int .i64 0, .int .u64 0, .bool false, .bool false, .slice none 0 0] 25)).heap.size = w.heap.size + 1 := by simp
  obtain ⟨pa, pc, hpv, hpl, hpm⟩ := hj.pbuf.form
  obtain ⟨ba, bc, hbv, hbl2, hbm⟩ := hj.bbuf.form
  subst hpv
  subst hbv
  have hj0 := hj.below hb0
  have hin : BytesIn (w.heap.size + 1) (w.alloc (.cells #[.int .i64 0, .string ⟨#[]⟩, .string ⟨#[]⟩, .string ⟨#[]⟩, .string ⟨#[]⟩, .string ⟨#[]⟩, .int .i64 0, .int .i64 0, .int .u64 0, .bool false, .bool false, .slice none 0 0] 25)) (.slice pa J.props.length pc) (putT l) := by
    have h := hj0.pbuf.bytes
    rw [hw0, hp] at h
    rw [hp]
    exact h
  obtain ⟨j0, j1, j2, j3, j4, j5, j6, j7, j8, j9, j10, j11, j12, j13, j14, j15, j16⟩ := jat_cells hj0.at_
  rw [hst] at j1
  have HB0 := Lib.hid hb0
  have HR0 := Lib.hid hr0
  have HJ0 := Lib.hid hj0
  have HJ := Lib.hid hj
  have HIN := Lib.hid hin
  have HD := Lib.hid (And.intro hm (And.intro hfit h3))
  have HBM := Lib.hid (And.intro hbl2 hbm)
  clear hp j0 j2 j3 j4 j5 j6 j7 j8 j9 j10 j11 j12 j13 j15 j16 hj0 hb0 hj hr0 hin hm hfit h3 hpl hpm hbl2 hbm
  go_enter Try.func14, Try.ntmps14
  go_wp2_with fail
  refine (get_any (B := w.heap.size + 1) _ (putT l) _ (by rw [hw0]; exact Nat.le_refl _) HIN.out).mono ?_
  intro e w2 h
  obtain ⟨hb2, ta, tk, tb, rfl, hsl, hown⟩ := get_back HD.out.1 HD.out.2.1 HD.out.2.2 h
  have HT := Lib.hid (And.intro hsl hown)
  have hgb : g < (w.alloc (.cells #[.int .i64 0, .string ⟨#[]⟩, .string ⟨#[]⟩, .string ⟨#[]⟩, .string ⟨#[]⟩, .string ⟨#[]⟩, .int .i64 0, .int .i64 0, .int .u64 0, .bool false, .bool false, .slice none 0 0] 25)).heap.size := by rw [hw0]; omega
  have hj2 := HJ0.out.below hb2
  have hr2 := HR0.out.keep (hb2.block _ HR0.out.lt)
  have HB2 := Lib.hid (HB0.out.trans (hb2.mono (by rw [hw0]; omega)))
  have hz2 := hb2.size
  have HJ2 := Lib.hid hj2
  have HR2 := Lib.hid hr2
  have hbb : BytesAt w2.heap.size w2.drew ba J.body := by
    obtain ⟨a', c', he, _, _, h⟩ := hj2.bbuf.bytes
    obtain ⟨rfl, -, rfl⟩ := Value.slice.inj he
    exact h.keep (fun b _ => rfl)
  have HBB := Lib.hid hbb
  clear h hb2 hsl hown j1 j14 hbb
  obtain ⟨j0, j1, j2, j3, j4, j5, j6, j7, j8, j9, j10, j11, j12, j13, j14, j15, j16⟩ := jat_cells hj2.at_
  obtain ⟨⟨c0, c1, c2, c3, c4, c5⟩, c6, c7, c8, c9, c10, c11⟩ := hr2.cells
  have fz := hr2.frozen
  have f0 := fz 0
  have f1 := fz 1
  have f2 := fz 2
  have f3 := fz 3
  have f4 := fz 4
  have f5 := fz 5
  have f6 := fz 6
  have f7 := fz 7
  have f8 := fz 8
  have f9 := fz 9
  have f10 := fz 10
  have f11 := fz 11
  clear fz hj2 hr2 j0 j1 j14 j16
  rw [hw0] at hz2
  go_wp2_with fail
  go_region_with (go_at_call 33; refine (clone_any (B := w2.heap.size) ba bc J.body HBM.out.1 HBM.out.2 (by omega) _ HBB.out).mono ?_; rintro e w3 ⟨v3, rfl, hbf, hb3⟩; have HF3 := Lib.hid (And.intro hbf hb3); have hr3 : MeAt w3 w.heap.size (Me.of 0) none 0 := HR2.out.keep (hb3.block _ HR2.out.lt); have hg3 : w3.heap[g]? = some (.cells (jC ch J ma mc (.slice pa J.props.length pc) (.slice ba J.body.length bc)) 65 (0, 0)) := (hb3.block _ HJ2.out.lt).trans HJ2.out.at_; obtain ⟨x0, x1, x2, x3, x4, x5, x6, x7, x8, x9, x10, x11, x12, x13, x14, x15, x16⟩ := jat_cells hg3; obtain ⟨⟨y0, y1, y2, y3, y4, y5⟩, y6, y7, y8, y9, y10, y11⟩ := hr3.cells; have fz := hr3.frozen; have z0 := fz 0; have z1 := fz 1; have z2 := fz 2; have z3 := fz 3; have z4 := fz 4; have z5 := fz 5; have z6 := fz 6; have z7 := fz 7; have z8 := fz 8; have z9 := fz 9; have z10 := fz 10; have z11 := fz 11; obtain ⟨N3, a3, k3, hN3, rfl, hl3, hm3⟩ := hbf.form2; have HM3 := Lib.hid hN3; clear fz hr3 hg3 hbf hb3 x0 x1 x14 x16 hN3 hl3 hm3)
  all_goals
    have hr3 : MeAt w3 w.heap.size (Me.of 0) none 0 := HR2.out.keep (HF3.out.2.block _ HR2.out.lt)
    have h12 := set12 (show w3.heap[w.heap.size]? = some (.cells #[_, _, _, _, _, _, _, _, _, _, _, _] _ (0, 0)) from hr3) (.int .i64 J.m.id) (.string J.m.name) (.string J.m.typ) (.string J.m.ex) (.string J.m.key) (.string J.m.text) (.int .i64 J.m.code) (.int .i64 J.m.count) (.int .u64 J.m.tag) (.bool J.m.flag) (.bool J.m.back) (.slice ma J.m.args.length mc)
    generalize World.setCell (World.setCell _ _ _) ⟨w.heap.size, 11, none⟩ (.slice ma J.m.args.length mc) = w4 at h12 ⊢
    have hm4 : MeAt w4 w.heap.size J.m ma mc := h12.1
    obtain ⟨⟨d0, d1, d2, d3, d4, d5⟩, d6, d7, d8, d9, d10, d11⟩ := hm4.cells
    have HK := Lib.hid h12.2
    clear h12 hr3 hm4 c0 c1 c2 c3 c4 c5 c6 c7 c8 c9 c10 c11 f0 f1 f2 f3 f4 f5 f6 f7 f8 f9 f10 f11
    simp only [List.getElem_toArray, List.getElem_cons_succ, List.getElem_cons_zero, Act.put, List.setIfInBounds_toArray, List.set_cons_zero, List.set_cons_succ]
    go_wp2_with fail
    refine bodyPost_ret (v := .tuple #[.agg (meC J.m ma mc), .slice ta l.length tk, .slice a3 N3 k3]) (by unfold meC; simp [results, Try.results14, go_sem, *]) rfl ?_
    have hto := HT.out.2
    have hz3 := HF3.out.2.size
    have hz3' : w2.heap.size ≤ w3.heap.size := hz3
    have hkt : ∀ b ∈ tb, w4.heap[b]? = w2.heap[b]? := by
      intro b hb
      obtain ⟨h1, h2, _⟩ := hto.2 b hb
      rw [hw0] at h1
      exact (HK.out.block b (by omega) (by simp; omega)).trans (HF3.out.2.block b h2)
    refine ⟨ta, tk, tb, .slice a3 N3 k3, rfl, HT.out.1.keep hkt, (hto.keep hkt (Nat.le_trans hz3' HK.out.size)).mono (by rw [hw0]; omega), ?_, ?_⟩
    · refine (HF3.out.1.mono (by show w.heap.size ≤ w2.heap.size; omega)).stay (fun k e => ?_)
      have hk1 := World.ownsRow.lt HF3.out.1 k e
      have hk2 : w2.heap.size ≤ k := hk1.1
      exact HK.out.block k hk1.2 (by simp; omega)
    · refine HB2.out.trans (Below.trans (b := w3) ?_ (HK.out.below (by omega) (by simp)))
      have h : Below w2.heap.size w2 w3 := (Below.refl _ _).drew.trans HF3.out.2
      exact h.mono (by omega)

end Go.Proofs.Ytjnnpgmgjdhfjaa
