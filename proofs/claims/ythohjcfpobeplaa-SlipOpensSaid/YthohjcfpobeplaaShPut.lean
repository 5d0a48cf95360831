/-
  shard.Put, walked.
-/
import Derived.Test.YthohjcfpobeplaaShMayP
import Derived.Test.YthohjcfpobeplaaShGet
import Derived.Deep.RegionWith
namespace Go.Proofs.Ythohjcfpobeplaa.Sh
open Go.RowKit Rg Go.Sort
set_option linter.unusedVariables false
set_option linter.unusedSimpArgs false

theorem put_zero {s : Sd} {l : List Mg} (h : putC s l = 0) : MaySd s ∧ MayB l ∧ s.rd.length + s.hd.length + l.length ≤ 48 := by
  by_cases h1 : MaySd s
  · by_cases h2 : MayB l
    · refine ⟨h1, h2, ?_⟩
      rw [putC_of h1 h2] at h
      split at h
      · cases h
      · split at h
        · cases h
        · split at h
          · cases h
          · split at h
            · cases h
            · rename_i h3
              exact Classical.byContradiction fun g => h3 (.inl (by omega))
    · rw [putC_arg2 h2] at h; cases h
  · rw [putC_arg1 h1] at h; cases h
theorem bat_end {l : List Mg} (h : MayB l) : (endB l).pub = (firstB l).pub ∧ (endB l).key = (firstB l).key := by
  have h0 : 0 < l.length := h.1
  have := h.2.2 (l.length - 1) (by omega)
  rw [end_get h0, first_get h0]
  have e : l.headD mg0 = l[0] := first_get h0
  rw [e] at this
  exact ⟨this.2.2.1, this.2.2.2.1⟩
theorem mark_len (l : List Mk) (p : Int) (k : List UInt8) (q : Int) : (markF l p k q).length ≤ l.length + 1 := by
  unfold markF
  split <;> simp

set_option maxRecDepth 100000 in
set_option maxHeartbeats 4000000 in
theorem put_any (s : Sd) (ra : Option Addr) (rc : Nat) (ha : Option Addr) (hc : Nat) (ma : Option Addr) (mc : Nat) (a : Option Addr) (cap : Nat) (l : List Mg) (hl9 : l.length ≤ 1000) (w : World) (hs : SdAt w ra rc ha hc ma mc s) (hf : MgsAt w a cap l) (hn : a = none → cap = 0) :
    Calls Try.prog 20 #[.agg #[.bool s.fr, .int .i64 s.nx, .slice ra s.rd.length rc, .slice ha s.hd.length hc, .slice ma s.ms.length mc], .slice a l.length cap] w (ShO (putS s l) (putC s l) w) := by
  obtain ⟨hx, hy, hb0, hWs⟩ := two_box (w := w) (.cells #[.bool s.fr, .int .i64 s.nx, .slice ra s.rd.length rc, .slice ha s.hd.length hc, .slice ma s.ms.length mc] 26) (.cells #[.bool false, .int .i64 0, .slice none 0 0, .slice none 0 0, .slice none 0 0] 26)
  obtain ⟨W, hW⟩ : ∃ W, W = (w.alloc (.cells #[.bool s.fr, .int .i64 s.nx, .slice ra s.rd.length rc, .slice ha s.hd.length hc, .slice ma s.ms.length mc] 26)).alloc (.cells #[.bool false, .int .i64 0, .slice none 0 0, .slice none 0 0, .slice none 0 0] 26) := ⟨_, rfl⟩
  rw [← hW] at hx hy hb0 hWs
  have HBX := Lib.hid (boxes ra rc ha hc ma mc hx hy (by omega))
  have HB0 := Lib.hid hb0
  have HWS := Lib.hid hWs
  have HS1 := Lib.hid (hs.below ra rc ha hc ma mc hb0)
  have HSM := Lib.hid hs.sm
  have HF := Lib.hid hf
  have HN := Lib.hid hn
  have HW := Lib.hid hW
  have HMP := Lib.hid (mayPut_any s ra rc ha hc ma mc a cap l hl9 W HS1.out (hf.below hb0))
  rw [hW] at HMP
  have HOWN := Lib.hid fun wx (hx : Below W.heap.size W wx) => own2_any s ra rc ha hc ma mc wx (HS1.out.below _ _ _ _ _ _ hx)
  clear hs hf hn hx hy hb0 hWs hW
  by_cases h1 : putC s l = 0
  case neg =>
    have HR : Hid (putS s l = s) := Lib.hid (if_neg h1)
    have hne : (putC s l != 0) = true := by simpa using h1
    have hne2 : (putC s l == 0) = false := by simpa using h1
    rw [HR.out]
    generalize putC s l = c at *
    clear h1
    go_enter Try.func20, Try.ntmps20
    go_wp2_with (first | (go_at_call 63; refine HMP.out.mono ?_; rintro e w1 ⟨rfl, hb1⟩; rw [← HW.out] at hb1; have HB1 := Lib.hid hb1; obtain ⟨⟨c0, c1, c2, c3, c4⟩, -⟩ := box5 (HBX.out _ hb1).1; clear hb1) | (go_at_call 64; refine (HOWN.out _ HB1.out).mono ?_; rintro e w2 ⟨ra2, rc2, ha2, hc2, ma2, mc2, rfl, ho2, hb2⟩; have HO2 := Lib.hid ho2; have HSZ := Lib.hid hb2.size; have HB2 := Lib.hid (HB1.out.trans (hb2.mono HB1.out.size)); obtain ⟨⟨d0, d1, d2, d3, d4⟩, f0, f1, f2, f3, f4⟩ := box5 (HBX.out _ HB2.out).2; obtain ⟨⟨e0, e1, e2, e3, e4⟩, k0, k1, k2, k3, k4⟩ := box5 (HBX.out _ HB2.out).1; clear ho2 hb2))
    refine bodyPost_ret (v := .tuple #[.agg #[.bool s.fr, .int .i64 s.nx, .slice ra2 s.rd.length rc2, .slice ha2 s.hd.length hc2, .slice ma2 s.ms.length mc2], .int .i64 c]) (by simp [results, Try.results20, go_sem, *]) rfl ?_
    have hsz := HWS.out
    have hs1 := HB1.out.size
    refine sho_of _ _ _ _ _ _ (HO2.out.kept ?_) (by omega) HSM.out ?_
    · repeat (refine far_set ?_ (by omega))
      exact far_refl _
    · repeat (refine low_set ?_ (by omega))
      exact HB0.out.trans (HB2.out.mono HB0.out.size)
  obtain ⟨hz1, hz2, hz3⟩ := put_zero h1
  have hl0 : 0 < l.length := hz2.1
  obtain ⟨he1, he2⟩ := bat_end hz2
  have HR : Hid (putS s l = { s with rd := s.rd ++ l, ms := markF s.ms (endB l).pub (endB l).key (endB l).seq }) := Lib.hid (by rw [he1, he2]; exact if_pos h1)
  rw [h1] at HMP ⊢
  rw [HR.out, end_get hl0]
  have h0l : (0 : Int) < (l.length : Int) := by omega
  have q1 : IntKind.i64.wrap ((l.length : Int) - 1) = ((l.length - 1 : Nat) : Int) := by rw [IntWalk.i64_in _ (by omega)]; omega
  have q2 : ((l.length - 1 : Nat) : Int) < (l.length : Int) := by omega
  have q3 : (0 : Int) ≤ ((l.length - 1 : Nat) : Int) := by omega
  have q4 : l.length - 1 < l.length := by omega
  have hml := hz1.2.2.2.1
  obtain ⟨lst, hlst⟩ : ∃ x, l[l.length - 1] = x := ⟨_, rfl⟩
  have HLST := Lib.hid hlst
  rw [hlst]
  have HSM2 : Hid ((s.rd ++ l).length ≤ 1000 ∧ s.hd.length ≤ 1000 ∧ (markF s.ms lst.pub lst.key lst.seq).length ≤ 1000) := Lib.hid (by
    have := mark_len s.ms lst.pub lst.key lst.seq
    refine ⟨by rw [List.length_append]; omega, HSM.out.2.1, by omega⟩)
  have HLL : Hid (s.rd.length + l.length ≤ 48) := Lib.hid (by omega)
  have HML : Hid (s.ms.length ≤ 1000) := Lib.hid HSM.out.2.2
  clear h1 hz1 hz2 hz3 he1 he2 hml hlst HR
  go_enter Try.func20, Try.ntmps20
  go_wp2_with (first | (go_at_call 63; refine HMP.out.mono ?_; rintro e w1 ⟨rfl, hb1⟩; rw [← HW.out] at hb1; have HB1 := Lib.hid hb1; obtain ⟨⟨c0, c1, c2, c3, c4⟩, -⟩ := box5 (HBX.out _ hb1).1; clear hb1) | (go_at_call 64; refine (HOWN.out _ HB1.out).mono ?_; rintro e w2 ⟨ra2, rc2, ha2, hc2, ma2, mc2, rfl, ho2, hb2⟩; have HO2 := Lib.hid ho2; have HSZ := Lib.hid hb2.size; have HB2 := Lib.hid (HB1.out.trans (hb2.mono HB1.out.size)); obtain ⟨⟨d0, d1, d2, d3, d4⟩, f0, f1, f2, f3, f4⟩ := box5 (HBX.out _ HB2.out).2; obtain ⟨⟨e0, e1, e2, e3, e4⟩, k0, k1, k2, k3, k4⟩ := box5 (HBX.out _ HB2.out).1; clear ho2 hb2) |
    (at_builtin; have hsz := HWS.out; have hs1 := HB1.out.size; have hs2 := HB2.out.size; have o3 : OwnS (set5 w2 w.heap.size (.bool s.fr) (.int .i64 s.nx) (.slice ra2 s.rd.length rc2) (.slice ha2 s.hd.length hc2) (.slice ma2 s.ms.length mc2)) w1.heap.size s (.slice ra2 s.rd.length rc2) (.slice ha2 s.hd.length hc2) (.slice ma2 s.ms.length mc2) := (HO2.out.kept fun b hb => set5_heap _ _ _ _ _ _ _ _ (by omega)); have b3 : Below w.heap.size w (set5 w2 w.heap.size (.bool s.fr) (.int .i64 s.nx) (.slice ra2 s.rd.length rc2) (.slice ha2 s.hd.length hc2) (.slice ma2 s.ms.length mc2)) := set5_below (HB0.out.trans (HB2.out.mono HB0.out.size)) (Nat.le_refl _) _ _ _ _ _;
      refine put_rows mgE (base := w1.heap.size) (w := set5 w2 w.heap.size (.bool s.fr) (.int .i64 s.nx) (.slice ra2 s.rd.length rc2) (.slice ha2 s.hd.length hc2) (.slice ma2 s.ms.length mc2)) (l := s.rd) (m := l) rfl (.tmp 17) (.tmp 18) rfl o3.rd (by rw [set5_size]; exact HSZ.out) rfl _ rfl rfl (HF.out.below b3) (by have := HLL.out; omega) HN.out ?_; intro v4 w4 hr4 hg4; obtain ⟨xr, cr, rfl, -, -⟩ := OwnE.at mgE hr4; have hlt : ∀ g, (Value.slice ra2 s.rd.length rc2).ownBlock = some g → w.heap.size + 1 < g := (fun g e => (by have := (World.ownsRow.lt HO2.out.rd g e).1; omega)); have x1 := (hg4.block w.heap.size (by rw [set5_size]; omega) (fun e => (by have := hlt _ e.symm; omega))).trans (set5_box (HBX.out _ HB2.out).1 _ _ _ _ _); have x2 := (hg4.block (w.heap.size + 1) (by rw [set5_size]; omega) (fun e => (by have := hlt _ e.symm; omega))).trans ((set5_heap _ _ _ _ _ _ _ _ (by omega)).trans (HBX.out _ HB2.out).2); have HX1 := Lib.hid x1; have HX2 := Lib.hid x2; obtain ⟨⟨a0, a1, a2, a3, a4⟩, b0, b1, b2, b3', b4⟩ := box5 x1; have HR4 := Lib.hid hr4; have HH4 := Lib.hid (OwnE.other o3.rd o3.hd (by decide) hg4); have HK4 := Lib.hid (OwnE.other o3.rd o3.ms (by decide) hg4); have HB4 := Lib.hid (b3.grown hg4 (by rw [set5_size]; omega) (fun k e => (by have := hlt _ e; omega))); have hs4 := hg4.size; rw [set5_size] at hs4; clear hr4 hg4 o3 b3 hlt x1 x2 e0 e1 e2 e3 e4 k0 k1 k2 k3 k4 d0 d1 d2 d3 d4 f0 f1 f2 f3 f4 c0 c1 c2 c3 c4))
  generalize hw5 : World.setCell w4 _ _ = w5
  have b5 : w5.heap[w.heap.size]? = some (.cells #[.bool s.fr, .int .i64 s.nx, .slice xr (s.rd ++ l).length cr, .slice ha2 s.hd.length hc2, .slice ma2 s.ms.length mc2] 26 (0, 0)) := by
    rw [← hw5, List.length_append]
    exact set_heap HX1.out 2 _
  have far5 : ∀ b, b ≠ w.heap.size → w5.heap[b]? = w4.heap[b]? := fun b hb => by rw [← hw5]; exact Below.heap_setCell w4 ⟨w.heap.size, 2, none⟩ _ b hb
  have c5 := (far5 (w.heap.size + 1) (by omega)).trans HX2.out
  have s5 : w5.heap.size = w4.heap.size := by rw [← hw5]; simp
  have bel5 : Below w.heap.size w w5 := by rw [← hw5]; exact low_set HB4.out (Nat.le_refl _)
  have r5 := HR4.out.kept (w' := w5) fun b hb _ => far5 b (by omega)
  have h5 := HH4.out.kept (w' := w5) fun b hb _ => far5 b (by omega)
  have k5 := HK4.out.kept (w' := w5) fun b hb _ => far5 b (by omega)
  have HB5 := Lib.hid bel5
  have HX5 := Lib.hid (And.intro b5 c5)
  have HR5 := Lib.hid r5
  have HH5 := Lib.hid h5
  have HK5 := Lib.hid k5
  have HMA := Lib.hid fun (wx : World) (h : Below w5.heap.size w5 wx) => marked_any s.ms lst HML.out wx w1.heap.size _ (k5.below1 h) (by have := h.size; have := HSZ.out; omega)
  have hf5 := HF.out.below bel5
  obtain ⟨lb, lo, rfl, z0, z1, z2, z3, z4⟩ := MgsAt.get hf5 (l.length - 1) q4
  rw [HLST.out] at z0 z1 z2 z3 z4
  obtain ⟨⟨y0, y1, y2, y3, y4⟩, g0, g1, g2, g3, g4⟩ := box5 b5
  have HKB : Hid (∀ g, (Value.slice ma2 s.ms.length mc2).ownBlock = some g → w.heap.size + 1 < g ∧ g < w5.heap.size) := Lib.hid fun g e => by
    have := World.ownsRow.lt k5 g e
    omega
  have HDR : Hid (Below w5.heap.size w5 w5.drew) := Lib.hid (Below.refl _ _).drew
  have m1 : w.heap.size < w5.heap.size := by omega
  have m2 : w.heap.size + 1 < w5.heap.size := by omega
  clear hw5 b5 c5 far5 bel5 r5 h5 k5 hf5 a0 a1 a2 a3 a4 b0 b1 b2 b3' b4 s5 hs4
  rw [List.length_append] at y2
  go_region_with (first | (go_at_call 65; refine (HMA.out _ HDR.out).mono ?_; rintro e w6 ⟨v6, rfl, hk6, hg6⟩; obtain ⟨xk, ck, rfl, -, -⟩ := OwnE.at mkE hk6; have x1 := (hg6.block w.heap.size (by show _ < w5.heap.size; omega) (fun e => (by have := HKB.out _ e.symm; omega))).trans HX5.out.1; have x2 := (hg6.block (w.heap.size + 1) (by show _ < w5.heap.size; omega) (fun e => (by have := HKB.out _ e.symm; omega))).trans HX5.out.2; obtain ⟨⟨p0, p1, p2, p3, p4⟩, t0, t1, t2, t3, t4⟩ := box5 x1; rw [List.length_append] at p2; obtain ⟨⟨d0, d1, d2, d3, d4⟩, f0, f1, f2, f3, f4⟩ := box5 x2; have HK6 := Lib.hid hk6; have HR6 := Lib.hid (OwnE.other (HK5.out.below1 HDR.out) (HR5.out.below1 HDR.out) (by decide) hg6); have HH6 := Lib.hid (OwnE.other (HK5.out.below1 HDR.out) (HH5.out.below1 HDR.out) (by decide) hg6); have HB6 := Lib.hid ((HB5.out.trans (HDR.out.mono HB5.out.size)).grown hg6 (by show _ ≤ w5.heap.size; omega) (fun k e => (by have := HKB.out _ e; omega))); clear hk6 hg6 x1 x2))
  all_goals
    go_wp2_with fail
    refine bodyPost_ret (v := .tuple #[.agg #[.bool s.fr, .int .i64 s.nx, .slice xr (s.rd ++ l).length cr, .slice ha2 s.hd.length hc2, .slice xk (markF s.ms lst.pub lst.key lst.seq).length ck], .int .i64 0]) (by simp [results, Try.results20, go_sem, p0, p1, p2, p3, p4, d0, d1, d2, d3, d4]) rfl ?_
    have o6 : OwnS w6 w1.heap.size { s with rd := s.rd ++ l, ms := markF s.ms lst.pub lst.key lst.seq } (.slice xr (s.rd ++ l).length cr) (.slice ha2 s.hd.length hc2) (.slice xk (markF s.ms lst.pub lst.key lst.seq).length ck) := ⟨HR6.out, HH6.out, HK6.out⟩
    refine sho_of (s' := { s with rd := s.rd ++ l, ms := markF s.ms lst.pub lst.key lst.seq }) _ _ _ _ _ _ (base := w1.heap.size) (o6.kept ?_) (by omega) HSM2.out ?_
    · repeat (refine far_set ?_ (by omega))
      exact far_refl _
    · repeat (refine low_set ?_ (by omega))
      exact HB6.out

end Go.Proofs.Ythohjcfpobeplaa.Sh
