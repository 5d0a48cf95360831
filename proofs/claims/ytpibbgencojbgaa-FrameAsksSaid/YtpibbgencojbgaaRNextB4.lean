/-
  The document's Next, walked: beats; shorter bytes; all of it.
-/
import Derived.Test.YtpibbgencojbgaaRNext4
namespace Go.Proofs.Ytpibbgencojbgaa
open Go.RowKit
set_option linter.unusedVariables false

set_option maxRecDepth 100000 in
set_option maxHeartbeats 4000000 in
theorem rnext_eight (s : ByteArray) (hl : s.size ≤ 100000) (h7 : 7 ≤ s.size) (k8 : (s[0].toNat : Int) = 8) (c1 : (s[1].toNat : Int) = 0) (c2 : (s[2].toNat : Int) = 0) (w : World) :
    Calls Try.prog 34 #[.string s] w (NextR s.data.toList w) := by
  have hk8 : ((s[0].toNat : Int) == 8) = true := by rw [k8]; rfl
  have hn8 : ((s[0].toNat : Int) != 8) = false := by rw [k8]; rfl
  have k1n : ¬ (s[0].toNat : Int) < 1 := by omega
  have k3n : (3 : Int) < (s[0].toNat : Int) := by omega
  have hc1 : ((s[1].toNat : Int) != 0) = false := by rw [c1]; rfl
  have hc2 : ((s[2].toNat : Int) != 0) = false := by rw [c2]; rfl
  have i7 : ¬ (s.size : Int) < 7 := by omega
  have j0 : (0 : Int) < (s.size : Int) := by omega
  have j1 : (1 : Int) < (s.size : Int) := by omega
  have j2 : (2 : Int) < (s.size : Int) := by omega
  have j3 : (3 : Int) < (s.size : Int) := by omega
  have j4 : (4 : Int) < (s.size : Int) := by omega
  have j5 : (5 : Int) < (s.size : Int) := by omega
  have j6 : (6 : Int) < (s.size : Int) := by omega
  have j33 : (3 : Int) ≤ (s.size : Int) := by omega
  have b3 := s[3].toNat_lt
  have b4 := s[4].toNat_lt
  have b5 := s[5].toNat_lt
  have b6 := s[6].toNat_lt
  have hor := or_four s[3] s[4] s[5] s[6]
  rw [← ln_get (by omega)] at hor
  obtain ⟨n, hn⟩ : ∃ n, n = ln s.data.toList := ⟨_, rfl⟩
  rw [← hn] at hor
  have HNN := Lib.hid hn
  have hlnb : n < 4294967296 := by rw [hn]; exact de_lt4 _
  clear hn
  have hkd : KindOk (kd s.data.toList) := by rw [kd_get (by omega)]; unfold KindOk; omega
  have hkc : FitsN (kd s.data.toList) (cn s.data.toList) 65535 := by
    rw [kd_get (by omega), cn_get (by omega)]
    unfold FitsN
    omega
  have HNX := Lib.hid (nextP_eq (by rw [size_len]; exact h7) hkd hkc)
  have HK0 := Lib.hid (kd_get (s := s) (by omega))
  clear hkd hkc
  have K8 := Lib.hid k8
  clear c1 c2 k8
  have hbel : Below w.heap.size w (w.alloc (.cells #[.int .i64 0, .int .i64 0, .slice none 0 0] 48)) := (Below.refl _ _).alloc (Nat.le_refl _) _
  have hres : (w.alloc (.cells #[.int .i64 0, .int .i64 0, .slice none 0 0] 48)).heap[w.heap.size]? = some (.cells #[.int .i64 0, .int .i64 0, .slice none 0 0] 48 (0, 0)) := heap_alloc_new w _
  have HBEL := Lib.hid hbel
  have HRES := Lib.hid hres
  clear hbel hres
  go_enter Try.func34, Try.ntmps34
  go_wp2_with fail
  go_quiet (fail)
  have hbel : Below w.heap.size w ((w.alloc (.cells #[.int .i64 0, .int .i64 0, .slice none 0 0] 48)).drewN nq) := ⟨HBEL.out.os, HBEL.out.tape, HBEL.out.output, HBEL.out.size, HBEL.out.block⟩
  have hres : ((w.alloc (.cells #[.int .i64 0, .int .i64 0, .slice none 0 0] 48)).drewN nq).heap[w.heap.size]? = some (.cells #[.int .i64 0, .int .i64 0, .slice none 0 0] 48 (0, 0)) := HRES.out
  generalize (w.alloc (.cells #[.int .i64 0, .int .i64 0, .slice none 0 0] 48)).drewN nq = W at *
  obtain ⟨r0, r1, r2⟩ := cells3 hres
  have f0 : W.frozen? ⟨w.heap.size, 0, none⟩ = false := by simp [World.frozen?, hres]
  have f1 : W.frozen? ⟨w.heap.size, 1, none⟩ = false := by simp [World.frozen?, hres]
  have f2 : W.frozen? ⟨w.heap.size, 2, none⟩ = false := by simp [World.frozen?, hres]
  have HB := Lib.hid hbel
  have HR := Lib.hid hres
  clear hbel hres HBEL HRES hor
  by_cases h4 : (4096 : Int) < (n : Int)
  · have HX := Lib.hid (show nextP s.data.toList = .never by rw [HNX.out, if_pos (by rw [HK0.out, ← HNN.out]; unfold FitsN; have := K8.out; omega)])
    go_wp2_with fail
    refine bodyPost_ret (v := .tuple #[.agg #[.int .i64 0, .int .i64 0, .slice none 0 0], .int .i64 0, .int .i64 501]) (by simp [results, Try.results34, go_sem, *]) rfl ?_
    exact ⟨((HB.out.setCell (Nat.le_refl _) _).setCell (Nat.le_refl _) _).setCell (Nat.le_refl _) _, .inr (.inl ⟨HX.out, rfl⟩)⟩
  by_cases h40 : (0 : Int) < (n : Int)
  · have HX := Lib.hid (show nextP s.data.toList = .never by rw [HNX.out, if_pos (by rw [HK0.out, ← HNN.out]; unfold FitsN; have := K8.out; omega)])
    go_wp2_with fail
    refine bodyPost_ret (v := .tuple #[.agg #[.int .i64 0, .int .i64 0, .slice none 0 0], .int .i64 0, .int .i64 501]) (by simp [results, Try.results34, go_sem, *]) rfl ?_
    exact ⟨((HB.out.setCell (Nat.le_refl _) _).setCell (Nat.le_refl _) _).setCell (Nat.le_refl _) _, .inr (.inl ⟨HX.out, rfl⟩)⟩
  by_cases h8 : (s.size : Int) < 8 + (n : Int)
  · have HX := Lib.hid (show nextP s.data.toList = .cut by rw [HNX.out, if_neg (Classical.not_not.2 (by rw [HK0.out, ← HNN.out]; unfold FitsN; have := K8.out; omega)), if_pos (by rw [size_len, ← HNN.out]; omega)])
    go_wp2_with fail
    refine bodyPost_ret (v := .tuple #[.agg #[.int .i64 0, .int .i64 0, .slice none 0 0], .int .i64 0, .int .i64 3]) (by simp [results, Try.results34, go_sem, *]) rfl ?_
    exact ⟨((HB.out.setCell (Nat.le_refl _) _).setCell (Nat.le_refl _) _).setCell (Nat.le_refl _) _, .inl ⟨HX.out, rfl⟩⟩
  have jn : (7 : Int) + (n : Int) < (s.size : Int) := by omega
  have hlst := lst_get (s := s) (n := n) HNN.out.symm (by omega)
  by_cases h9 : s[7 + n].toNat = 206
  rotate_left
  · have HX := Lib.hid (show nextP s.data.toList = .never by rw [HNX.out, if_neg (Classical.not_not.2 (by rw [HK0.out, ← HNN.out]; unfold FitsN; have := K8.out; omega)), if_neg (by rw [size_len, ← HNN.out]; omega), if_pos (by rw [hlst]; exact h9)])
    have hb9 : ((s[7 + n].toNat : Int) != 206) = true := by rw [bne_iff_ne]; omega
    clear hlst
    go_wp2_with fail
    refine bodyPost_ret (v := .tuple #[.agg #[.int .i64 0, .int .i64 0, .slice none 0 0], .int .i64 0, .int .i64 501]) (by simp [results, Try.results34, go_sem, *]) rfl ?_
    exact ⟨((HB.out.setCell (Nat.le_refl _) _).setCell (Nat.le_refl _) _).setCell (Nat.le_refl _) _, .inr (.inl ⟨HX.out, rfl⟩)⟩
  have HX := Lib.hid (show nextP s.data.toList = .got (frm s.data.toList) (8 + ln s.data.toList) by rw [HNX.out, if_neg (Classical.not_not.2 (by rw [HK0.out, ← HNN.out]; unfold FitsN; have := K8.out; omega)), if_neg (by rw [size_len, ← HNN.out]; omega), if_neg (by rw [hlst]; exact Classical.not_not.2 h9)])
  have hb9 : ((s[7 + n].toNat : Int) != 206) = false := by rw [h9]; rfl
  have b0 := s[0].toNat_lt
  have b1 := s[1].toNat_lt
  have b2 := s[2].toNat_lt
  have hoc := or_byte s[1].toNat s[2] (by omega)
  rw [← cn_get (by omega)] at hoc
  obtain ⟨ch, hch⟩ : ∃ ch, ch = cn s.data.toList := ⟨_, rfl⟩
  rw [← hch] at hoc
  have HCH := Lib.hid hch
  clear hch hlst
  obtain ⟨t, ht⟩ : ∃ t, s.extract 7 (7 + n) = t := ⟨_, rfl⟩
  have hts : t.size = n := by rw [← ht, ByteArray.size_extract]; omega
  have htd : t.data.toList = (s.data.toList.drop 7).take n := by rw [← ht, extract_list]
  have HTD := Lib.hid htd
  have HTS := Lib.hid hts
  have hcv : ∀ wx, (convert 9 25 (.string t)).run Try.prog wx = .ok (.slice (some ⟨wx.heap.size, 0, none⟩) n (grownCap wx n 0 5)) (Lib.bytesWorld wx 5 t) := by
    intro wx
    have := Lib.run_convert_string_bytes (P := Try.prog) wx 9 25 5 t Try.underlying9 Try.underlying25 Try.underlying5
    rwa [hts] at this
  have hs7 : (7 : Int) + (n : Int) ≤ (s.size : Int) := by omega
  have hs8 : IntKind.i64.wrap ((7 : Int) + (n : Int)) = (7 : Int) + (n : Int) := IntWalk.i64_in _ (by omega)
  have hs9 : IntKind.i64.wrap ((8 : Int) + (n : Int)) = (8 : Int) + (n : Int) := IntWalk.i64_in _ (by omega)
  have hs10 : ((7 : Int) + (n : Int)).toNat = 7 + n := by omega
  have hsl : ∀ wx, (Instr.slice 9 (.string s) (some (.int .i64 7)) (some (.int .i64 ((7 : Int) + (n : Int)))) none).run Try.prog wx = .ok (.string t) wx := by
    intro wx
    have := run_slice_string (P := Try.prog) (w := wx) 9 s .i64 .i64 7 ((7 : Int) + (n : Int)) Try.underlying9 (by omega) (by omega) (by omega)
    rw [this, hs10]
    show Result.ok (Value.string (s.extract 7 (7 + n))) wx = _
    rw [ht]
  have v0 : IntKind.i64.wrap (s[0].toNat : Int) = (s[0].toNat : Int) := IntWalk.i64_in _ (by omega)
  have v1 : IntKind.i64.wrap (s[1].toNat : Int) = (s[1].toNat : Int) := IntWalk.i64_in _ (by omega)
  have v2 : IntKind.i64.wrap (s[2].toNat : Int) = (s[2].toNat : Int) := IntWalk.i64_in _ (by omega)
  have v3 : IntKind.i64.wrap ((s[1].toNat : Int) * 256) = (s[1].toNat : Int) * 256 := IntWalk.i64_in _ (by omega)
  have hbw := bytes_below W.drew 5 t
  have hres2 : (Lib.bytesWorld W.drew 5 t).heap[w.heap.size]? = some (.cells #[.int .i64 0, .int .i64 0, .slice none 0 0] 48 (0, 0)) := (hbw.block _ (Array.getElem?_eq_some_iff.1 HR.out).1).trans HR.out
  obtain ⟨g0, g1, g2⟩ := cells3 hres2
  have p0 : (Lib.bytesWorld W.drew 5 t).frozen? ⟨w.heap.size, 0, none⟩ = false := by simp [World.frozen?, hres2]
  have p1 : (Lib.bytesWorld W.drew 5 t).frozen? ⟨w.heap.size, 1, none⟩ = false := by simp [World.frozen?, hres2]
  have p2 : (Lib.bytesWorld W.drew 5 t).frozen? ⟨w.heap.size, 2, none⟩ = false := by simp [World.frozen?, hres2]
  have hrg : RgS w (Lib.bytesWorld W.drew 5 t) := ⟨⟨_, _, _, hres2⟩, HB.out.drew.trans (hbw.mono HB.out.size)⟩
  have HRG := Lib.hid hrg
  have hwlt : w.heap.size < W.heap.size := (Array.getElem?_eq_some_iff.1 HR.out).1
  clear htd hts hrg ht hs10 hbw hres2
  go_wp2_with fail
  go_region
  have hrow := HRG.out.row (.int .i64 (s[0].toNat : Int)) (.int .i64 (ch : Int)) (.slice (some ⟨W.heap.size, 0, none⟩) n (grownCap W.drew n 0 5))
  have hset := (HRG.out.set (.int .i64 (s[0].toNat : Int)) (.int .i64 (ch : Int)) (.slice (some ⟨W.heap.size, 0, none⟩) n (grownCap W.drew n 0 5))).2
  have hdat : BytesAt (W.heap.size + 1) ((((Lib.bytesWorld W.drew 5 t).setCell ⟨w.heap.size, 0, none⟩ (.int .i64 (s[0].toNat : Int))).setCell ⟨w.heap.size, 1, none⟩ (.int .i64 (ch : Int))).setCell ⟨w.heap.size, 2, none⟩ (.slice (some ⟨W.heap.size, 0, none⟩) n (grownCap W.drew n 0 5))) (some ⟨W.heap.size, 0, none⟩) ((s.data.toList.drop 7).take n) := by
    intro h0
    refine ⟨W.heap.size, 0, rfl, by omega, fun i hi => ?_⟩
    have hne : W.heap.size ≠ w.heap.size := by omega
    rw [World.cell?_setCell_other _ _ _ _ (fun e => hne (congrArg Addr.block e).symm), World.cell?_setCell_other _ _ _ _ (fun e => hne (congrArg Addr.block e).symm), World.cell?_setCell_other _ _ _ _ (fun e => hne (congrArg Addr.block e).symm), Nat.zero_add]
    have hin : i < n := by rw [List.length_take] at hi; omega
    have := Lib.bytesWorld_cell W.drew 5 t i (by rw [HTS.out]; exact hin)
    rw [HTD.out] at this
    refine Eq.trans this ?_
    rw [List.getD, List.getElem?_eq_getElem hi]
    rfl
  have hsz : ((((Lib.bytesWorld W.drew 5 t).setCell ⟨w.heap.size, 0, none⟩ (.int .i64 (s[0].toNat : Int))).setCell ⟨w.heap.size, 1, none⟩ (.int .i64 (ch : Int))).setCell ⟨w.heap.size, 2, none⟩ (.slice (some ⟨W.heap.size, 0, none⟩) n (grownCap W.drew n 0 5))).heap.size = W.heap.size + 1 := by
    have := Lib.bytesWorld_size W.drew 5 t
    simpa [World.setCell] using this
  have hge := grownCap_ge W.drew n 0 5
  have hgm : grownCap W.drew n 0 5 ≤ maxLen := grownCap_le_maxLen W.drew n 0 5 (by unfold maxLen; omega)
  generalize (((Lib.bytesWorld W.drew 5 t).setCell ⟨w.heap.size, 0, none⟩ (.int .i64 (s[0].toNat : Int))).setCell ⟨w.heap.size, 1, none⟩ (.int .i64 (ch : Int))).setCell ⟨w.heap.size, 2, none⟩ (.slice (some ⟨W.heap.size, 0, none⟩) n (grownCap W.drew n 0 5)) = X at *
  obtain ⟨gc, hgc⟩ : ∃ gc, gc = grownCap W.drew n 0 5 := ⟨_, rfl⟩
  rw [← hgc] at hrow hge hgm
  rw [← hgc]
  obtain ⟨z0, z1, z2⟩ := cells3 hrow
  have HSET := Lib.hid hset
  have HSZ := Lib.hid hsz
  have HDAT := Lib.hid hdat
  clear hgc hset hsz hdat hrow hcv hsl hs8 hs9 v0 v1 v2 v3 g0 g1 g2 p0 p1 p2 hoc
  go_wp2_with fail
  refine bodyPost_ret (v := .tuple #[.agg #[.int .i64 (s[0].toNat : Int), .int .i64 (ch : Int), .slice (some ⟨W.heap.size, 0, none⟩) n gc], .int .i64 ((8 + n : Nat) : Int), .int .i64 0]) (by simp [results, Try.results34, go_sem, *]) rfl ?_
  have hfl : (frm s.data.toList).data.length = n := by
    show ((s.data.toList.drop 7).take (ln s.data.toList)).length = n
    rw [List.length_take, List.length_drop, size_len, ← HNN.out]
    omega
  refine ⟨HSET.out, .inr (.inr ⟨_, _, some ⟨W.heap.size, 0, none⟩, gc, HX.out, ?_, ?_, hgm, ?_, ?_⟩)⟩
  · rw [hfl, ← HNN.out]
    show _ = Ending.returned (.tuple #[Value.agg #[.int .i64 ((kd s.data.toList : Nat) : Int), .int .i64 ((cn s.data.toList : Nat) : Int), _], _, _])
    rw [HK0.out, ← HCH.out]
    try rfl
  · rw [hfl]; exact hge
  · rw [HSZ.out]
    show BytesAt _ _ _ ((s.data.toList.drop 7).take (ln s.data.toList))
    rw [← HNN.out]
    exact HDAT.out
  · intro x hx
    cases hx
    show w.heap.size ≤ W.heap.size
    omega

set_option maxRecDepth 100000 in
set_option maxHeartbeats 4000000 in
theorem rnext_short3 (s : ByteArray) (h0 : 0 < s.size) (h7 : s.size < 7) (k1 : 1 ≤ (s[0].toNat : Int)) (k3 : (s[0].toNat : Int) ≤ 3) (w : World) :
    Calls Try.prog 34 #[.string s] w (NextR s.data.toList w) := by
  have hk8 : ((s[0].toNat : Int) == 8) = false := by rw [beq_eq_false_iff_ne]; omega
  have hn8 : ((s[0].toNat : Int) != 8) = true := by rw [bne_iff_ne]; omega
  have k1n : ¬ (s[0].toNat : Int) < 1 := by omega
  have k3n : ¬ (3 : Int) < (s[0].toNat : Int) := by omega
  have i7 : (s.size : Int) < 7 := by omega
  have j0 : (0 : Int) < (s.size : Int) := by omega
  have hkd : KindOk (kd s.data.toList) := by rw [kd_get h0]; unfold KindOk; omega
  have hkc : FitsN (kd s.data.toList) (cn s.data.toList) 65535 := by
    have := cn_lt s.data.toList
    rw [kd_get h0]
    unfold FitsN
    omega
  have hx : nextP s.data.toList = .cut := by
    unfold nextP
    rw [size_len, if_neg (by omega), if_neg (Classical.not_not.2 hkd)]
    by_cases h3 : s.size < 3
    · rw [if_pos h3]
    · rw [if_neg h3, if_neg (Classical.not_not.2 hkc), if_pos h7]
  have HX := Lib.hid hx
  clear hx hkd hkc
  by_cases h3 : (3 : Int) ≤ (s.size : Int)
  · skip
    go_enter Try.func34, Try.ntmps34
    go_wp2_with fail
    refine bodyPost_ret (v := .tuple #[.agg #[.int .i64 0, .int .i64 0, .slice none 0 0], .int .i64 0, .int .i64 3]) (by simp [results, Try.results34, go_sem, *]) rfl ?_
    exact ⟨(Below.refl _ _).alloc (Nat.le_refl _) _, .inl ⟨HX.out, rfl⟩⟩
  · skip
    go_enter Try.func34, Try.ntmps34
    go_wp2_with fail
    refine bodyPost_ret (v := .tuple #[.agg #[.int .i64 0, .int .i64 0, .slice none 0 0], .int .i64 0, .int .i64 3]) (by simp [results, Try.results34, go_sem, *]) rfl ?_
    exact ⟨(Below.refl _ _).alloc (Nat.le_refl _) _, .inl ⟨HX.out, rfl⟩⟩

set_option maxRecDepth 100000 in
set_option maxHeartbeats 4000000 in
theorem rnext_short8 (s : ByteArray) (h0 : 0 < s.size) (k8 : s[0].toNat = 8) (h7 : s.size < 3 ∨ ∃ h : 2 < s.size, (¬ s[1].toNat = 0 ∨ (s[1].toNat = 0 ∧ ¬ s[2].toNat = 0)) ∨ (s[1].toNat = 0 ∧ s[2].toNat = 0 ∧ s.size < 7)) (w : World) :
    Calls Try.prog 34 #[.string s] w (NextR s.data.toList w) := by
  have hk8 : ((s[0].toNat : Int) == 8) = true := by rw [k8]; rfl
  have hn8 : ((s[0].toNat : Int) != 8) = false := by rw [k8]; rfl
  have k1n : ¬ (s[0].toNat : Int) < 1 := by omega
  have k3n : (3 : Int) < (s[0].toNat : Int) := by omega
  have j0 : (0 : Int) < (s.size : Int) := by omega
  have hkd : KindOk (kd s.data.toList) := by rw [kd_get h0]; unfold KindOk; omega
  have hx1 : s.size < 3 → nextP s.data.toList = .cut := by
    intro h3
    unfold nextP
    rw [size_len, if_neg (by omega), if_neg (Classical.not_not.2 hkd), if_pos h3]
  have hx2 : ¬ s.size < 3 → ¬ FitsN (kd s.data.toList) (cn s.data.toList) 65535 → nextP s.data.toList = .never := by
    intro h3 hc
    unfold nextP
    rw [size_len, if_neg (by omega), if_neg (Classical.not_not.2 hkd), if_neg h3, if_pos hc]
  have hx3 : ¬ s.size < 3 → FitsN (kd s.data.toList) (cn s.data.toList) 65535 → s.size < 7 → nextP s.data.toList = .cut := by
    intro h3 hc h7
    unfold nextP
    rw [size_len, if_neg (by omega), if_neg (Classical.not_not.2 hkd), if_neg h3, if_neg (Classical.not_not.2 hc), if_pos h7]
  have hcn : ∀ h : 2 < s.size, FitsN (kd s.data.toList) (cn s.data.toList) 65535 ↔ s[1].toNat = 0 ∧ s[2].toNat = 0 := by
    intro h
    rw [kd_get h0, cn_get h, k8]
    unfold FitsN
    omega
  rcases h7 with h3 | ⟨h3, (h1 | ⟨h1, h2⟩) | ⟨h1, h2, h7⟩⟩
  · have HX := Lib.hid (hx1 h3)
    have i3 : ¬ (3 : Int) ≤ (s.size : Int) := by omega
    have i7 : (s.size : Int) < 7 := by omega
    clear hx1 hx2 hx3 hkd hcn k8
    go_enter Try.func34, Try.ntmps34
    go_wp2_with fail
    refine bodyPost_ret (v := .tuple #[.agg #[.int .i64 0, .int .i64 0, .slice none 0 0], .int .i64 0, .int .i64 3]) (by simp [results, Try.results34, go_sem, *]) rfl ?_
    exact ⟨(Below.refl _ _).alloc (Nat.le_refl _) _, .inl ⟨HX.out, rfl⟩⟩
  · have HX := Lib.hid (hx2 (by omega) (by rw [hcn h3]; omega))
    have i3 : (3 : Int) ≤ (s.size : Int) := by omega
    have j1 : (1 : Int) < (s.size : Int) := by omega
    have hc1 : ((s[1].toNat : Int) != 0) = true := by rw [bne_iff_ne]; omega
    clear hx1 hx2 hx3 hkd hcn k8 h1
    go_enter Try.func34, Try.ntmps34
    go_wp2_with fail
    refine bodyPost_ret (v := .tuple #[.agg #[.int .i64 0, .int .i64 0, .slice none 0 0], .int .i64 0, .int .i64 501]) (by simp [results, Try.results34, go_sem, *]) rfl ?_
    exact ⟨(Below.refl _ _).alloc (Nat.le_refl _) _, .inr (.inl ⟨HX.out, rfl⟩)⟩
  · have HX := Lib.hid (hx2 (by omega) (by rw [hcn h3]; omega))
    have i3 : (3 : Int) ≤ (s.size : Int) := by omega
    have j1 : (1 : Int) < (s.size : Int) := by omega
    have j2 : (2 : Int) < (s.size : Int) := by omega
    have hc1 : ((s[1].toNat : Int) != 0) = false := by rw [h1]; rfl
    have hc2 : ((s[2].toNat : Int) != 0) = true := by rw [bne_iff_ne]; omega
    clear hx1 hx2 hx3 hkd hcn k8 h1 h2
    go_enter Try.func34, Try.ntmps34
    go_wp2_with fail
    refine bodyPost_ret (v := .tuple #[.agg #[.int .i64 0, .int .i64 0, .slice none 0 0], .int .i64 0, .int .i64 501]) (by simp [results, Try.results34, go_sem, *]) rfl ?_
    exact ⟨(Below.refl _ _).alloc (Nat.le_refl _) _, .inr (.inl ⟨HX.out, rfl⟩)⟩
  · have HX := Lib.hid (hx3 (by omega) ((hcn h3).2 ⟨h1, h2⟩) h7)
    have i3 : (3 : Int) ≤ (s.size : Int) := by omega
    have i7 : (s.size : Int) < 7 := by omega
    have j1 : (1 : Int) < (s.size : Int) := by omega
    have j2 : (2 : Int) < (s.size : Int) := by omega
    have hc1 : ((s[1].toNat : Int) != 0) = false := by rw [h1]; rfl
    have hc2 : ((s[2].toNat : Int) != 0) = false := by rw [h2]; rfl
    clear hx1 hx2 hx3 hkd hcn k8 h1 h2
    go_enter Try.func34, Try.ntmps34
    go_wp2_with fail
    refine bodyPost_ret (v := .tuple #[.agg #[.int .i64 0, .int .i64 0, .slice none 0 0], .int .i64 0, .int .i64 3]) (by simp [results, Try.results34, go_sem, *]) rfl ?_
    exact ⟨(Below.refl _ _).alloc (Nat.le_refl _) _, .inl ⟨HX.out, rfl⟩⟩

theorem rnext_any (l : List UInt8) (hl : l.length ≤ 100000) (w : World) : Calls Try.prog 34 #[.string ⟨l.toArray⟩] w (NextR l w) := by
  rcases Nat.eq_zero_or_pos l.length with h0 | h0
  · obtain rfl : l = [] := List.eq_nil_of_length_eq_zero h0
    exact rnext_nil w
  · obtain ⟨s, hs⟩ : ∃ s : ByteArray, s = ⟨l.toArray⟩ := ⟨_, rfl⟩
    have hsl : s.data.toList = l := by rw [hs]
    have hsz : s.size = l.length := by rw [← hsl, size_len]
    rw [← hs, ← hsl]
    clear hs
    by_cases hk : KindOk (kd s.data.toList)
    · have h0s : 0 < s.size := by omega
      have hk2 := hk
      rw [kd_get h0s] at hk2
      unfold KindOk at hk2
      by_cases h8 : s[0].toNat = 8
      · by_cases h3 : s.size < 3
        · exact rnext_short8 s h0s h8 (.inl h3) w
        · have h2 : 2 < s.size := by omega
          by_cases e1 : s[1].toNat = 0
          · by_cases e2 : s[2].toNat = 0
            · by_cases h7 : s.size < 7
              · exact rnext_short8 s h0s h8 (.inr ⟨h2, .inr ⟨e1, e2, h7⟩⟩) w
              · exact rnext_eight s (by omega) (by omega) (by omega) (by omega) (by omega) w
            · exact rnext_short8 s h0s h8 (.inr ⟨h2, .inl (.inr ⟨e1, e2⟩)⟩) w
          · exact rnext_short8 s h0s h8 (.inr ⟨h2, .inl (.inl e1)⟩) w
      · by_cases h7 : s.size < 7
        · exact rnext_short3 s h0s h7 (by omega) (by omega) w
        · exact rnext_three s (by omega) (by omega) (by omega) (by omega) w
    · exact rnext_kind s (by omega) (by omega) hk w

end Go.Proofs.Ytpibbgencojbgaa
