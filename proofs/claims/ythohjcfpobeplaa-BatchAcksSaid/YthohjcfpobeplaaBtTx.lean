/-
  batch's Publish, walked (printed by tools/gen_bpub.py).
  batch's Ack of a transaction, walked (printed by tools/gen_back.py).
  Take of a transaction, walked; the document's.
  A transaction of the walk's own: its box and its rows lie in blocks from B on, so each call on it leaves what stood there before.
-/
import Derived.Test.YthohjcfpobeplaaBtBase
import Derived.Deep.RegionLaw
import Derived.BigQuiet
import Derived.Deep.CutRange

namespace Go.Proofs.Ythohjcfpobeplaa.Bt
open Go.RowKit Rg Sh Go.Sort
set_option linter.unusedVariables false
set_option linter.unusedSimpArgs false

theorem pub_nil (q s : Int) (k b : List UInt8) (w : World) : Calls Try.prog 48 #[.pointer none, .int .i64 q, .string ⟨k.toArray⟩, .int .i64 s, .string ⟨b.toArray⟩] w fun e w' => e = .returned (.int .i64 7) ∧ w = w' := by
  go_enter Try.func48, Try.ntmps48
  go_wp2_with fail
  go_ret
  exact ⟨rfl, rfl⟩
set_option maxRecDepth 100000 in
set_option maxHeartbeats 4000000 in
theorem pub_any (g : Nat) (t : Tx) (pv tv : Value) (q s : Int) (k b : List UInt8) (w : World) (hm : MayTx t) (h : TxAt w g t pv tv) :
    Calls Try.prog 48 #[.pointer (some ⟨g, 0, none⟩), .int .i64 q, .string ⟨k.toArray⟩, .int .i64 s, .string ⟨b.toArray⟩] w (PubR g (pubT t q k s b) (pubC t q k s b) pv tv w) := by
  obtain ⟨pa, pc, ta, tc, rfl, rfl, hmg, hin, hpn, htn⟩ := tx_form h
  have hglt := h.lt
  have HM := Lib.hid hm
  have HT := Lib.hid h
  have HMG := Lib.hid hmg
  have HB0 : Hid (Below w.heap.size w (w.alloc (.cells #[.int .i64 t.pub, .int .i64 s, .string ⟨k.toArray⟩, .string ⟨b.toArray⟩, .bool false] 35))) := Lib.hid ((Below.refl _ _).alloc (Nat.le_refl _) _)
  have HMB := Lib.hid (maybe_any q k (w.alloc (.cells #[.int .i64 t.pub, .int .i64 s, .string ⟨k.toArray⟩, .string ⟨b.toArray⟩, .bool false] 35)))
  have HMM := Lib.hid (show Calls Try.prog 62 #[.agg #[.int .i64 t.pub, .int .i64 s, .string ⟨k.toArray⟩, .string ⟨b.toArray⟩, .bool false]] (w.alloc (.cells #[.int .i64 t.pub, .int .i64 s, .string ⟨k.toArray⟩, .string ⟨b.toArray⟩, .bool false] 35)) fun e w' => e = .returned (.bool (decide (MayMg (pubM t k s b)))) ∧ Grew (w.alloc (.cells #[.int .i64 t.pub, .int .i64 s, .string ⟨k.toArray⟩, .string ⟨b.toArray⟩, .bool false] 35)) w' from mayMsg_any (pubM t k s b) _)
  have HEL := Lib.hid fun (wx : World) (hb : Below w.heap.size w wx) => els_any g t (.slice pa t.put.length pc) (.slice ta t.tags.length tc) q k wx hm (h.below hb)
  obtain ⟨⟨c0, c1, c2, c3, c4⟩, -⟩ := box5 h.bx
  clear h hmg hin hpn htn
  have hl8 := hm.1
  clear hm
  by_cases h1 : MayBe q k
  case neg =>
    obtain ⟨e1, e2⟩ := pub_bad (t := t) (q := q) (k := k) (s := s) (b := b) (c := 1) (by unfold pubC; rw [if_pos (fun h => h1 h.1)]) (by decide)
    rw [e1, e2]
    rw [decide_eq_false h1] at HMB
    clear h1
    go_enter Try.func48, Try.ntmps48
    go_wp2_with (first | (go_at_call 91; refine HMB.out.mono ?_; rintro e w1 ⟨rfl, rfl⟩) | (go_at_call 62; refine HMM.out.mono ?_; rintro e w2 ⟨rfl, hg2⟩; have HB2 := Lib.hid (HB0.out.trans (hg2.below.mono HB0.out.size)); have HXM := Lib.hid (hg2.below.block w.heap.size (by simp) |>.trans (heap_alloc_new w _)); have HT2 := Lib.hid (HT.out.below HB2.out); obtain ⟨⟨c0, c1, c2, c3, c4⟩, f0, f1, f2, f3, f4⟩ := box5 HT2.out.bx; clear hg2) | (go_at_call 92; refine (HEL.out w2 HB2.out).mono ?_; rintro e w3 ⟨rfl, n3, rfl⟩))
    go_ret
    exact pub_same HT.out HB0.out
  rw [decide_eq_true h1] at HMB
  clear c1 c2 c3 c4
  by_cases h2 : MayMg (pubM t k s b)
  case neg =>
    obtain ⟨e1, e2⟩ := pub_bad (t := t) (q := q) (k := k) (s := s) (b := b) (c := 1) (by unfold pubC; rw [if_pos (fun h => h2 h.2)]) (by decide)
    rw [e1, e2]
    rw [decide_eq_false h2] at HMM
    clear h1 h2
    go_enter Try.func48, Try.ntmps48
    go_wp2_with (first | (go_at_call 91; refine HMB.out.mono ?_; rintro e w1 ⟨rfl, rfl⟩) | (go_at_call 62; refine HMM.out.mono ?_; rintro e w2 ⟨rfl, hg2⟩; have HB2 := Lib.hid (HB0.out.trans (hg2.below.mono HB0.out.size)); have HXM := Lib.hid (hg2.below.block w.heap.size (by simp) |>.trans (heap_alloc_new w _)); have HT2 := Lib.hid (HT.out.below HB2.out); obtain ⟨⟨c0, c1, c2, c3, c4⟩, f0, f1, f2, f3, f4⟩ := box5 HT2.out.bx; clear hg2) | (go_at_call 92; refine (HEL.out w2 HB2.out).mono ?_; rintro e w3 ⟨rfl, n3, rfl⟩))
    go_ret
    exact pub_same HT.out HB2.out
  rw [decide_eq_true h2] at HMM
  by_cases h3 : Els t q k
  case pos =>
    obtain ⟨e1, e2⟩ := pub_bad (t := t) (q := q) (k := k) (s := s) (b := b) (c := 540) (by unfold pubC; rw [if_neg (fun h => h ⟨h1, h2⟩), if_pos h3]) (by decide)
    rw [e1, e2]
    rw [decide_eq_true h3] at HEL
    clear h1 h2 h3
    go_enter Try.func48, Try.ntmps48
    go_wp2_with (first | (go_at_call 91; refine HMB.out.mono ?_; rintro e w1 ⟨rfl, rfl⟩) | (go_at_call 62; refine HMM.out.mono ?_; rintro e w2 ⟨rfl, hg2⟩; have HB2 := Lib.hid (HB0.out.trans (hg2.below.mono HB0.out.size)); have HXM := Lib.hid (hg2.below.block w.heap.size (by simp) |>.trans (heap_alloc_new w _)); have HT2 := Lib.hid (HT.out.below HB2.out); obtain ⟨⟨c0, c1, c2, c3, c4⟩, f0, f1, f2, f3, f4⟩ := box5 HT2.out.bx; clear hg2) | (go_at_call 92; refine (HEL.out w2 HB2.out).mono ?_; rintro e w3 ⟨rfl, n3, rfl⟩))
    go_ret
    exact pub_same HT.out (Rg.Below.drewN HB2.out _)
  rw [decide_eq_false h3] at HEL
  by_cases h4 : t.put.length = 8
  case pos =>
    obtain ⟨e1, e2⟩ := pub_bad (t := t) (q := q) (k := k) (s := s) (b := b) (c := 4) (by unfold pubC; rw [if_neg (fun h => h ⟨h1, h2⟩), if_neg h3, if_pos h4]) (by decide)
    rw [e1, e2]
    have q4 : ((t.put.length : Int) == 8) = true := by rw [beq_iff_eq]; omega
    clear h1 h2 h3
    go_enter Try.func48, Try.ntmps48
    go_wp2_with (first | (go_at_call 91; refine HMB.out.mono ?_; rintro e w1 ⟨rfl, rfl⟩) | (go_at_call 62; refine HMM.out.mono ?_; rintro e w2 ⟨rfl, hg2⟩; have HB2 := Lib.hid (HB0.out.trans (hg2.below.mono HB0.out.size)); have HXM := Lib.hid (hg2.below.block w.heap.size (by simp) |>.trans (heap_alloc_new w _)); have HT2 := Lib.hid (HT.out.below HB2.out); obtain ⟨⟨c0, c1, c2, c3, c4⟩, f0, f1, f2, f3, f4⟩ := box5 HT2.out.bx; clear hg2) | (go_at_call 92; refine (HEL.out w2 HB2.out).mono ?_; rintro e w3 ⟨rfl, n3, rfl⟩))
    go_ret
    exact pub_same HT.out (Rg.Below.drewN HB2.out _)
  have q4 : ((t.put.length : Int) == 8) = false := by rw [beq_eq_false_iff_ne]; omega
  by_cases h5 : 0 < t.put.length
  case neg =>
    obtain ⟨e1, e2⟩ := pub_good (t := t) (q := q) (k := k) (s := s) (b := b) (by unfold pubC; rw [if_neg (fun h => h ⟨h1, h2⟩), if_neg h3, if_neg h4, if_neg (fun h => h5 h.1)])
    rw [e1, e2]
    have q5 : ¬ (0 : Int) < (t.put.length : Int) := by omega
    clear h1 h2 h3 h4
    go_enter Try.func48, Try.ntmps48
    go_wp2_with (first | (go_at_call 91; refine HMB.out.mono ?_; rintro e w1 ⟨rfl, rfl⟩) | (go_at_call 62; refine HMM.out.mono ?_; rintro e w2 ⟨rfl, hg2⟩; have HB2 := Lib.hid (HB0.out.trans (hg2.below.mono HB0.out.size)); have HXM := Lib.hid (hg2.below.block w.heap.size (by simp) |>.trans (heap_alloc_new w _)); have HT2 := Lib.hid (HT.out.below HB2.out); obtain ⟨⟨c0, c1, c2, c3, c4⟩, f0, f1, f2, f3, f4⟩ := box5 HT2.out.bx; clear hg2) | (go_at_call 92; refine (HEL.out w2 HB2.out).mono ?_; rintro e w3 ⟨rfl, n3, rfl⟩))
    go_quiet (fail)
    go_wp2_with fail
    obtain ⟨hs1, hs2⟩ := set_two HT2.out (n3 + nq) q k
    have hz : w2.heap.size ≤ (((w2.drewN (n3 + nq)).setCell ⟨g, 1, none⟩ (.int .i64 q)).setCell ⟨g, 2, none⟩ (.string ⟨k.toArray⟩)).heap.size := hs2.size
    have hxm := hs2.box HXM.out (by rw [List.mem_singleton]; omega)
    have hk0 := (Kept.of_below (bs := [g]) HB2.out).trans hs2 (fun x hx => .inl hx)
    clear f0 f1 f2 f3 f4
    generalize (((w2.drewN (n3 + nq)).setCell ⟨g, 1, none⟩ (.int .i64 q)).setCell ⟨g, 2, none⟩ (.string ⟨k.toArray⟩)) = W at *
    obtain ⟨⟨c0, c1, c2, c3, c4⟩, -⟩ := box5 hs1.bx
    obtain ⟨⟨m0, m1, m2, m3, m4⟩, -⟩ := box5 hxm
    have z1 : w.heap.size < W.heap.size := (Array.getElem?_eq_some_iff.1 hxm).1
    have z2 : ¬ w.heap.size = W.heap.size := by omega
    have z3 : g < W.heap.size := by omega
    have z4 : ¬ g = W.heap.size := by omega
    have HK := Lib.hid hk0.drew
    have HD := Lib.hid (hs1.below (Below.refl _ _).drew)
    have HO : Hid (OwnG W.drew 0 (.slice pa t.put.length pc) t.put) := Lib.hid HD.out.put
    clear hs1 hs2 hxm hk0 hz
    go_region_law (first | (refine step_put_lies mgE (pubM t k s b) (w := W.drew) rfl (.tmp 81) (.tmp 83) rfl HO.out (Nat.zero_le _) (by omega) _ rfl rfl _ rfl rfl ?_; intro v' w' ho hg hl; obtain ⟨xa, xc, rfl, -, -⟩ := OwnE.at mgE ho; have hEND := pub_end HD.out HK.out ho hg hl; rw [show (t.put ++ [pubM t k s b]).length = t.put.length + 1 from List.length_append] at hEND; obtain ⟨p1, -, -, -⟩ := push_tx (i := 3) HD.out.bx HO.out ho (by decide) hg; obtain ⟨⟨j0, j1, j2, j3, j4⟩, k0, k1, k2, k3, k4⟩ := box5 p1; have HEND := Lib.hid hEND; clear ho hg hl p1 hEND))
    all_goals
      go_wp2_with fail
      go_ret
      exact HEND.out
  have hse := (HM.out.2.2.1 (endT t) (by rw [end_get h5]; exact List.getElem_mem _)).1.2.2
  obtain ⟨eb, eo, rfl, -, x1, -⟩ := MgsAt.get HMG.out (t.put.length - 1) (by omega)
  rw [← end_get h5] at x1
  have q5 : (0 : Int) < (t.put.length : Int) := by omega
  have q6 : IntKind.i64.wrap ((t.put.length : Int) - 1) = ((t.put.length - 1 : Nat) : Int) := by rw [IntWalk.i64_in _ (by omega)]; omega
  have q7 : ((t.put.length - 1 : Nat) : Int) < (t.put.length : Int) := by omega
  have q8 : (0 : Int) ≤ ((t.put.length - 1 : Nat) : Int) := by omega
  have q9 : IntKind.i64.wrap ((endT t).seq + 1) = (endT t).seq + 1 := IntWalk.i64_in _ (by omega)
  have HX1 := Lib.hid x1
  clear x1 hse
  by_cases h6 : s = (endT t).seq + 1
  case neg =>
    obtain ⟨e1, e2⟩ := pub_bad (t := t) (q := q) (k := k) (s := s) (b := b) (c := 1) (by unfold pubC; rw [if_neg (fun h => h ⟨h1, h2⟩), if_neg h3, if_neg h4, if_pos ⟨h5, h6⟩]) (by decide)
    rw [e1, e2]
    have q10 : (s == (endT t).seq + 1) = false := by simpa using h6
    have q11 : (s != (endT t).seq + 1) = true := by simpa using h6
    clear h1 h2 h3 h4 h6 e1 e2
    go_enter Try.func48, Try.ntmps48
    go_wp2_with (first | (go_at_call 91; refine HMB.out.mono ?_; rintro e w1 ⟨rfl, rfl⟩) | (go_at_call 62; refine HMM.out.mono ?_; rintro e w2 ⟨rfl, hg2⟩; have HB2 := Lib.hid (HB0.out.trans (hg2.below.mono HB0.out.size)); have HXM := Lib.hid (hg2.below.block w.heap.size (by simp) |>.trans (heap_alloc_new w _)); have HT2 := Lib.hid (HT.out.below HB2.out); obtain ⟨⟨c0, c1, c2, c3, c4⟩, f0, f1, f2, f3, f4⟩ := box5 HT2.out.bx; clear hg2) | (go_at_call 92; refine (HEL.out w2 HB2.out).mono ?_; rintro e w3 ⟨rfl, n3, rfl⟩))
    have x1 := (HB2.out.cell (p := ⟨eb, _, none⟩) (lt_of_cell HX1.out)).trans HX1.out
    generalize (endT t).seq = es at *
    go_quiet (fail)
    go_wp2_with fail
    go_ret
    exact pub_same HT.out (Rg.Below.drewN (Rg.Below.drewN HB2.out _) _)
  obtain ⟨e1, e2⟩ := pub_good (t := t) (q := q) (k := k) (s := s) (b := b) (by unfold pubC; rw [if_neg (fun h => h ⟨h1, h2⟩), if_neg h3, if_neg h4, if_neg (fun h => h.2 h6)])
  rw [e1, e2]
  have q10 : (s == (endT t).seq + 1) = true := by simpa using h6
  have q11 : (s != (endT t).seq + 1) = false := by simpa using h6
  clear h1 h2 h3 h4 h6 e1 e2
  go_enter Try.func48, Try.ntmps48
  go_wp2_with (first | (go_at_call 91; refine HMB.out.mono ?_; rintro e w1 ⟨rfl, rfl⟩) | (go_at_call 62; refine HMM.out.mono ?_; rintro e w2 ⟨rfl, hg2⟩; have HB2 := Lib.hid (HB0.out.trans (hg2.below.mono HB0.out.size)); have HXM := Lib.hid (hg2.below.block w.heap.size (by simp) |>.trans (heap_alloc_new w _)); have HT2 := Lib.hid (HT.out.below HB2.out); obtain ⟨⟨c0, c1, c2, c3, c4⟩, f0, f1, f2, f3, f4⟩ := box5 HT2.out.bx; clear hg2) | (go_at_call 92; refine (HEL.out w2 HB2.out).mono ?_; rintro e w3 ⟨rfl, n3, rfl⟩))
  have x1 := (HB2.out.cell (p := ⟨eb, _, none⟩) (lt_of_cell HX1.out)).trans HX1.out
  generalize (endT t).seq = es at *
  go_quiet (fail)
  go_wp2_with fail
  obtain ⟨hs1, hs2⟩ := set_two HT2.out (n3 + nq) q k
  have hz : w2.heap.size ≤ (((w2.drewN (n3 + nq)).setCell ⟨g, 1, none⟩ (.int .i64 q)).setCell ⟨g, 2, none⟩ (.string ⟨k.toArray⟩)).heap.size := hs2.size
  have hxm := hs2.box HXM.out (by rw [List.mem_singleton]; omega)
  have hk0 := (Kept.of_below (bs := [g]) HB2.out).trans hs2 (fun x hx => .inl hx)
  clear f0 f1 f2 f3 f4
  generalize (((w2.drewN (n3 + nq)).setCell ⟨g, 1, none⟩ (.int .i64 q)).setCell ⟨g, 2, none⟩ (.string ⟨k.toArray⟩)) = W at *
  obtain ⟨⟨c0, c1, c2, c3, c4⟩, -⟩ := box5 hs1.bx
  obtain ⟨⟨m0, m1, m2, m3, m4⟩, -⟩ := box5 hxm
  have z1 : w.heap.size < W.heap.size := (Array.getElem?_eq_some_iff.1 hxm).1
  have z2 : ¬ w.heap.size = W.heap.size := by omega
  have z3 : g < W.heap.size := by omega
  have z4 : ¬ g = W.heap.size := by omega
  have HK := Lib.hid hk0.drew
  have HD := Lib.hid (hs1.below (Below.refl _ _).drew)
  have HO : Hid (OwnG W.drew 0 (.slice (some ⟨eb, eo, none⟩) t.put.length pc) t.put) := Lib.hid HD.out.put
  clear hs1 hs2 hxm hk0 hz
  go_region_law (first | (refine step_put_lies mgE (pubM t k s b) (w := W.drew) rfl (.tmp 81) (.tmp 83) rfl HO.out (Nat.zero_le _) (by omega) _ rfl rfl _ rfl rfl ?_; intro v' w' ho hg hl; obtain ⟨xa, xc, rfl, -, -⟩ := OwnE.at mgE ho; have hEND := pub_end HD.out HK.out ho hg hl; rw [show (t.put ++ [pubM t k s b]).length = t.put.length + 1 from List.length_append] at hEND; obtain ⟨p1, -, -, -⟩ := push_tx (i := 3) HD.out.bx HO.out ho (by decide) hg; obtain ⟨⟨j0, j1, j2, j3, j4⟩, k0, k1, k2, k3, k4⟩ := box5 p1; have HEND := Lib.hid hEND; clear ho hg hl p1 hEND))
  all_goals
    go_wp2_with fail
    go_ret
    exact HEND.out

end Go.Proofs.Ythohjcfpobeplaa.Bt

namespace Go.Proofs.Ythohjcfpobeplaa.Bt
open Go.RowKit Rg Sh Go.Sort
set_option linter.unusedVariables false
set_option linter.unusedSimpArgs false

theorem ack_nil (q n : Int) (k : List UInt8) (w : World) : Calls Try.prog 50 #[.pointer none, .int .i64 q, .string ⟨k.toArray⟩, .int .i64 n] w fun e w' => e = .returned (.int .i64 7) ∧ w = w' := by
  go_enter Try.func50, Try.ntmps50
  go_wp2_with fail
  go_ret
  exact ⟨rfl, rfl⟩
set_option maxRecDepth 100000 in
set_option maxHeartbeats 4000000 in
theorem ackt_any (g : Nat) (t : Tx) (pv tv : Value) (q n : Int) (k : List UInt8) (w : World) (hm : MayTx t) (h : TxAt w g t pv tv) :
    Calls Try.prog 50 #[.pointer (some ⟨g, 0, none⟩), .int .i64 q, .string ⟨k.toArray⟩, .int .i64 n] w (AckR g (ackT t q k n) (ackC t q k n) pv tv w) := by
  obtain ⟨pa, pc, ta, tc, rfl, rfl, hmg, hin, hpn, htn⟩ := tx_form h
  have hglt := h.lt
  have HT := Lib.hid h
  have HMB := Lib.hid (maybe_any q k w)
  have HCO := Lib.hid (contains_any ta tc t.tags n w hin)
  have HEL := Lib.hid (els_any g t (.slice pa t.put.length pc) (.slice ta t.tags.length tc) q k w hm h)
  obtain ⟨⟨c0, c1, c2, c3, c4⟩, f0, f1, f2, f3, f4⟩ := box5 h.bx
  clear h hmg hin hpn htn
  have hl8 := hm.2.1
  clear hm
  by_cases h1 : MayBe q k
  case neg =>
    obtain ⟨e1, e2⟩ := ack_bad (t := t) (q := q) (k := k) (n := n) (c := 1) (by unfold ackC; rw [if_pos (.inl h1)]) (by decide)
    rw [e1, e2]
    rw [decide_eq_false h1] at HMB
    clear h1 e1 e2
    go_enter Try.func50, Try.ntmps50
    go_wp2_with (first | (go_at_call 91; refine HMB.out.mono ?_; rintro e w1 ⟨rfl, rfl⟩) | (go_at_call 94; refine HCO.out.mono ?_; rintro e w1 ⟨rfl, rfl⟩) | (go_at_call 92; refine HEL.out.mono ?_; rintro e w3 ⟨rfl, n3, rfl⟩))
    go_ret
    exact ack_same HT.out (Below.refl _ _)
  rw [decide_eq_true h1] at HMB
  by_cases h2 : n < 1
  case pos =>
    obtain ⟨e1, e2⟩ := ack_bad (t := t) (q := q) (k := k) (n := n) (c := 1) (by unfold ackC; rw [if_pos (.inr (.inl h2))]) (by decide)
    rw [e1, e2]
    clear h1 e1 e2
    go_enter Try.func50, Try.ntmps50
    go_wp2_with (first | (go_at_call 91; refine HMB.out.mono ?_; rintro e w1 ⟨rfl, rfl⟩) | (go_at_call 94; refine HCO.out.mono ?_; rintro e w1 ⟨rfl, rfl⟩) | (go_at_call 92; refine HEL.out.mono ?_; rintro e w3 ⟨rfl, n3, rfl⟩))
    go_ret
    exact ack_same HT.out (Below.refl _ _)
  by_cases h0 : n ∈ t.tags
  case pos =>
    obtain ⟨e1, e2⟩ := ack_bad (t := t) (q := q) (k := k) (n := n) (c := 1) (by unfold ackC; rw [if_pos (.inr (.inr h0))]) (by decide)
    rw [e1, e2]
    rw [decide_eq_true h0] at HCO
    clear h0 h1 e1 e2
    go_enter Try.func50, Try.ntmps50
    go_wp2_with (first | (go_at_call 91; refine HMB.out.mono ?_; rintro e w1 ⟨rfl, rfl⟩) | (go_at_call 94; refine HCO.out.mono ?_; rintro e w1 ⟨rfl, rfl⟩) | (go_at_call 92; refine HEL.out.mono ?_; rintro e w3 ⟨rfl, n3, rfl⟩))
    go_ret
    exact ack_same HT.out (Below.refl _ _)
  rw [decide_eq_false h0] at HCO
  have hno : ¬ (¬ MayBe q k ∨ n < 1 ∨ n ∈ t.tags) := fun h => by rcases h with h | h | h; exact h h1; exact h2 h; exact h0 h
  by_cases h3 : Els t q k
  case pos =>
    obtain ⟨e1, e2⟩ := ack_bad (t := t) (q := q) (k := k) (n := n) (c := 540) (by unfold ackC; rw [if_neg hno, if_pos h3]) (by decide)
    rw [e1, e2]
    rw [decide_eq_true h3] at HEL
    clear h0 h1 h3 hno e1 e2
    go_enter Try.func50, Try.ntmps50
    go_wp2_with (first | (go_at_call 91; refine HMB.out.mono ?_; rintro e w1 ⟨rfl, rfl⟩) | (go_at_call 94; refine HCO.out.mono ?_; rintro e w1 ⟨rfl, rfl⟩) | (go_at_call 92; refine HEL.out.mono ?_; rintro e w3 ⟨rfl, n3, rfl⟩))
    go_ret
    exact ack_same HT.out (Rg.Below.drewN (Below.refl _ _) _)
  rw [decide_eq_false h3] at HEL
  by_cases h4 : t.tags.length = 8
  case pos =>
    obtain ⟨e1, e2⟩ := ack_bad (t := t) (q := q) (k := k) (n := n) (c := 4) (by unfold ackC; rw [if_neg hno, if_neg h3, if_pos h4]) (by decide)
    rw [e1, e2]
    have q4 : ((t.tags.length : Int) == 8) = true := by rw [beq_iff_eq]; omega
    clear h0 h1 h3 h4 hno e1 e2
    go_enter Try.func50, Try.ntmps50
    go_wp2_with (first | (go_at_call 91; refine HMB.out.mono ?_; rintro e w1 ⟨rfl, rfl⟩) | (go_at_call 94; refine HCO.out.mono ?_; rintro e w1 ⟨rfl, rfl⟩) | (go_at_call 92; refine HEL.out.mono ?_; rintro e w3 ⟨rfl, n3, rfl⟩))
    go_ret
    exact ack_same HT.out (Rg.Below.drewN (Below.refl _ _) _)
  have q4 : ((t.tags.length : Int) == 8) = false := by rw [beq_eq_false_iff_ne]; omega
  obtain ⟨e1, e2⟩ := ack_good (t := t) (q := q) (k := k) (n := n) (by unfold ackC; rw [if_neg hno, if_neg h3, if_neg h4])
  rw [e1, e2]
  clear h0 h1 h3 h4 hno e1 e2
  go_enter Try.func50, Try.ntmps50
  go_upto_region 10 with (first | (go_at_call 91; refine HMB.out.mono ?_; rintro e w1 ⟨rfl, rfl⟩) | (go_at_call 94; refine HCO.out.mono ?_; rintro e w1 ⟨rfl, rfl⟩) | (go_at_call 92; refine HEL.out.mono ?_; rintro e w3 ⟨rfl, n3, rfl⟩))
  obtain ⟨hs1, hs2⟩ := set_two HT.out n3 q k
  have hz : w.heap.size ≤ (((w.drewN n3).setCell ⟨g, 1, none⟩ (.int .i64 q)).setCell ⟨g, 2, none⟩ (.string ⟨k.toArray⟩)).heap.size := hs2.size
  clear f0 f1 f2 f3 f4
  generalize (((w.drewN n3).setCell ⟨g, 1, none⟩ (.int .i64 q)).setCell ⟨g, 2, none⟩ (.string ⟨k.toArray⟩)) = W at *
  obtain ⟨⟨c0, c1, c2, c3, c4⟩, -⟩ := box5 hs1.bx
  have z3 : g < W.heap.size := by omega
  have z4 : ¬ g = W.heap.size := by omega
  have HK := Lib.hid hs2
  have HD := Lib.hid hs1
  have HO : Hid (OwnI W 0 (.slice ta t.tags.length tc) t.tags) := Lib.hid hs1.tags
  clear hs1 hs2 hz
  go_wp2_with (first | (refine put_lies inE n (w := W) rfl (.tmp 52) (.tmp 54) rfl HO.out (Nat.zero_le _) (by omega) _ rfl rfl _ rfl rfl ?_; intro v' w' ho hg hl; obtain ⟨xa, xc, rfl, -, -⟩ := OwnE.at inE ho; have hEND := ack_end HD.out HK.out ho hg hl; rw [show (t.tags ++ [n]).length = t.tags.length + 1 from List.length_append] at hEND; obtain ⟨p1, -, -, -⟩ := push_tx (i := 4) HD.out.bx HO.out ho (by decide) hg; obtain ⟨⟨j0, j1, j2, j3, j4⟩, k0, k1, k2, k3, k4⟩ := box5 p1; have HEND := Lib.hid hEND; clear ho hg hl p1 hEND))
  go_ret
  exact HEND.out

end Go.Proofs.Ythohjcfpobeplaa.Bt

namespace Go.Proofs.Ythohjcfpobeplaa.Bt
open Go.RowKit Rg Sh Go.Sort
set_option linter.unusedVariables false
set_option linter.unusedSimpArgs false

/-- what is handed out, and what stays. -/
def TakeR (g : Nat) (t : Tx) (pv tv : Value) (w : World) (e : Ending) (w' : World) : Prop :=
  ∃ pa pc ta tc pv' tv', e = .returned (.tuple #[.int .i64 (takeQ t), .slice pa t.put.length pc, .slice ta t.tags.length tc]) ∧ OwnG w' 0 (.slice pa t.put.length pc) t.put ∧ OwnI w' 0 (.slice ta t.tags.length tc) t.tags ∧
    TxAt w' g (tx0 t.pub) pv' tv' ∧ Kept [g] w w' ∧ Later w pv pv' ∧ Later w tv tv'
def RTakeR (g : Nat) (t : Tx) (pv tv : Value) (w : World) (e : Ending) (w' : World) : Prop :=
  ∃ pa pc ta tc pv' tv', e = .returned (.tuple #[.int .i64 (takeQ t), .slice pa t.put.length pc, .slice ta t.tags.length tc]) ∧ OwnG w' 0 (.slice pa t.put.length pc) t.put ∧ OwnI w' 0 (.slice ta t.tags.length tc) t.tags ∧
    RxAt w' g (tx0 t.pub) pv' tv' ∧ Kept [g] w w' ∧ Later w pv pv' ∧ Later w tv tv'
theorem set5_kept (w : World) (g : Nat) (x y z u v : Value) : Kept [g] w (set5 w g x y z u v) := by
  have hg : g ∈ [g] := by simp
  exact (((((Kept.refl [g] w).set hg 0 x).set hg 1 y).set hg 2 z).set hg 3 u).set hg 4 v
theorem set5_own {α : Type} {k : Nat} {f : α → List Value} {E : TypeId} {w : World} {g : Nat} {cs : Array Value} {t : TypeId} {fr : Nat × Nat} {v : Value} {l : List α} (hx : w.heap[g]? = some (.cells cs t fr)) (ho : OwnE k f E w 0 v l) (hE : E ≠ t) (x y z u s : Value) : OwnE k f E (set5 w g x y z u s) 0 v l :=
  (set5_kept w g x y z u s).row ho fun j hj hm => by
    rw [List.mem_singleton] at hm
    subst hm
    exact own_box ho hx hE hj
theorem take_end {w W : World} {g : Nat} {t : Tx} {pa ta : Option Addr} {pc tc : Nat} (hT : TxAt W g t (.slice pa t.put.length pc) (.slice ta t.tags.length tc)) (hb : Below w.heap.size w W) (hl : ¬ t.len = 0) :
    TakeR g t (.slice pa t.put.length pc) (.slice ta t.tags.length tc) w (.returned (.tuple #[.int .i64 t.qu, .slice pa t.put.length pc, .slice ta t.tags.length tc])) (set5 W g (.int .i64 t.pub) (.int .i64 0) (.string ⟨#[]⟩) (.slice none 0 0) (.slice none 0 0)) :=
  ⟨pa, pc, ta, tc, .slice none 0 0, .slice none 0 0, by unfold takeQ; rw [if_neg hl], set5_own hT.bx hT.put (by decide) _ _ _ _ _, set5_own hT.bx hT.tags (by decide) _ _ _ _ _,
    ⟨set5_box hT.bx _ _ _ _ _, OwnE.nil _ _ _ _ _, OwnE.nil _ _ _ _ _⟩, (Kept.of_below (bs := [g]) hb).trans (set5_kept _ _ _ _ _ _ _) (fun x hx => .inl hx), Later.nil _ _, Later.nil _ _⟩
theorem take_none {w W : World} {g : Nat} {t : Tx} {pv tv : Value} (hm : MayTx t) (hT : TxAt w g t pv tv) (hb : Below w.heap.size w W) (hl : t.len = 0) :
    TakeR g t pv tv w (.returned (.tuple #[.int .i64 (-1), .slice none 0 0, .slice none 0 0])) W := by
  have h1 : t.put = [] := List.eq_nil_of_length_eq_zero (by unfold Tx.len at hl; omega)
  have h2 : t.tags = [] := List.eq_nil_of_length_eq_zero (by unfold Tx.len at hl; omega)
  refine ⟨none, 0, none, 0, pv, tv, by unfold takeQ; rw [if_pos hl, h1, h2]; rfl, by rw [h1]; exact OwnE.nil _ _ _ _ _, by rw [h2]; exact OwnE.nil _ _ _ _ _, ?_, Kept.of_below hb, Later.refl _ _, Later.refl _ _⟩
  rw [← hm.2.2.2 hl]
  exact hT.below hb
theorem take_nil (w : World) : Calls Try.prog 52 #[.pointer none] w fun e w' => e = .returned (.tuple #[.int .i64 (-1), .slice none 0 0, .slice none 0 0]) ∧ w = w' := by
  have HL := Lib.hid (len_nil w)
  go_enter Try.func52, Try.ntmps52
  go_wp2_with (go_at_call 54; refine HL.out.mono ?_; rintro e w1 ⟨rfl, rfl⟩)
  exact bodyPost_ret (v := .tuple #[.int .i64 (-1), .slice none 0 0, .slice none 0 0]) (by simp [results, Try.results52, go_sem, *]) rfl ⟨rfl, rfl⟩
set_option maxRecDepth 100000 in
set_option maxHeartbeats 2000000 in
theorem take_any (g : Nat) (t : Tx) (pv tv : Value) (w : World) (hm : MayTx t) (h : TxAt w g t pv tv) : Calls Try.prog 52 #[.pointer (some ⟨g, 0, none⟩)] w (TakeR g t pv tv w) := by
  obtain ⟨pa, pc, ta, tc, rfl, rfl, -, -, -, -⟩ := tx_form h
  have HL := Lib.hid (len_any g t _ _ w hm h)
  have HM := Lib.hid hm
  have HT := Lib.hid h
  obtain ⟨⟨c0, c1, c2, c3, c4⟩, f0, f1, f2, f3, f4⟩ := box5 h.bx
  clear h hm
  by_cases hl : t.len = 0
  · have HZ := Lib.hid hl
    have q1 : ((t.len : Int) == 0) = true := by rw [beq_iff_eq]; omega
    clear hl
    go_enter Try.func52, Try.ntmps52
    go_wp2_with (go_at_call 54; refine HL.out.mono ?_; rintro e w1 ⟨rfl, n, rfl⟩)
    exact bodyPost_ret (v := .tuple #[.int .i64 (-1), .slice none 0 0, .slice none 0 0]) (by simp [results, Try.results52, go_sem, *]) rfl (take_none HM.out HT.out (Rg.Below.drewN (Below.refl _ _) _) HZ.out)
  · have HZ := Lib.hid hl
    have q1 : ((t.len : Int) == 0) = false := by rw [beq_eq_false_iff_ne]; omega
    clear hl
    go_enter Try.func52, Try.ntmps52
    go_wp2_with (go_at_call 54; refine HL.out.mono ?_; rintro e w1 ⟨rfl, n, rfl⟩)
    go_quiet (fail)
    go_wp2_with fail
    exact bodyPost_ret (v := .tuple #[.int .i64 t.qu, .slice pa t.put.length pc, .slice ta t.tags.length tc]) (by simp [results, Try.results52, go_sem, *]) rfl (take_end (HT.out.below (Rg.Below.drewN (Below.refl _ _) _)) (Rg.Below.drewN (Below.refl _ _) _) HZ.out)

def set6t (w : World) (g : Nat) (x y z u v s : Value) : World := (set5 w g x y z u v).setCell ⟨g, 5, none⟩ s
theorem rtake_end {w W : World} {g : Nat} {t : Tx} {pa ta : Option Addr} {pc tc : Nat} (hT : RxAt W g t (.slice pa t.put.length pc) (.slice ta t.tags.length tc)) (hb : Below w.heap.size w W) :
    RTakeR g t (.slice pa t.put.length pc) (.slice ta t.tags.length tc) w (.returned (.tuple #[.int .i64 (takeQ t), .slice pa t.put.length pc, .slice ta t.tags.length tc])) (set6t W g (.int .i64 t.pub) (.int .i64 0) (.string ⟨#[]⟩) (.bool false) (.slice none 0 0) (.slice none 0 0)) := by
  have h1 := set_heap hT.bx 0 (.int .i64 t.pub)
  have h2 := set_heap h1 1 (.int .i64 0)
  have h3 := set_heap h2 2 (.string ⟨#[]⟩)
  have h4 := set_heap h3 3 (.bool false)
  have h5 := set_heap h4 4 (.slice none 0 0)
  have h6 := set_heap h5 5 (.slice none 0 0)
  refine ⟨pa, pc, ta, tc, .slice none 0 0, .slice none 0 0, rfl, set_tx h5 (set5_own hT.bx hT.put (by decide) _ _ _ _ _) (by decide), set_tx h5 (set5_own hT.bx hT.tags (by decide) _ _ _ _ _) (by decide), ⟨h6, OwnE.nil _ _ _ _ _, OwnE.nil _ _ _ _ _⟩, ?_, Later.nil _ _, Later.nil _ _⟩
  exact ((Kept.of_below (bs := [g]) hb).trans (set5_kept _ _ _ _ _ _ _) fun x hx => .inl hx).set (by simp) 5 _
set_option maxRecDepth 100000 in
set_option maxHeartbeats 2000000 in
theorem rtake_any (g : Nat) (t : Tx) (pv tv : Value) (w : World) (h : RxAt w g t pv tv) : Calls Try.prog 53 #[.pointer (some ⟨g, 0, none⟩)] w (RTakeR g t pv tv w) := by
  obtain ⟨pa, pc, ta, tc, rfl, rfl, -, -, -, -⟩ := rx_form h
  have HT := Lib.hid h
  obtain ⟨⟨c0, c1, c2, c3, c4, c5⟩, f0, f1, f2, f3, f4, f5⟩ := box6d h.bx
  clear h
  by_cases hl : 0 < t.len
  · have HE := Lib.hid (show takeQ t = t.qu by unfold takeQ; rw [if_neg (by omega)])
    rw [decide_eq_true hl] at c3
    clear hl
    go_enter Try.func53, Try.ntmps53
    go_wp2_with fail
    go_quiet (fail)
    go_wp2_with fail
    refine bodyPost_ret (v := .tuple #[.int .i64 t.qu, .slice pa t.put.length pc, .slice ta t.tags.length tc]) (by simp [results, Try.results53, go_sem, *]) rfl ?_
    rw [← HE.out]
    exact rtake_end (HT.out.below (Rg.Below.drewN (Below.refl _ _) _)) (Rg.Below.drewN (Below.refl _ _) _)
  · have HE := Lib.hid (show takeQ t = -1 by unfold takeQ; rw [if_pos (by omega)])
    rw [decide_eq_false hl] at c3
    clear hl
    go_enter Try.func53, Try.ntmps53
    go_wp2_with fail
    go_quiet (fail)
    go_wp2_with fail
    refine bodyPost_ret (v := .tuple #[.int .i64 (-1), .slice pa t.put.length pc, .slice ta t.tags.length tc]) (by simp [results, Try.results53, go_sem, *]) rfl ?_
    rw [← HE.out]
    exact rtake_end (HT.out.below (Rg.Below.drewN (Below.refl _ _) _)) (Rg.Below.drewN (Below.refl _ _) _)

end Go.Proofs.Ythohjcfpobeplaa.Bt

namespace Go.Proofs.Ythohjcfpobeplaa.Bt
open Go.RowKit Rg Sh Go.Sort
set_option linter.unusedVariables false
set_option linter.unusedSimpArgs false

structure TxB (w : World) (B g : Nat) (t : Tx) : Prop where
  ex : ∃ pv tv, TxAt w g t pv tv ∧ (∀ j, pv.ownBlock = some j → B ≤ j) ∧ (∀ j, tv.ownBlock = some j → B ≤ j)
  lo : B ≤ g
  may : MayTx t
theorem TxB.below {w w' : World} {B g : Nat} {t : Tx} (h : TxB w B g t) (hb : Below w.heap.size w w') : TxB w' B g t := by
  obtain ⟨pv, tv, h1, h2, h3⟩ := h.ex
  exact ⟨⟨pv, tv, h1.below hb, h2, h3⟩, h.lo, h.may⟩
theorem TxB.lt {w : World} {B g : Nat} {t : Tx} (h : TxB w B g t) : g < w.heap.size := by
  obtain ⟨pv, tv, h1, h2, h3⟩ := h.ex
  exact h1.lt
theorem kept_below {B g : Nat} {v : Value} {w w' : World} (h : Kept (wrt g v) w w') (hB : B ≤ w.heap.size) (hg : B ≤ g) (hv : ∀ j, v.ownBlock = some j → B ≤ j) : Below B w w' :=
  h.below hB fun b hb => by
    rcases mem_wrt.1 hb with rfl | h
    · exact hg
    · exact hv _ h
theorem newsB (p : Int) (h : 0 ≤ p ∧ p < 4) (w : World) : Calls Try.prog 46 #[.int .i64 p] w fun e w' => e = .returned (.pointer (some ⟨w.heap.size, 0, none⟩)) ∧ TxB w' w.heap.size w.heap.size (tx0 p) ∧ Below w.heap.size w w' :=
  (news_any p h w).mono fun e w' ⟨h1, h2, h3, _⟩ => ⟨h1, ⟨⟨_, _, h2, (fun j h => by cases h), (fun j h => by cases h)⟩, Nat.le_refl _, may_tx0 p⟩, h3⟩
theorem lenB (B g : Nat) (t : Tx) (w : World) (h : TxB w B g t) : Calls Try.prog 54 #[.pointer (some ⟨g, 0, none⟩)] w fun e w' => e = .returned (.int .i64 t.len) ∧ Drew w w' := by
  obtain ⟨pv, tv, h1, h2, h3⟩ := h.ex
  exact len_any g t pv tv w h.may h1
theorem pubB (B g : Nat) (t : Tx) (q s : Int) (k b : List UInt8) (w : World) (h : TxB w B g t) (hB : B ≤ w.heap.size) :
    Calls Try.prog 48 #[.pointer (some ⟨g, 0, none⟩), .int .i64 q, .string ⟨k.toArray⟩, .int .i64 s, .string ⟨b.toArray⟩] w fun e w' => e = .returned (.int .i64 (pubC t q k s b)) ∧ TxB w' B g (pubT t q k s b) ∧ Below B w w' := by
  obtain ⟨pv, tv, h1, h2, h3⟩ := h.ex
  refine (pub_any g t pv tv q s k b w h.may h1).mono ?_
  rintro e w' ⟨rfl, pv', h4, h5, h6⟩
  refine ⟨rfl, ⟨⟨pv', tv, h4, fun j hj => ?_, h3⟩, h.lo, pub_may h.may _ _ _ _⟩, kept_below h5 hB h.lo h2⟩
  rcases h6 j hj with h7 | h7
  · exact h2 j h7
  · omega
theorem ackB (B g : Nat) (t : Tx) (q n : Int) (k : List UInt8) (w : World) (h : TxB w B g t) (hB : B ≤ w.heap.size) :
    Calls Try.prog 50 #[.pointer (some ⟨g, 0, none⟩), .int .i64 q, .string ⟨k.toArray⟩, .int .i64 n] w fun e w' => e = .returned (.int .i64 (ackC t q k n)) ∧ TxB w' B g (ackT t q k n) ∧ Below B w w' := by
  obtain ⟨pv, tv, h1, h2, h3⟩ := h.ex
  refine (ackt_any g t pv tv q n k w h.may h1).mono ?_
  rintro e w' ⟨rfl, tv', h4, h5, h6⟩
  refine ⟨rfl, ⟨⟨pv, tv', h4, h2, fun j hj => ?_⟩, h.lo, ack_mayT h.may _ _ _⟩, kept_below h5 hB h.lo h3⟩
  rcases h6 j hj with h7 | h7
  · exact h3 j h7
  · omega
/-- what Take hands out of it. -/
def TakeB (B g : Nat) (t : Tx) (w : World) (e : Ending) (w' : World) : Prop :=
  ∃ pa pc ta tc, e = .returned (.tuple #[.int .i64 (takeQ t), .slice pa t.put.length pc, .slice ta t.tags.length tc]) ∧ MgsAt w' pa pc t.put ∧ (pa = none → pc = 0) ∧ InsAt w' ta tc t.tags ∧ (ta = none → tc = 0) ∧ TxB w' B g (tx0 t.pub) ∧ Below B w w'
theorem takeB (B g : Nat) (t : Tx) (w : World) (h : TxB w B g t) (hB : B ≤ w.heap.size) : Calls Try.prog 52 #[.pointer (some ⟨g, 0, none⟩)] w (TakeB B g t w) := by
  obtain ⟨pv, tv, h1, h2, h3⟩ := h.ex
  refine (take_any g t pv tv w h.may h1).mono ?_
  rintro e w' ⟨pa, pc, ta, tc, pv', tv', rfl, h4, h5, h6, h7, h12, h13⟩
  obtain ⟨pa', pc', e1, h8, h9⟩ := OwnE.at mgE h4
  obtain ⟨rfl, -, rfl⟩ := Value.slice.inj e1
  obtain ⟨ta', tc', e2, h10, h11⟩ := OwnE.at inE h5
  obtain ⟨rfl, -, rfl⟩ := Value.slice.inj e2
  refine ⟨pa, pc, ta, tc, rfl, h8, h9, h10, h11, ⟨⟨pv', tv', h6, fun j hj => ?_, fun j hj => ?_⟩, h.lo, may_tx0 _⟩, h7.below hB fun b hb => by rw [List.mem_singleton] at hb; rw [hb]; exact h.lo⟩
  · rcases h12 j hj with h14 | h14
    · exact h2 j h14
    · omega
  · rcases h13 j hj with h14 | h14
    · exact h3 j h14
    · omega

end Go.Proofs.Ythohjcfpobeplaa.Bt
