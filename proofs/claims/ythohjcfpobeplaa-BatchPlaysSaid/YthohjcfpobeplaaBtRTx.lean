/-
  What the document's Publish and Ack leave in memory.
  The document's Publish, walked (printed by tools/gen_brpub.py).
  The document's Ack of a transaction, walked (printed by tools/gen_brack.py).
-/
import Derived.Test.YthohjcfpobeplaaBtBase
import Derived.Test.YthohjcfpobeplaaShTold
import Derived.Deep.RegionLaw
import Derived.BigQuiet
import Derived.Deep.CutRange

namespace Go.Proofs.Ythohjcfpobeplaa.Bt
open Go.RowKit Rg Sh Go.Sort
set_option linter.unusedVariables false
set_option linter.unusedSimpArgs false

theorem rset_three {w2 : World} {g : Nat} {t : Tx} {pv tv : Value} (h : RxAt w2 g t pv tv) (n : Nat) (q : Int) (k : List UInt8) :
    ((((w2.drewN n).setCell ⟨g, 3, none⟩ (.bool true)).setCell ⟨g, 1, none⟩ (.int .i64 q)).setCell ⟨g, 2, none⟩ (.string ⟨k.toArray⟩)).heap[g]? = some (.cells #[.int .i64 t.pub, .int .i64 q, .string ⟨k.toArray⟩, .bool true, pv, tv] 71 (0, 0)) ∧
    (OwnG ((((w2.drewN n).setCell ⟨g, 3, none⟩ (.bool true)).setCell ⟨g, 1, none⟩ (.int .i64 q)).setCell ⟨g, 2, none⟩ (.string ⟨k.toArray⟩)) 0 pv t.put ∧ OwnI ((((w2.drewN n).setCell ⟨g, 3, none⟩ (.bool true)).setCell ⟨g, 1, none⟩ (.int .i64 q)).setCell ⟨g, 2, none⟩ (.string ⟨k.toArray⟩)) 0 tv t.tags) ∧
    Kept [g] w2 ((((w2.drewN n).setCell ⟨g, 3, none⟩ (.bool true)).setCell ⟨g, 1, none⟩ (.int .i64 q)).setCell ⟨g, 2, none⟩ (.string ⟨k.toArray⟩)) := by
  have h0 : RxAt (w2.drewN n) g t pv tv := h.below (Rg.Below.drewN (Below.refl _ _) n)
  have h1 := set_heap h0.bx 3 (.bool true)
  have h2 := set_heap h1 1 (.int .i64 q)
  have h3 := set_heap h2 2 (.string ⟨k.toArray⟩)
  exact ⟨h3, ⟨set_tx h2 (set_tx h1 (set_tx h0.bx h0.put (by decide)) (by decide)) (by decide), set_tx h2 (set_tx h1 (set_tx h0.bx h0.tags (by decide)) (by decide)) (by decide)⟩, ((((Kept.refl [g] w2).drewN n).set (by simp) 3 _).set (by simp) 1 _).set (by simp) 2 _⟩
theorem own_litm {w : World} (o : Obj) : OwnG ((w.drew.alloc o).alloc (.cells #[] 35)) w.heap.size (.slice (some ⟨w.heap.size + 1, 0, none⟩) 0 0) ([] : List Mg) := by
  have h := OwnE.lit mgE (w.drew.alloc o) w.heap.size (by rw [show (w.drew.alloc o).heap.size = w.heap.size + 1 by simp]; omega)
  rw [show (w.drew.alloc o).heap.size = w.heap.size + 1 by simp] at h
  exact h
theorem own_liti {w : World} (o : Obj) : OwnI ((w.drew.alloc o).alloc (.cells #[] 3)) w.heap.size (.slice (some ⟨w.heap.size + 1, 0, none⟩) 0 0) ([] : List Int) := by
  have h := OwnE.lit inE (w.drew.alloc o) w.heap.size (by rw [show (w.drew.alloc o).heap.size = w.heap.size + 1 by simp]; omega)
  rw [show (w.drew.alloc o).heap.size = w.heap.size + 1 by simp] at h
  exact h
theorem kept_set {w W w9 : World} {g i : Nat} {v : Value} (hK : Kept [g] w W) (hb : Below W.heap.size W w9) : Kept [g] w (w9.setCell ⟨g, i, none⟩ v) :=
  (hK.trans (Kept.of_below (bs := [g]) hb) (fun x hx => .inl hx)).set (by simp) i v
theorem kept_own {α : Type} {k : Nat} {f : α → List Value} {E : TypeId} {w : World} {g i B : Nat} {v u : Value} {l : List α} (h : OwnE k f E w B v l) (hg : g < B) : OwnE k f E (w.setCell ⟨g, i, none⟩ u) 0 v l :=
  OwnE.mono (OwnE.kept h fun b hb _ => Below.heap_setCell w ⟨g, i, none⟩ _ b (by show b ≠ g; omega)) (Nat.zero_le _)
theorem rpub_end {w W w9 : World} {g : Nat} {t : Tx} {q : Int} {k : List UInt8} {m : Mg} {pv v9 tv : Value} (hbx : W.heap[g]? = some (.cells #[.int .i64 t.pub, .int .i64 q, .string ⟨k.toArray⟩, .bool true, pv, tv] 71 (0, 0)))
    (ht : OwnI W 0 tv t.tags) (hK : Kept [g] w W) (hb9 : Below W.heap.size W w9) (ho : OwnG w9 W.heap.size v9 (([] ++ t.put) ++ [m])) (hg : g < W.heap.size) :
    RPubR g { t with qu := q, key := k, put := t.put ++ [m] } 0 pv tv w (.returned (.int .i64 0)) (w9.setCell ⟨g, 4, none⟩ v9) := by
  have h9 := box_bl hbx hb9
  refine ⟨rfl, v9, ⟨?_, kept_own ho hg, ?_⟩, kept_set hK hb9, .inr fun j hj => Nat.le_trans hK.size (World.ownsRow.lt ho j hj).1⟩
  · have h := set_heap h9 4 v9
    rw [show decide (0 < ({ t with qu := q, key := k, put := t.put ++ [m] } : Tx).len) = true from decide_eq_true (by unfold Tx.len; simp; omega)]
    exact h
  · exact set_tx h9 (OwnE.below1 ht hb9) (by decide)
theorem rack_end {w W w9 : World} {g : Nat} {t : Tx} {q : Int} {k : List UInt8} {m : Int} {pv v9 tv : Value} (hbx : W.heap[g]? = some (.cells #[.int .i64 t.pub, .int .i64 q, .string ⟨k.toArray⟩, .bool true, pv, tv] 71 (0, 0)))
    (ht : OwnG W 0 pv t.put) (hK : Kept [g] w W) (hb9 : Below W.heap.size W w9) (ho : OwnI w9 W.heap.size v9 (([] ++ t.tags) ++ [m])) (hg : g < W.heap.size) :
    RAckR g { t with qu := q, key := k, tags := t.tags ++ [m] } 0 pv tv w (.returned (.int .i64 0)) (w9.setCell ⟨g, 5, none⟩ v9) := by
  have h9 := box_bl hbx hb9
  refine ⟨rfl, v9, ⟨?_, ?_, kept_own ho hg⟩, kept_set hK hb9, .inr fun j hj => Nat.le_trans hK.size (World.ownsRow.lt ho j hj).1⟩
  · have h := set_heap h9 5 v9
    rw [show decide (0 < ({ t with qu := q, key := k, tags := t.tags ++ [m] } : Tx).len) = true from decide_eq_true (by unfold Tx.len; simp; omega)]
    exact h
  · exact set_tx h9 (OwnE.below1 ht hb9) (by decide)

end Go.Proofs.Ythohjcfpobeplaa.Bt

namespace Go.Proofs.Ythohjcfpobeplaa.Bt
open Go.RowKit Rg Sh Go.Sort
set_option linter.unusedVariables false
set_option linter.unusedSimpArgs false

set_option maxRecDepth 100000 in
set_option maxHeartbeats 8000000 in
theorem rpub_any (g : Nat) (t : Tx) (pv tv : Value) (q s : Int) (k b : List UInt8) (w : World) (hm : MayTx t) (h : RxAt w g t pv tv) :
    Calls Try.prog 49 #[.pointer (some ⟨g, 0, none⟩), .int .i64 q, .string ⟨k.toArray⟩, .int .i64 s, .string ⟨b.toArray⟩] w (RPubR g (pubT t q k s b) (pubC t q k s b) pv tv w) := by
  obtain ⟨pa, pc, ta, tc, rfl, rfl, hmg, hin, hpn, htn⟩ := rx_form h
  have hglt := h.lt
  have HM := Lib.hid hm
  have HT := Lib.hid h
  have HMG := Lib.hid hmg
  have HB0 : Hid (Below w.heap.size w (w.alloc (.cells #[.int .i64 t.pub, .int .i64 s, .string ⟨k.toArray⟩, .string ⟨b.toArray⟩, .bool false] 35))) := Lib.hid ((Below.refl _ _).alloc (Nat.le_refl _) _)
  have HMM := Lib.hid (show Calls Try.prog 75 #[.agg #[.int .i64 t.pub, .int .i64 s, .string ⟨k.toArray⟩, .string ⟨b.toArray⟩, .bool false]] (w.alloc (.cells #[.int .i64 t.pub, .int .i64 s, .string ⟨k.toArray⟩, .string ⟨b.toArray⟩, .bool false] 35)) fun e w' => e = .returned (.bool (decide (MayMg (pubM t k s b)))) ∧ Grew (w.alloc (.cells #[.int .i64 t.pub, .int .i64 s, .string ⟨k.toArray⟩, .string ⟨b.toArray⟩, .bool false] 35)) w' from rmayMsg_any (pubM t k s b) _)
  have HEL := Lib.hid fun (wx : World) (hb : Below w.heap.size w wx) => other_any g t (.slice pa t.put.length pc) (.slice ta t.tags.length tc) q k wx (h.below hb)
  obtain ⟨⟨c0, c1, c2, c3, c4, c5⟩, -⟩ := box6d h.bx
  clear h hmg hin hpn htn
  have hl8 := hm.1
  clear hm
  by_cases hq0 : q < 0
  case pos =>
    obtain ⟨e1, e2⟩ := pub_bad (t := t) (q := q) (k := k) (s := s) (b := b) (c := 1) (by unfold pubC; rw [if_pos (fun h => by have := h.1.1; omega)]) (by decide)
    rw [e1, e2]
    clear e1 e2
    go_enter Try.func49, Try.ntmps49
    go_wp2_with (first | (go_at_call 75; refine HMM.out.mono ?_; rintro e w2 ⟨rfl, hg2⟩; have HB2 := Lib.hid (HB0.out.trans (hg2.below.mono HB0.out.size)); have HXM := Lib.hid (hg2.below.block w.heap.size (by simp) |>.trans (heap_alloc_new w _)); have HT2 := Lib.hid (HT.out.below HB2.out); obtain ⟨⟨c0, c1, c2, c3, c4, c5⟩, f0, f1, f2, f3, f4, f5⟩ := box6d HT2.out.bx; clear hg2) | (go_at_call 93; refine (HEL.out w2 HB2.out).mono ?_; rintro e w3 ⟨rfl, rfl⟩))
    go_ret
    exact rpub_same HT.out HB0.out
  by_cases hq4 : 4 ≤ q
  case pos =>
    obtain ⟨e1, e2⟩ := pub_bad (t := t) (q := q) (k := k) (s := s) (b := b) (c := 1) (by unfold pubC; rw [if_pos (fun h => by have := h.1.2.1; omega)]) (by decide)
    rw [e1, e2]
    clear e1 e2
    go_enter Try.func49, Try.ntmps49
    go_wp2_with (first | (go_at_call 75; refine HMM.out.mono ?_; rintro e w2 ⟨rfl, hg2⟩; have HB2 := Lib.hid (HB0.out.trans (hg2.below.mono HB0.out.size)); have HXM := Lib.hid (hg2.below.block w.heap.size (by simp) |>.trans (heap_alloc_new w _)); have HT2 := Lib.hid (HT.out.below HB2.out); obtain ⟨⟨c0, c1, c2, c3, c4, c5⟩, f0, f1, f2, f3, f4, f5⟩ := box6d HT2.out.bx; clear hg2) | (go_at_call 93; refine (HEL.out w2 HB2.out).mono ?_; rintro e w3 ⟨rfl, rfl⟩))
    go_ret
    exact rpub_same HT.out HB0.out
  clear c1 c2 c3 c4 c5
  by_cases h2 : MayMg (pubM t k s b)
  case neg =>
    obtain ⟨e1, e2⟩ := pub_bad (t := t) (q := q) (k := k) (s := s) (b := b) (c := 1) (by unfold pubC; rw [if_pos (fun h => h2 h.2)]) (by decide)
    rw [e1, e2]
    rw [decide_eq_false h2] at HMM
    clear h2 e1 e2
    go_enter Try.func49, Try.ntmps49
    go_wp2_with (first | (go_at_call 75; refine HMM.out.mono ?_; rintro e w2 ⟨rfl, hg2⟩; have HB2 := Lib.hid (HB0.out.trans (hg2.below.mono HB0.out.size)); have HXM := Lib.hid (hg2.below.block w.heap.size (by simp) |>.trans (heap_alloc_new w _)); have HT2 := Lib.hid (HT.out.below HB2.out); obtain ⟨⟨c0, c1, c2, c3, c4, c5⟩, f0, f1, f2, f3, f4, f5⟩ := box6d HT2.out.bx; clear hg2) | (go_at_call 93; refine (HEL.out w2 HB2.out).mono ?_; rintro e w3 ⟨rfl, rfl⟩))
    go_ret
    exact rpub_same HT.out HB2.out
  have h1 : MayBe q k := ⟨by omega, by omega, h2.1.2.2.2.2.1, h2.1.2.2.2.2.2⟩
  rw [decide_eq_true h2] at HMM
  by_cases h3 : Els t q k
  case pos =>
    obtain ⟨e1, e2⟩ := pub_bad (t := t) (q := q) (k := k) (s := s) (b := b) (c := 540) (by unfold pubC; rw [if_neg (fun h => h ⟨h1, h2⟩), if_pos h3]) (by decide)
    rw [e1, e2]
    rw [decide_eq_true h3] at HEL
    clear h1 h2 h3 e1 e2
    go_enter Try.func49, Try.ntmps49
    go_wp2_with (first | (go_at_call 75; refine HMM.out.mono ?_; rintro e w2 ⟨rfl, hg2⟩; have HB2 := Lib.hid (HB0.out.trans (hg2.below.mono HB0.out.size)); have HXM := Lib.hid (hg2.below.block w.heap.size (by simp) |>.trans (heap_alloc_new w _)); have HT2 := Lib.hid (HT.out.below HB2.out); obtain ⟨⟨c0, c1, c2, c3, c4, c5⟩, f0, f1, f2, f3, f4, f5⟩ := box6d HT2.out.bx; clear hg2) | (go_at_call 93; refine (HEL.out w2 HB2.out).mono ?_; rintro e w3 ⟨rfl, rfl⟩))
    go_ret
    exact rpub_same HT.out HB2.out
  rw [decide_eq_false h3] at HEL
  by_cases h4 : t.put.length = 8
  case pos =>
    obtain ⟨e1, e2⟩ := pub_bad (t := t) (q := q) (k := k) (s := s) (b := b) (c := 4) (by unfold pubC; rw [if_neg (fun h => h ⟨h1, h2⟩), if_neg h3, if_pos h4]) (by decide)
    rw [e1, e2]
    have q4 : (8 : Int) ≤ (t.put.length : Int) := by omega
    clear h1 h2 h3 e1 e2
    go_enter Try.func49, Try.ntmps49
    go_wp2_with (first | (go_at_call 75; refine HMM.out.mono ?_; rintro e w2 ⟨rfl, hg2⟩; have HB2 := Lib.hid (HB0.out.trans (hg2.below.mono HB0.out.size)); have HXM := Lib.hid (hg2.below.block w.heap.size (by simp) |>.trans (heap_alloc_new w _)); have HT2 := Lib.hid (HT.out.below HB2.out); obtain ⟨⟨c0, c1, c2, c3, c4, c5⟩, f0, f1, f2, f3, f4, f5⟩ := box6d HT2.out.bx; clear hg2) | (go_at_call 93; refine (HEL.out w2 HB2.out).mono ?_; rintro e w3 ⟨rfl, rfl⟩))
    go_ret
    exact rpub_same HT.out HB2.out
  have q4 : ¬ (8 : Int) ≤ (t.put.length : Int) := by omega
  by_cases h5 : 0 < t.put.length
  case neg =>
    obtain ⟨e1, e2⟩ := pub_good (t := t) (q := q) (k := k) (s := s) (b := b) (by unfold pubC; rw [if_neg (fun h => h ⟨h1, h2⟩), if_neg h3, if_neg h4, if_neg (fun h => h5 h.1)])
    rw [e1, e2]
    have q5 : ¬ (0 : Int) < (t.put.length : Int) := by omega
    clear h1 h2 h3 h4 e1 e2
    go_enter Try.func49, Try.ntmps49
    go_wp2_with (first | (go_at_call 75; refine HMM.out.mono ?_; rintro e w2 ⟨rfl, hg2⟩; have HB2 := Lib.hid (HB0.out.trans (hg2.below.mono HB0.out.size)); have HXM := Lib.hid (hg2.below.block w.heap.size (by simp) |>.trans (heap_alloc_new w _)); have HT2 := Lib.hid (HT.out.below HB2.out); obtain ⟨⟨c0, c1, c2, c3, c4, c5⟩, f0, f1, f2, f3, f4, f5⟩ := box6d HT2.out.bx; clear hg2) | (go_at_call 93; refine (HEL.out w2 HB2.out).mono ?_; rintro e w3 ⟨rfl, rfl⟩))
    go_quiet (fail)
    go_wp2_with fail
    obtain ⟨hs1, hs2, hs3⟩ := rset_three HT2.out nq q k
    have hxm := hs3.box HXM.out (by rw [List.mem_singleton]; omega)
    have hk0 := (Kept.of_below (bs := [g]) HB2.out).trans hs3 (fun x hx => .inl hx)
    have hz : w2.heap.size ≤ ((((w2.drewN nq).setCell ⟨g, 3, none⟩ (.bool true)).setCell ⟨g, 1, none⟩ (.int .i64 q)).setCell ⟨g, 2, none⟩ (.string ⟨k.toArray⟩)).heap.size := hs3.size
    clear f0 f1 f2 f3 f4 f5
    generalize ((((w2.drewN nq).setCell ⟨g, 3, none⟩ (.bool true)).setCell ⟨g, 1, none⟩ (.int .i64 q)).setCell ⟨g, 2, none⟩ (.string ⟨k.toArray⟩)) = W at *
    obtain ⟨⟨c0, c1, c2, c3, c4, c5⟩, -⟩ := box6d hs1
    obtain ⟨⟨m0, m1, m2, m3, m4⟩, -⟩ := box5 hxm
    have z1 : w.heap.size < W.heap.size := (Array.getElem?_eq_some_iff.1 hxm).1
    have z2 : ¬ w.heap.size = W.heap.size := by omega
    have z3 : g < W.heap.size := by omega
    have z4 : ¬ g = W.heap.size := by omega
    have z5 : w.heap.size < W.heap.size + 1 := by omega
    have z6 : ¬ w.heap.size = W.heap.size + 1 := by omega
    have z7 : g < W.heap.size + 1 := by omega
    have z8 : ¬ g = W.heap.size + 1 := by omega
    have HZ := Lib.hid z3
    have HK := Lib.hid hk0
    have HX := Lib.hid hs1
    have HXM2 := Lib.hid hxm
    have HRO := Lib.hid hs2
    obtain ⟨xa0, xc0, he0, hat0, hnn0⟩ := OwnE.at mgE hs2.1
    obtain ⟨rfl, -, rfl⟩ := Value.slice.inj he0
    have HAT := Lib.hid hat0
    have HNN := Lib.hid hnn0
    have HL8 := Lib.hid (show t.put.length ≤ 8 from hl8)
    clear hs1 hs2 hs3 hxm hk0 hz he0 hat0 hnn0
    have hd7 : Below W.heap.size W W.drew := (Below.refl _ _).drew
    have HD7 := Lib.hid hd7
    have ha7 : Below W.heap.size W (W.drew.alloc (.cells #[] 35)) := hd7.alloc (w := W.drew) (Nat.le_refl _) _
    have HA7 := Lib.hid ha7
    have HOa := Lib.hid (OwnE.lit mgE W.drew W.heap.size (Nat.le_refl _))
    have hab : Below W.heap.size W ((W.drew.alloc (.cells #[] 35)).alloc (.cells #[.int .i64 t.pub, .int .i64 s, .string ⟨k.toArray⟩, .string ⟨b.toArray⟩, .bool false] 35)) := ha7.alloc (Nat.le_trans (Nat.le_refl _) ha7.size) _
    have HAb := Lib.hid hab
    have HOb := Lib.hid (OwnE.below1 HOa.out ((Below.refl _ (W.drew.alloc (.cells #[] 35))).alloc (Nat.le_refl _) (.cells #[.int .i64 t.pub, .int .i64 s, .string ⟨k.toArray⟩, .string ⟨b.toArray⟩, .bool false] 35)))
    have hac1 : Below W.heap.size W (W.drew.alloc (.cells #[.int .i64 t.pub, .int .i64 s, .string ⟨k.toArray⟩, .string ⟨b.toArray⟩, .bool false] 35)) := hd7.alloc (w := W.drew) (Nat.le_refl _) _
    have HAc := Lib.hid (hac1.alloc hac1.size (.cells #[] 35))
    have HP3 := Lib.hid (two_box (w := W.drew) (.cells #[.int .i64 t.pub, .int .i64 s, .string ⟨k.toArray⟩, .string ⟨b.toArray⟩, .bool false] 35) (.cells #[] 35))
    have HOc := Lib.hid (own_litm (w := W) (.cells #[.int .i64 t.pub, .int .i64 s, .string ⟨k.toArray⟩, .string ⟨b.toArray⟩, .bool false] 35))
    have HP2 := Lib.hid (two_box (w := W.drew) (.cells #[] 35) (.cells #[.int .i64 t.pub, .int .i64 s, .string ⟨k.toArray⟩, .string ⟨b.toArray⟩, .bool false] 35))
    clear hd7 ha7 hab hac1
    go_region_law (first | (refine step_put_rows mgE (m := t.put) rfl (.tmp 81) (.tmp 85) rfl HOa.out HA7.out.size rfl _ rfl rfl (HAT.out.below HA7.out) (by have := HL8.out; rw [List.length_nil]; omega) HNN.out ?_; intro v8 w8 hown8 hg8; have HOWN8 := Lib.hid hown8; have HB8 := Lib.hid (OwnE.grown HA7.out HOa.out hg8 HA7.out.size); obtain ⟨⟨m0, m1, m2, m3, m4⟩, -⟩ := box5 (box_bl HXM2.out HB8.out); have zs1 := Nat.lt_of_lt_of_le z1 HB8.out.size; have zs2 := Nat.lt_of_lt_of_le z3 HB8.out.size; clear hown8 hg8) | (refine step_put_one mgE (pubM t k s b) rfl (.tmp 86) (.tmp 88) rfl HOWN8.out HB8.out.size (by have := HL8.out; rw [List.length_append, List.length_nil]; omega) _ rfl rfl _ rfl rfl ?_; intro v9 w9 hown9 hg9; obtain ⟨xr, cr, rfl, -, -⟩ := OwnE.at mgE hown9; have HB9 := Lib.hid (OwnE.grown HB8.out HOWN8.out hg9 HB8.out.size); obtain ⟨⟨y0, y1, y2, y3, y4, y5⟩, z0, z1, z2, z3, z4, z5⟩ := box6d (box_bl HX.out HB9.out); have hEND := rpub_end HX.out HRO.out.2 HK.out HB9.out hown9 HZ.out; rw [show (([] : List Mg) ++ t.put ++ [pubM t k s b]).length = t.put.length + 1 by simp] at hEND; have HEND := Lib.hid hEND; clear hown9 hg9 hEND) | (refine step_put_rows mgE (m := t.put) rfl (.tmp 81) (.tmp 85) rfl HOb.out HAb.out.size rfl _ rfl rfl (HAT.out.below HAb.out) (by have := HL8.out; rw [List.length_nil]; omega) HNN.out ?_; intro v8 w8 hown8 hg8; have HOWN8 := Lib.hid hown8; have HB8 := Lib.hid (OwnE.grown HAb.out HOb.out hg8 HAb.out.size); have hq8 := (hg8.block (W.heap.size + 1) (by have := HP2.out.2.2.2; show _ < ((W.drew.alloc (.cells #[] 35)).alloc (.cells #[.int .i64 t.pub, .int .i64 s, .string ⟨k.toArray⟩, .string ⟨b.toArray⟩, .bool false] 35)).heap.size; rw [this]; show _ < W.heap.size + 2; omega) (by intro e; have e : W.heap.size + 1 = W.heap.size := Option.some.inj e; omega)).trans HP2.out.2.1; have HR8 := Lib.hid (mgs_one (m := pubM t k s b) hq8); clear hown8 hg8 hq8) | (refine step_put_rows mgE (m := t.put) rfl (.tmp 81) (.tmp 85) rfl HOc.out HAc.out.size rfl _ rfl rfl (HAT.out.below HAc.out) (by have := HL8.out; rw [List.length_nil]; omega) HNN.out ?_; intro v8 w8 hown8 hg8; have HOWN8 := Lib.hid hown8; have HB8 := Lib.hid (OwnE.grown HAc.out HOc.out hg8 HAc.out.size); have hq8 := (hg8.block W.heap.size (by have := HP3.out.2.2.2; show _ < ((W.drew.alloc (.cells #[.int .i64 t.pub, .int .i64 s, .string ⟨k.toArray⟩, .string ⟨b.toArray⟩, .bool false] 35)).alloc (.cells #[] 35)).heap.size; rw [this]; show _ < W.heap.size + 2; omega) (by intro e; have e : W.heap.size = W.heap.size + 1 := Option.some.inj e; omega)).trans HP3.out.1; have HR8 := Lib.hid (mgs_one (m := pubM t k s b) hq8); clear hown8 hg8 hq8) | (refine step_put_rows mgE (m := [pubM t k s b]) rfl (.tmp 86) (.tmp 88) rfl HOWN8.out HB8.out.size rfl _ rfl rfl HR8.out (by have := HL8.out; rw [List.length_append, List.length_nil]; simp; omega) (fun e => by cases e) ?_; intro v9 w9 hown9 hg9; obtain ⟨xr, cr, rfl, -, -⟩ := OwnE.at mgE hown9; have HB9 := Lib.hid (OwnE.grown HB8.out HOWN8.out hg9 HB8.out.size); obtain ⟨⟨y0, y1, y2, y3, y4, y5⟩, z0, z1, z2, z3, z4, z5⟩ := box6d (box_bl HX.out HB9.out); have hEND := rpub_end HX.out HRO.out.2 HK.out HB9.out hown9 HZ.out; rw [show (([] : List Mg) ++ t.put ++ [pubM t k s b]).length = t.put.length + 1 by simp] at hEND; have HEND := Lib.hid hEND; clear hown9 hg9 hEND))
    all_goals
      go_wp2_with fail
      go_ret
      exact HEND.out
  have hse := (HM.out.2.2.1 (endT t) (by rw [end_get h5]; exact List.getElem_mem _)).1.2.2
  obtain ⟨eb, eo, rfl, -, x1, -⟩ := MgsAt.get HMG.out (t.put.length - 1) (by omega)
  rw [← end_get h5] at x1
  have q5 : (0 : Int) < (t.put.length : Int) := by omega
  have q6 : IntKind.i64.wrap ((t.put.length : Int) - 1) = ((t.put.length - 1 : Nat) : Int) := by rw [IntWalk.i64_in _ (by omega)]; omega
  have q7 : ((t.put.length - 1 : Nat) : Int) < (t.put.length : Int) := by omega
  have q8 : (0 : Int) ≤ ((t.put.length - 1 : Nat) : Int) := by omega
  have q9 : IntKind.i64.wrap ((endT t).seq + 1) = (endT t).seq + 1 := IntWalk.i64_in _ (by omega)
  have HX1 := Lib.hid x1
  clear x1 hse
  by_cases h6 : s = (endT t).seq + 1
  case neg =>
    obtain ⟨e1, e2⟩ := pub_bad (t := t) (q := q) (k := k) (s := s) (b := b) (c := 1) (by unfold pubC; rw [if_neg (fun h => h ⟨h1, h2⟩), if_neg h3, if_neg h4, if_pos ⟨h5, h6⟩]) (by decide)
    rw [e1, e2]
    have q10 : (s == (endT t).seq + 1) = false := by simpa using h6
    have q11 : (s != (endT t).seq + 1) = true := by simpa using h6
    clear h1 h2 h3 h4 h6 e1 e2
    go_enter Try.func49, Try.ntmps49
    go_wp2_with (first | (go_at_call 75; refine HMM.out.mono ?_; rintro e w2 ⟨rfl, hg2⟩; have HB2 := Lib.hid (HB0.out.trans (hg2.below.mono HB0.out.size)); have HXM := Lib.hid (hg2.below.block w.heap.size (by simp) |>.trans (heap_alloc_new w _)); have HT2 := Lib.hid (HT.out.below HB2.out); obtain ⟨⟨c0, c1, c2, c3, c4, c5⟩, f0, f1, f2, f3, f4, f5⟩ := box6d HT2.out.bx; clear hg2) | (go_at_call 93; refine (HEL.out w2 HB2.out).mono ?_; rintro e w3 ⟨rfl, rfl⟩))
    have x1 := (HB2.out.cell (p := ⟨eb, _, none⟩) (lt_of_cell HX1.out)).trans HX1.out
    generalize (endT t).seq = es at *
    go_quiet (fail)
    go_wp2_with fail
    go_ret
    exact rpub_same HT.out (Rg.Below.drewN HB2.out _)
  obtain ⟨e1, e2⟩ := pub_good (t := t) (q := q) (k := k) (s := s) (b := b) (by unfold pubC; rw [if_neg (fun h => h ⟨h1, h2⟩), if_neg h3, if_neg h4, if_neg (fun h => h.2 h6)])
  rw [e1, e2]
  have q10 : (s == (endT t).seq + 1) = true := by simpa using h6
  have q11 : (s != (endT t).seq + 1) = false := by simpa using h6
  clear h1 h2 h3 h4 h6 e1 e2
  go_enter Try.func49, Try.ntmps49
  go_wp2_with (first | (go_at_call 75; refine HMM.out.mono ?_; rintro e w2 ⟨rfl, hg2⟩; have HB2 := Lib.hid (HB0.out.trans (hg2.below.mono HB0.out.size)); have HXM := Lib.hid (hg2.below.block w.heap.size (by simp) |>.trans (heap_alloc_new w _)); have HT2 := Lib.hid (HT.out.below HB2.out); obtain ⟨⟨c0, c1, c2, c3, c4, c5⟩, f0, f1, f2, f3, f4, f5⟩ := box6d HT2.out.bx; clear hg2) | (go_at_call 93; refine (HEL.out w2 HB2.out).mono ?_; rintro e w3 ⟨rfl, rfl⟩))
  have x1 := (HB2.out.cell (p := ⟨eb, _, none⟩) (lt_of_cell HX1.out)).trans HX1.out
  generalize (endT t).seq = es at *
  go_quiet (fail)
  go_wp2_with fail
  obtain ⟨hs1, hs2, hs3⟩ := rset_three HT2.out nq q k
  have hxm := hs3.box HXM.out (by rw [List.mem_singleton]; omega)
  have hk0 := (Kept.of_below (bs := [g]) HB2.out).trans hs3 (fun x hx => .inl hx)
  have hz : w2.heap.size ≤ ((((w2.drewN nq).setCell ⟨g, 3, none⟩ (.bool true)).setCell ⟨g, 1, none⟩ (.int .i64 q)).setCell ⟨g, 2, none⟩ (.string ⟨k.toArray⟩)).heap.size := hs3.size
  clear f0 f1 f2 f3 f4 f5
  generalize ((((w2.drewN nq).setCell ⟨g, 3, none⟩ (.bool true)).setCell ⟨g, 1, none⟩ (.int .i64 q)).setCell ⟨g, 2, none⟩ (.string ⟨k.toArray⟩)) = W at *
  obtain ⟨⟨c0, c1, c2, c3, c4, c5⟩, -⟩ := box6d hs1
  obtain ⟨⟨m0, m1, m2, m3, m4⟩, -⟩ := box5 hxm
  have z1 : w.heap.size < W.heap.size := (Array.getElem?_eq_some_iff.1 hxm).1
  have z2 : ¬ w.heap.size = W.heap.size := by omega
  have z3 : g < W.heap.size := by omega
  have z4 : ¬ g = W.heap.size := by omega
  have z5 : w.heap.size < W.heap.size + 1 := by omega
  have z6 : ¬ w.heap.size = W.heap.size + 1 := by omega
  have z7 : g < W.heap.size + 1 := by omega
  have z8 : ¬ g = W.heap.size + 1 := by omega
  have HZ := Lib.hid z3
  have HK := Lib.hid hk0
  have HX := Lib.hid hs1
  have HXM2 := Lib.hid hxm
  have HRO := Lib.hid hs2
  obtain ⟨xa0, xc0, he0, hat0, hnn0⟩ := OwnE.at mgE hs2.1
  obtain ⟨rfl, -, rfl⟩ := Value.slice.inj he0
  have HAT := Lib.hid hat0
  have HNN := Lib.hid hnn0
  have HL8 := Lib.hid (show t.put.length ≤ 8 from hl8)
  clear hs1 hs2 hs3 hxm hk0 hz he0 hat0 hnn0
  have hd7 : Below W.heap.size W W.drew := (Below.refl _ _).drew
  have HD7 := Lib.hid hd7
  have ha7 : Below W.heap.size W (W.drew.alloc (.cells #[] 35)) := hd7.alloc (w := W.drew) (Nat.le_refl _) _
  have HA7 := Lib.hid ha7
  have HOa := Lib.hid (OwnE.lit mgE W.drew W.heap.size (Nat.le_refl _))
  have hab : Below W.heap.size W ((W.drew.alloc (.cells #[] 35)).alloc (.cells #[.int .i64 t.pub, .int .i64 s, .string ⟨k.toArray⟩, .string ⟨b.toArray⟩, .bool false] 35)) := ha7.alloc (Nat.le_trans (Nat.le_refl _) ha7.size) _
  have HAb := Lib.hid hab
  have HOb := Lib.hid (OwnE.below1 HOa.out ((Below.refl _ (W.drew.alloc (.cells #[] 35))).alloc (Nat.le_refl _) (.cells #[.int .i64 t.pub, .int .i64 s, .string ⟨k.toArray⟩, .string ⟨b.toArray⟩, .bool false] 35)))
  have hac1 : Below W.heap.size W (W.drew.alloc (.cells #[.int .i64 t.pub, .int .i64 s, .string ⟨k.toArray⟩, .string ⟨b.toArray⟩, .bool false] 35)) := hd7.alloc (w := W.drew) (Nat.le_refl _) _
  have HAc := Lib.hid (hac1.alloc hac1.size (.cells #[] 35))
  have HP3 := Lib.hid (two_box (w := W.drew) (.cells #[.int .i64 t.pub, .int .i64 s, .string ⟨k.toArray⟩, .string ⟨b.toArray⟩, .bool false] 35) (.cells #[] 35))
  have HOc := Lib.hid (own_litm (w := W) (.cells #[.int .i64 t.pub, .int .i64 s, .string ⟨k.toArray⟩, .string ⟨b.toArray⟩, .bool false] 35))
  have HP2 := Lib.hid (two_box (w := W.drew) (.cells #[] 35) (.cells #[.int .i64 t.pub, .int .i64 s, .string ⟨k.toArray⟩, .string ⟨b.toArray⟩, .bool false] 35))
  clear hd7 ha7 hab hac1
  go_region_law (first | (refine step_put_rows mgE (m := t.put) rfl (.tmp 81) (.tmp 85) rfl HOa.out HA7.out.size rfl _ rfl rfl (HAT.out.below HA7.out) (by have := HL8.out; rw [List.length_nil]; omega) HNN.out ?_; intro v8 w8 hown8 hg8; have HOWN8 := Lib.hid hown8; have HB8 := Lib.hid (OwnE.grown HA7.out HOa.out hg8 HA7.out.size); obtain ⟨⟨m0, m1, m2, m3, m4⟩, -⟩ := box5 (box_bl HXM2.out HB8.out); have zs1 := Nat.lt_of_lt_of_le z1 HB8.out.size; have zs2 := Nat.lt_of_lt_of_le z3 HB8.out.size; clear hown8 hg8) | (refine step_put_one mgE (pubM t k s b) rfl (.tmp 86) (.tmp 88) rfl HOWN8.out HB8.out.size (by have := HL8.out; rw [List.length_append, List.length_nil]; omega) _ rfl rfl _ rfl rfl ?_; intro v9 w9 hown9 hg9; obtain ⟨xr, cr, rfl, -, -⟩ := OwnE.at mgE hown9; have HB9 := Lib.hid (OwnE.grown HB8.out HOWN8.out hg9 HB8.out.size); obtain ⟨⟨y0, y1, y2, y3, y4, y5⟩, z0, z1, z2, z3, z4, z5⟩ := box6d (box_bl HX.out HB9.out); have hEND := rpub_end HX.out HRO.out.2 HK.out HB9.out hown9 HZ.out; rw [show (([] : List Mg) ++ t.put ++ [pubM t k s b]).length = t.put.length + 1 by simp] at hEND; have HEND := Lib.hid hEND; clear hown9 hg9 hEND) | (refine step_put_rows mgE (m := t.put) rfl (.tmp 81) (.tmp 85) rfl HOb.out HAb.out.size rfl _ rfl rfl (HAT.out.below HAb.out) (by have := HL8.out; rw [List.length_nil]; omega) HNN.out ?_; intro v8 w8 hown8 hg8; have HOWN8 := Lib.hid hown8; have HB8 := Lib.hid (OwnE.grown HAb.out HOb.out hg8 HAb.out.size); have hq8 := (hg8.block (W.heap.size + 1) (by have := HP2.out.2.2.2; show _ < ((W.drew.alloc (.cells #[] 35)).alloc (.cells #[.int .i64 t.pub, .int .i64 s, .string ⟨k.toArray⟩, .string ⟨b.toArray⟩, .bool false] 35)).heap.size; rw [this]; show _ < W.heap.size + 2; omega) (by intro e; have e : W.heap.size + 1 = W.heap.size := Option.some.inj e; omega)).trans HP2.out.2.1; have HR8 := Lib.hid (mgs_one (m := pubM t k s b) hq8); clear hown8 hg8 hq8) | (refine step_put_rows mgE (m := t.put) rfl (.tmp 81) (.tmp 85) rfl HOc.out HAc.out.size rfl _ rfl rfl (HAT.out.below HAc.out) (by have := HL8.out; rw [List.length_nil]; omega) HNN.out ?_; intro v8 w8 hown8 hg8; have HOWN8 := Lib.hid hown8; have HB8 := Lib.hid (OwnE.grown HAc.out HOc.out hg8 HAc.out.size); have hq8 := (hg8.block W.heap.size (by have := HP3.out.2.2.2; show _ < ((W.drew.alloc (.cells #[.int .i64 t.pub, .int .i64 s, .string ⟨k.toArray⟩, .string ⟨b.toArray⟩, .bool false] 35)).alloc (.cells #[] 35)).heap.size; rw [this]; show _ < W.heap.size + 2; omega) (by intro e; have e : W.heap.size = W.heap.size + 1 := Option.some.inj e; omega)).trans HP3.out.1; have HR8 := Lib.hid (mgs_one (m := pubM t k s b) hq8); clear hown8 hg8 hq8) | (refine step_put_rows mgE (m := [pubM t k s b]) rfl (.tmp 86) (.tmp 88) rfl HOWN8.out HB8.out.size rfl _ rfl rfl HR8.out (by have := HL8.out; rw [List.length_append, List.length_nil]; simp; omega) (fun e => by cases e) ?_; intro v9 w9 hown9 hg9; obtain ⟨xr, cr, rfl, -, -⟩ := OwnE.at mgE hown9; have HB9 := Lib.hid (OwnE.grown HB8.out HOWN8.out hg9 HB8.out.size); obtain ⟨⟨y0, y1, y2, y3, y4, y5⟩, z0, z1, z2, z3, z4, z5⟩ := box6d (box_bl HX.out HB9.out); have hEND := rpub_end HX.out HRO.out.2 HK.out HB9.out hown9 HZ.out; rw [show (([] : List Mg) ++ t.put ++ [pubM t k s b]).length = t.put.length + 1 by simp] at hEND; have HEND := Lib.hid hEND; clear hown9 hg9 hEND))
  all_goals
    go_wp2_with fail
    go_ret
    exact HEND.out

end Go.Proofs.Ythohjcfpobeplaa.Bt

namespace Go.Proofs.Ythohjcfpobeplaa.Bt
open Go.RowKit Rg Sh Go.Sort
set_option linter.unusedVariables false
set_option linter.unusedSimpArgs false

def rackRel (l : List Int) (x : Int) (w : World) (m : Nat) (v9 : Value) (wr : World) : Prop :=
  ∃ i : Nat, i ≤ l.length ∧ m = l.length - i ∧ v9 = .int .i64 i ∧ (∀ j (hj : j < l.length), j < i → ¬ l[j] = x) ∧ w = wr
set_option maxRecDepth 100000 in
set_option maxHeartbeats 4000000 in
theorem rackt_any (g : Nat) (t : Tx) (pv tv : Value) (q n : Int) (k : List UInt8) (w : World) (hm : MayTx t) (h : RxAt w g t pv tv) :
    Calls Try.prog 51 #[.pointer (some ⟨g, 0, none⟩), .int .i64 q, .string ⟨k.toArray⟩, .int .i64 n] w (RAckR g (ackT t q k n) (ackC t q k n) pv tv w) := by
  obtain ⟨pa, pc, ta, tc, rfl, rfl, hmg, hin, hpn, htn⟩ := rx_form h
  have hglt := h.lt
  have hsz : (⟨k.toArray⟩ : ByteArray).size = k.length := rfl
  have HT := Lib.hid h
  have HIN := Lib.hid hin
  have HTN := Lib.hid htn
  have HEL := Lib.hid (other_any g t (.slice pa t.put.length pc) (.slice ta t.tags.length tc) q k w h)
  obtain ⟨⟨c0, c1, c2, c3, c4, c5⟩, f0, f1, f2, f3, f4, f5⟩ := box6d h.bx
  clear h hmg hin hpn htn
  have hl8 := hm.2.1
  clear hm
  go_enter Try.func51, Try.ntmps51
  go_wp2_with fail
  go_loopg [9] t.tags.length (rackRel t.tags n w)
  case atStart => exact ⟨0, by omega, by omega, rfl, fun j hj h => by omega, rfl⟩
  case round =>
    obtain ⟨i, hi, rfl, rfl, hno, rfl⟩ := hrel
    have HNO := Lib.hid hno
    clear hno
    by_cases hlt : i < t.tags.length
    · have hlti : (i : Int) < (t.tags.length : Int) := by omega
      have h0i : (0 : Int) ≤ (i : Int) := by omega
      have q1 : IntKind.i64.wrap ((i : Int) + 1) = (i : Int) + 1 := IntWalk.i64_in _ (by omega)
      obtain ⟨b, o, rfl, x0⟩ := InsAt.get HIN.out i hlt
      by_cases hp : t.tags[i] = n
      · have hmem : n ∈ t.tags := hp ▸ List.getElem_mem hlt
        have e3 : (t.tags[i] == n) = true := by rw [hp]; simp
        obtain ⟨e1, e2⟩ := ack_bad (t := t) (q := q) (k := k) (n := n) (c := 1) (by unfold ackC; rw [if_pos (.inr (.inr hmem))]) (by decide)
        have HE := Lib.hid (And.intro e1 e2)
        clear hp hmem e1 e2
        go_wp2_with fail
        go_ret
        rw [HE.out.1, HE.out.2]
        exact rack_same HT.out (Below.refl _ _)
      · have HP := Lib.hid hp
        have e3 : (t.tags[i] == n) = false := by rw [beq_eq_false_iff_ne]; exact hp
        clear hp
        go_wp2_with fail
        go_roundg (t.tags.length - (i + 1))
        case measure => omega
        case rel =>
          refine ⟨i + 1, by omega, rfl, by simp, fun j hj hji => ?_, rfl⟩
          by_cases e : j = i
          · subst e; exact HP.out
          · exact HNO.out j hj (by omega)
    obtain rfl : i = t.tags.length := by omega
    have hlti : ¬ (t.tags.length : Int) < (t.tags.length : Int) := by omega
    have h0 : ¬ n ∈ t.tags := (idx_not fun j hj => HNO.out j hj hj).2
    clear HNO hlt
    by_cases hq0 : q < 0
    case pos =>
      obtain ⟨e1, e2⟩ := ack_bad (t := t) (q := q) (k := k) (n := n) (c := 1) (by unfold ackC; rw [if_pos (.inl fun h => by have := h.1; omega)]) (by decide)
      have HE := Lib.hid (And.intro e1 e2)
      clear h0 e1 e2
      go_wp2_with (go_at_call 93; refine HEL.out.mono ?_; rintro e w3 ⟨rfl, rfl⟩)
      go_ret
      rw [HE.out.1, HE.out.2]
      exact rack_same HT.out (Below.refl _ _)
    by_cases hq4 : 4 ≤ q
    case pos =>
      obtain ⟨e1, e2⟩ := ack_bad (t := t) (q := q) (k := k) (n := n) (c := 1) (by unfold ackC; rw [if_pos (.inl fun h => by have := h.2.1; omega)]) (by decide)
      have HE := Lib.hid (And.intro e1 e2)
      clear h0 e1 e2
      go_wp2_with (go_at_call 93; refine HEL.out.mono ?_; rintro e w3 ⟨rfl, rfl⟩)
      go_ret
      rw [HE.out.1, HE.out.2]
      exact rack_same HT.out (Below.refl _ _)
    by_cases hk0 : k.length < 1
    case pos =>
      obtain ⟨e1, e2⟩ := ack_bad (t := t) (q := q) (k := k) (n := n) (c := 1) (by unfold ackC; rw [if_pos (.inl fun h => by have := h.2.2.1; omega)]) (by decide)
      have HE := Lib.hid (And.intro e1 e2)
      have q5 : (k.length : Int) < 1 := by omega
      clear h0 e1 e2
      go_wp2_with (go_at_call 93; refine HEL.out.mono ?_; rintro e w3 ⟨rfl, rfl⟩)
      go_ret
      rw [HE.out.1, HE.out.2]
      exact rack_same HT.out (Below.refl _ _)
    have q5 : ¬ (k.length : Int) < 1 := by omega
    by_cases hk1 : 20 < k.length
    case pos =>
      obtain ⟨e1, e2⟩ := ack_bad (t := t) (q := q) (k := k) (n := n) (c := 1) (by unfold ackC; rw [if_pos (.inl fun h => by have := h.2.2.2; omega)]) (by decide)
      have HE := Lib.hid (And.intro e1 e2)
      have q6 : (20 : Int) < (k.length : Int) := by omega
      clear h0 e1 e2
      go_wp2_with (go_at_call 93; refine HEL.out.mono ?_; rintro e w3 ⟨rfl, rfl⟩)
      go_ret
      rw [HE.out.1, HE.out.2]
      exact rack_same HT.out (Below.refl _ _)
    have q6 : ¬ (20 : Int) < (k.length : Int) := by omega
    by_cases h2 : n < 1
    case pos =>
      obtain ⟨e1, e2⟩ := ack_bad (t := t) (q := q) (k := k) (n := n) (c := 1) (by unfold ackC; rw [if_pos (.inr (.inl h2))]) (by decide)
      have HE := Lib.hid (And.intro e1 e2)
      clear h0 e1 e2
      go_wp2_with (go_at_call 93; refine HEL.out.mono ?_; rintro e w3 ⟨rfl, rfl⟩)
      go_ret
      rw [HE.out.1, HE.out.2]
      exact rack_same HT.out (Below.refl _ _)
    have h1 : MayBe q k := ⟨by omega, by omega, by omega, by omega⟩
    have hno : ¬ (¬ MayBe q k ∨ n < 1 ∨ n ∈ t.tags) := fun h => by rcases h with h | h | h; exact h h1; exact h2 h; exact h0 h
    by_cases h3 : Els t q k
    case pos =>
      obtain ⟨e1, e2⟩ := ack_bad (t := t) (q := q) (k := k) (n := n) (c := 540) (by unfold ackC; rw [if_neg hno, if_pos h3]) (by decide)
      have HE := Lib.hid (And.intro e1 e2)
      rw [decide_eq_true h3] at HEL
      clear h0 h1 h3 hno e1 e2
      go_wp2_with (go_at_call 93; refine HEL.out.mono ?_; rintro e w3 ⟨rfl, rfl⟩)
      go_ret
      rw [HE.out.1, HE.out.2]
      exact rack_same HT.out (Below.refl _ _)
    rw [decide_eq_false h3] at HEL
    by_cases h4 : t.tags.length = 8
    case pos =>
      obtain ⟨e1, e2⟩ := ack_bad (t := t) (q := q) (k := k) (n := n) (c := 4) (by unfold ackC; rw [if_neg hno, if_neg h3, if_pos h4]) (by decide)
      have HE := Lib.hid (And.intro e1 e2)
      have q4 : (8 : Int) ≤ (t.tags.length : Int) := by omega
      clear h0 h1 h3 hno e1 e2
      go_wp2_with (go_at_call 93; refine HEL.out.mono ?_; rintro e w3 ⟨rfl, rfl⟩)
      go_ret
      rw [HE.out.1, HE.out.2]
      exact rack_same HT.out (Below.refl _ _)
    have q4 : ¬ (8 : Int) ≤ (t.tags.length : Int) := by omega
    obtain ⟨e1, e2⟩ := ack_good (t := t) (q := q) (k := k) (n := n) (by unfold ackC; rw [if_neg hno, if_neg h3, if_neg h4])
    have HE := Lib.hid (And.intro e1 e2)
    clear h0 h1 h3 hno e1 e2
    go_upto_region 13 with (go_at_call 93; refine HEL.out.mono ?_; rintro e w3 ⟨rfl, rfl⟩)
    obtain ⟨hs1, hs2, hs3⟩ := rset_three HT.out 0 q k
    have hz : w.heap.size ≤ (((w.setCell ⟨g, 3, none⟩ (.bool true)).setCell ⟨g, 1, none⟩ (.int .i64 q)).setCell ⟨g, 2, none⟩ (.string ⟨k.toArray⟩)).heap.size := hs3.size
    clear f0 f1 f2 f3 f4 f5 c0 c1 c2 c3 c4 c5
    rw [show w.drewN 0 = w from rfl] at hs1 hs2 hs3
    obtain ⟨W, hW⟩ : ∃ W, W = (((w.setCell ⟨g, 3, none⟩ (.bool true)).setCell ⟨g, 1, none⟩ (.int .i64 q)).setCell ⟨g, 2, none⟩ (.string ⟨k.toArray⟩)) := ⟨_, rfl⟩
    rw [← hW] at hs1 hs2 hs3 hz ⊢
    clear hW
    obtain ⟨⟨c0, c1, c2, c3, c4, c5⟩, -⟩ := box6d hs1
    have z3 : g < W.heap.size := by omega
    have z4 : ¬ g = W.heap.size := by omega
    have HZ := Lib.hid z3
    have HK := Lib.hid hs3
    have HX := Lib.hid hs1
    have HRO := Lib.hid hs2
    obtain ⟨xa0, xc0, he0, hat0, hnn0⟩ := OwnE.at inE hs2.2
    obtain ⟨rfl, -, rfl⟩ := Value.slice.inj he0
    have HAT := Lib.hid hat0
    have HNN := Lib.hid hnn0
    have HL8 := Lib.hid (show t.tags.length ≤ 8 from hl8)
    have ha7 : Below W.heap.size W (W.alloc (.cells #[] 3)) := (Below.refl _ _).alloc (Nat.le_refl _) _
    have HA7 := Lib.hid ha7
    have HOa := Lib.hid (OwnE.lit inE W W.heap.size (Nat.le_refl _))
    clear hs1 hs2 hs3 hz he0 hat0 hnn0 ha7
    go_wp2_with (first | (refine put_rows inE (m := t.tags) rfl (.tmp 73) (.tmp 77) rfl HOa.out HA7.out.size rfl _ rfl rfl (HAT.out.below HA7.out) (by have := HL8.out; rw [List.length_nil]; omega) HNN.out ?_; intro v8 w8 hown8 hg8; have HOWN8 := Lib.hid hown8; have HB8 := Lib.hid (OwnE.grown HA7.out HOa.out hg8 HA7.out.size); clear hown8 hg8) | (refine put_one inE n rfl (.tmp 78) (.tmp 80) rfl HOWN8.out HB8.out.size (by have := HL8.out; rw [List.length_append, List.length_nil]; omega) _ rfl rfl _ rfl rfl ?_; intro v9 w9 hown9 hg9; obtain ⟨xr, cr, rfl, -, -⟩ := OwnE.at inE hown9; have HB9 := Lib.hid (OwnE.grown HB8.out HOWN8.out hg9 HB8.out.size); obtain ⟨⟨y0, y1, y2, y3, y4, y5⟩, z0, z1, z2, z3, z4, z5⟩ := box6d (box_bl HX.out HB9.out); have hEND := rack_end HX.out HRO.out.1 HK.out HB9.out hown9 HZ.out; rw [show (([] : List Int) ++ t.tags ++ [n]).length = t.tags.length + 1 by simp] at hEND; have HEND := Lib.hid hEND; clear hown9 hg9 hEND))
    go_ret
    rw [HE.out.1, HE.out.2]
    exact HEND.out

end Go.Proofs.Ythohjcfpobeplaa.Bt
