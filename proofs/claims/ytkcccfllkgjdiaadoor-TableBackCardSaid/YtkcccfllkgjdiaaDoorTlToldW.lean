/-
  carrefourlaw10.told, walked.
-/
import Derived.Test.YtkcccfllkgjdiaaDoorTlTold
import Derived.Test.YtkcccfllkgjdiaaDoorTlMove
namespace Go.Proofs.YtkcccfllkgjdiaaDoor.Tl
open Go.RowKit Rg
set_option linter.unusedVariables false

theorem ta_box {w : World} {aa na : Option Addr} {ac nc : Nat} {t : Ta} (h : TaAt w aa ac na nc t) (o : Obj) : TaAt (w.alloc o) aa ac na nc t ∧ Below w.heap.size w (w.alloc o) ∧ (w.alloc o).heap[w.heap.size]? = some o ∧ (w.alloc o).heap.size = w.heap.size + 1 := by
  have hb : Below w.heap.size w (w.alloc o) := (Below.refl _ _).alloc (Nat.le_refl _) _
  exact ⟨h.below hb, hb, heap_alloc_new _ _, by simp⟩
set_option maxRecDepth 100000 in
set_option maxHeartbeats 8000000 in
theorem told_any (w : World) :
    Calls Tryd.prog 5 #[] w fun e w' => e = .returned (.bool true) ∧ Below w.heap.size w w' := by
  have HNEW := Lib.hid fun (wx : World) a h => new_any a 2 [1, 1] 2 wx h
  rw [new11.1, new11.2] at HNEW
  unfold TaR at HNEW
  have HSP := Lib.hid fun (wx : World) aa ac na nc h => split_any t0 1 aa ac na nc (by decide) (by decide) wx h wf16
  rw [split0.2.2, halv0] at HSP
  unfold Ta3R at HSP
  have HMV := Lib.hid fun (wx : World) aa ac na nc h => move_any t0 0 1 aa ac na nc (by decide) (by decide) wx h wf16
  rw [move0.1, move0.2.1] at HMV
  have HM0 := Lib.hid fun (wx : World) aa ac na nc h => move_any t0 0 0 aa ac na nc (by decide) (by decide) wx h wf16
  rw [move0.2.2] at HM0
  have HPU := Lib.hid fun (wx : World) aa ac na nc h => put_any t0 aa ac na nc wx h wf16
  unfold PutBR at HPU
  rw [put0.1, put0.2] at HPU
  have HGE := Lib.hid fun (wx : World) a cap h1 h2 h3 => get_any a cap (putT t0) h1 h2 wx h3
  unfold GetTR at HGE
  rw [got0.1, got0.2] at HGE
  have HGN := Lib.hid fun (wx : World) h => get_any none 0 [] (Nat.le_refl _) (by simp [maxLen]) wx h
  unfold GetTR at HGN
  rw [gotN] at HGN
  have hS1 := split0.1
  have hS2 := split0.2.1
  have HPL : Hid ((putT t0).length = 89) := Lib.hid (by rw [putT_length]; rfl)
  generalize splitT t0 1 = tS at *
  generalize moveT t0 0 0 = tM at *
  generalize gotT [] = tN at *
  generalize putT t0 = pb at *
  have HS1 := Lib.hid hS1
  have HS2 := Lib.hid hS2
  clear hS1 hS2
  obtain ⟨W0, hW0⟩ : ∃ W0, W0 = w.alloc (.cells #[.int .i64 1, .int .i64 1] 3) := ⟨_, rfl⟩
  have hws : WsAt W0 (some ⟨w.heap.size, 0, none⟩) 2 [1, 1] := by rw [hW0]; exact wl2 w 1 1
  have HBL0 : Hid (Below w.heap.size w W0) := Lib.hid (by rw [hW0]; exact (Below.refl _ _).alloc (Nat.le_refl _) _)
  have HW0 := Lib.hid hW0
  have HWS := Lib.hid hws
  clear hW0 hws
  go_enter Tryd.func5, Tryd.ntmps5
  go_wp2_with fail
  rw [← HW0.out]
  refine (HNEW.out W0 _ HWS.out).mono ?_
  rintro e w1 ⟨aa, ac, na, nc, rfl, hA1, hN1, -, -, hb1⟩
  obtain ⟨V1, hV1⟩ : ∃ V, V = w1.alloc (.cells #[.int .i64 t0.ep, .slice aa t0.arcs.length ac, .slice na t0.nodes.length nc] 26) := ⟨_, rfl⟩
  have hbx := ta_box (TaAt.mk hA1 hN1 : TaAt w1 aa ac na nc t0) (.cells #[.int .i64 t0.ep, .slice aa t0.arcs.length ac, .slice na t0.nodes.length nc] 26)
  rw [← hV1] at hbx
  have HV1 := Lib.hid hV1
  have HT1 := Lib.hid hbx.1
  have HX1 := Lib.hid hbx.2.2.1
  have HBL1 := Lib.hid (HBL0.out.trans ((hb1.mono HBL0.out.size).trans (hbx.2.1.mono (Nat.le_trans HBL0.out.size hb1.size))))
  have HST1 := Lib.hid (hb1.trans (hbx.2.1.mono hb1.size))
  clear hbx hV1
  clear hA1 hN1 hb1
  go_wp2_with fail
  rw [← HV1.out]
  refine (HSP.out V1 _ _ _ _ HT1.out).mono ?_
  rintro e w2 ⟨sa, sc, sn, sk, rfl, hT2, hb2⟩
  obtain ⟨V2, hV2⟩ : ∃ V, V = w2.alloc (.cells #[.int .i64 tS.ep, .slice sa tS.arcs.length sc, .slice sn tS.nodes.length sk] 26) := ⟨_, rfl⟩
  have hbx := ta_box (hT2) (.cells #[.int .i64 tS.ep, .slice sa tS.arcs.length sc, .slice sn tS.nodes.length sk] 26)
  rw [← hV2] at hbx
  have HV2 := Lib.hid hV2
  have HT2 := Lib.hid hbx.1
  have HX2 := Lib.hid hbx.2.2.1
  have HBL2 := Lib.hid (HBL1.out.trans ((hb2.mono HBL1.out.size).trans (hbx.2.1.mono (Nat.le_trans HBL1.out.size hb2.size))))
  have HST2 := Lib.hid (hb2.trans (hbx.2.1.mono hb2.size))
  clear hbx hV2
  obtain ⟨⟨c0, c1, c2⟩, -⟩ := box3 ((hb2.block _ (Array.getElem?_eq_some_iff.1 HX1.out).1).trans HX1.out)
  have hl1 : w1.heap.size < w2.heap.size := Nat.lt_of_lt_of_le (Array.getElem?_eq_some_iff.1 HX1.out).1 hb2.size
  clear hT2 hb2
  go_wp2_with fail
  rw [← HV2.out]
  have HX1b := Lib.hid ((HST2.out.block _ (Array.getElem?_eq_some_iff.1 HX1.out).1).trans HX1.out)
  have HT1b := Lib.hid (HT1.out.below HST2.out)
  refine (HMV.out V2 _ _ _ _ HT1b.out).mono ?_
  rintro e w3 ⟨ma, mc, mn, mk, rfl, hT3, hb3⟩
  obtain ⟨V3, hV3⟩ : ∃ V, V = w3.alloc (.cells #[.int .i64 2, .slice ma L16.length mc, .slice mn 2 mk] 26) := ⟨_, rfl⟩
  have hbx := ta_box (hT3) (.cells #[.int .i64 2, .slice ma L16.length mc, .slice mn 2 mk] 26)
  rw [← hV3] at hbx
  have HV3 := Lib.hid hV3
  have HT3 := Lib.hid hbx.1
  have HX3 := Lib.hid hbx.2.2.1
  have HBL3 := Lib.hid (HBL2.out.trans ((hb3.mono HBL2.out.size).trans (hbx.2.1.mono (Nat.le_trans HBL2.out.size hb3.size))))
  have HST3 := Lib.hid (hb3.trans (hbx.2.1.mono hb3.size))
  clear hbx hV3
  obtain ⟨⟨d0, d1, d2⟩, -⟩ := box3 ((hb3.block _ (Array.getElem?_eq_some_iff.1 HX1b.out).1).trans HX1b.out)
  have hl2 : w1.heap.size < w3.heap.size := Nat.lt_of_lt_of_le (Array.getElem?_eq_some_iff.1 HX1b.out).1 hb3.size
  clear hT3 hb3 c0 c1 c2 hl1
  go_wp2_with fail
  rw [← HV3.out]
  have HX1c := Lib.hid ((HST3.out.block _ (Array.getElem?_eq_some_iff.1 HX1b.out).1).trans HX1b.out)
  have HT1c := Lib.hid (HT1b.out.below HST3.out)
  refine (HM0.out V3 _ _ _ _ HT1c.out).mono ?_
  rintro e w4 ⟨oa, oc, on, ok, rfl, hT4, hb4⟩
  obtain ⟨V4, hV4⟩ : ∃ V, V = w4.alloc (.cells #[.int .i64 tM.ep, .slice oa tM.arcs.length oc, .slice on tM.nodes.length ok] 26) := ⟨_, rfl⟩
  have hbx := ta_box (hT4) (.cells #[.int .i64 tM.ep, .slice oa tM.arcs.length oc, .slice on tM.nodes.length ok] 26)
  rw [← hV4] at hbx
  have HV4 := Lib.hid hV4
  have HT4 := Lib.hid hbx.1
  have HX4 := Lib.hid hbx.2.2.1
  have HBL4 := Lib.hid (HBL3.out.trans ((hb4.mono HBL3.out.size).trans (hbx.2.1.mono (Nat.le_trans HBL3.out.size hb4.size))))
  have HST4 := Lib.hid (hb4.trans (hbx.2.1.mono hb4.size))
  clear hbx hV4
  obtain ⟨⟨c0, c1, c2⟩, -⟩ := box3 ((hb4.block _ (Array.getElem?_eq_some_iff.1 HX1c.out).1).trans HX1c.out)
  have hl1 : w1.heap.size < w4.heap.size := Nat.lt_of_lt_of_le (Array.getElem?_eq_some_iff.1 HX1c.out).1 hb4.size
  clear hT4 hb4 d0 d1 d2 hl2
  go_wp2_with fail
  rw [← HV4.out]
  have HX1d := Lib.hid ((HST4.out.block _ (Array.getElem?_eq_some_iff.1 HX1c.out).1).trans HX1c.out)
  have HT1d := Lib.hid (HT1c.out.below HST4.out)
  refine (HPU.out V4 _ _ _ _ HT1d.out).mono ?_
  rintro e w5 ⟨pv, rfl, hbuf5, hb5⟩
  obtain ⟨pa, pc, rfl, hp1, hp2, hpat⟩ := hbuf5.bytes
  have HB5 := Lib.hid hb5
  have HBL5 := Lib.hid (HBL4.out.trans (hb5.mono HBL4.out.size))
  have HPA := Lib.hid (And.intro hp1 (And.intro hp2 hpat))
  clear hbuf5 hb5 hp1 hp2 hpat c0 c1 c2 hl1
  go_wp2_with fail
  refine (HGE.out w5 _ _ HPA.out.1 HPA.out.2.1 HPA.out.2.2).mono ?_
  rintro e w6 ⟨ua, uc, un, uk, rfl, hT6, hb6⟩
  obtain ⟨V6, hV6⟩ : ∃ V, V = w6.alloc (.cells #[.int .i64 t0.ep, .slice ua t0.arcs.length uc, .slice un t0.nodes.length uk] 26) := ⟨_, rfl⟩
  have hbx := ta_box (hT6) (.cells #[.int .i64 t0.ep, .slice ua t0.arcs.length uc, .slice un t0.nodes.length uk] 26)
  rw [← hV6] at hbx
  have HV6 := Lib.hid hV6
  have HT6 := Lib.hid hbx.1
  have HX6 := Lib.hid hbx.2.2.1
  have HBL6 := Lib.hid (HBL5.out.trans ((hb6.mono HBL5.out.size).trans (hbx.2.1.mono (Nat.le_trans HBL5.out.size hb6.size))))
  have HST6 := Lib.hid (hb6.trans (hbx.2.1.mono hb6.size))
  clear hbx hV6
  clear hT6 hb6
  go_wp2_with fail
  rw [← HV6.out]
  refine (HGN.out V6 (fun h => by simp at h)).mono ?_
  rintro e w7 ⟨na7, nc7, nn7, nk7, rfl, hT7, hb7⟩
  have HB7 := Lib.hid (HBL6.out.trans (hb7.mono HBL6.out.size))
  have n1 := HST2.out.trans (HST3.out.mono HST2.out.size)
  have n2 := n1.trans (HST4.out.mono n1.size)
  have n3 := n2.trans (HB5.out.mono n2.size)
  have n4 := n3.trans (HST6.out.mono n3.size)
  have n5 := n4.trans (hb7.mono n4.size)
  have m1 := HST3.out.trans (HST4.out.mono HST3.out.size)
  have m2 := m1.trans (HB5.out.mono m1.size)
  have m3 := m2.trans (HST6.out.mono m2.size)
  have m4 := m3.trans (hb7.mono m3.size)
  have q2 := HST4.out.trans (HB5.out.mono HST4.out.size)
  have q3 := q2.trans (HST6.out.mono q2.size)
  have q4 := q3.trans (hb7.mono q3.size)
  have x1 := (n5.block _ (Array.getElem?_eq_some_iff.1 HX1.out).1).trans HX1.out
  have x2 := (m4.block _ (Array.getElem?_eq_some_iff.1 HX2.out).1).trans HX2.out
  have x3 := (q4.block _ (Array.getElem?_eq_some_iff.1 HX3.out).1).trans HX3.out
  have x6 := (hb7.block _ (Array.getElem?_eq_some_iff.1 HX6.out).1).trans HX6.out
  rw [HS1.out, HS2.out] at x2
  have hT2 := HT2.out.nodes.below m4
  rw [HS2.out] at hT2
  have hT1 := HT1.out.below n5
  have hT3 := HT3.out.nodes.below q4
  have hT6 := HT6.out.below hb7
  have HX1e := Lib.hid x1
  obtain ⟨⟨a0, a1, a2⟩, -⟩ := box3 (show w7.heap[w1.heap.size]? = some (.cells #[.int .i64 1, .slice aa 16 ac, .slice na 2 nc] 26 (0, 0)) from x1)
  obtain ⟨⟨b0, b1, b2⟩, -⟩ := box3 (show w7.heap[w2.heap.size]? = some (.cells #[.int .i64 2, .slice sa tS.arcs.length sc, .slice sn 3 sk] 26 (0, 0)) from x2)
  obtain ⟨⟨c0, c1, c2⟩, -⟩ := box3 (show w7.heap[w3.heap.size]? = some (.cells #[.int .i64 2, .slice ma L16.length mc, .slice mn 2 mk] 26 (0, 0)) from x3)
  obtain ⟨⟨d0, d1, d2⟩, -⟩ := box3 (show w7.heap[w6.heap.size]? = some (.cells #[.int .i64 1, .slice ua 16 uc, .slice un 2 uk] 26 (0, 0)) from x6)
  have l1 := (Array.getElem?_eq_some_iff.1 x1).1
  have l2 := (Array.getElem?_eq_some_iff.1 x2).1
  have l3 := (Array.getElem?_eq_some_iff.1 x3).1
  have l6 := (Array.getElem?_eq_some_iff.1 x6).1
  obtain ⟨V7, hV7⟩ : ∃ V, V = w7.alloc (.cells #[.int .i64 tN.ep, .slice na7 tN.arcs.length nc7, .slice nn7 tN.nodes.length nk7] 26) := ⟨_, rfl⟩
  have hal7 : Below w7.heap.size w7 V7 := by rw [hV7]; exact (Below.refl _ _).alloc (Nat.le_refl _) _
  have HSM := Lib.hid (same_any t0 t0 ua aa uc ac un na uk nc V7 (hT6.below hal7) (hT1.below hal7))
  rw [decide_eq_true rfl] at HSM
  have HMY := Lib.hid fun (wx : World) (h : TaAt wx aa ac na nc t0) => may_any t0 aa ac na nc wx h.arcs h.nodes
  rw [decide_eq_true may0] at HMY
  have HAL7 := Lib.hid hal7
  have HT7 := Lib.hid (hT1.below hal7)
  have HV7 := Lib.hid hV7
  obtain ⟨nb1, no1, rfl, e1⟩ := WsAt.get hT1.nodes 1 (by decide)
  obtain ⟨nb2, no2, rfl, e2⟩ := WsAt.get hT2 2 (by decide)
  obtain ⟨nb3, no3, rfl, e3⟩ := WsAt.get hT3 0 (by decide)
  have e1' : w7.cell? ⟨nb1, no1 + 1, none⟩ = some (.int .i64 1) := e1
  have e2' : w7.cell? ⟨nb2, no2 + 2, none⟩ = some (.int .i64 1) := e2
  have e3' : w7.cell? ⟨nb3, no3, none⟩ = some (.int .i64 1) := e3
  have k1 := lt_of_cell e1'
  have k2 := lt_of_cell e2'
  have k3 := lt_of_cell e3'
  clear e1 e2 e3 n1 n2 n3 n4 n5 m1 m2 m3 m4 q2 q3 q4 x1 x2 x3 x6 hT1 hT2 hT3 hT6 hT7 hb7 hV7 hal7
  simp only []
  go_step
  try dsimp only [List.append]
  go_wp2_with fail
  rw [← HV7.out]
  refine HSM.out.mono ?_
  rintro e w8 ⟨rfl, hb8⟩
  have HT8 := Lib.hid (HT7.out.below hb8)
  have HB8 := Lib.hid (HB7.out.trans ((HAL7.out.mono HB7.out.size).trans (hb8.mono (Nat.le_trans HB7.out.size HAL7.out.size))))
  have hlv : w1.heap.size < V7.heap.size := Nat.lt_of_lt_of_le l1 HAL7.out.size
  obtain ⟨⟨g0, g1, g2⟩, -⟩ := box3 (show w8.heap[w1.heap.size]? = some (.cells #[.int .i64 1, .slice aa 16 ac, .slice (some ⟨nb1, no1, none⟩) 2 nc] 26 (0, 0)) from (hb8.block _ hlv).trans ((HAL7.out.block _ l1).trans HX1e.out))
  clear hb8 a0 a1 a2 b0 b1 b2 c0 c1 c2 d0 d1 d2 l1 l2 l3 l6 e1' e2' e3' k1 k2 k3
  go_wp2_with fail
  refine (HMY.out _ HT8.out).mono ?_
  rintro e w9 ⟨rfl, hb9⟩
  have HB9 := Lib.hid (HB8.out.trans (hb9.mono HB8.out.size))
  clear hb9
  go_wp2_with fail
  go_ret
  exact ⟨rfl, HB9.out⟩

end Go.Proofs.YtkcccfllkgjdiaaDoor.Tl
