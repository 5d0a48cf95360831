/-
  channel's settle of all up to a tag, what it answers to Ack, to Qos, and to Consume.
-/
import Derived.Test.YtiobcgolcoocnaaGreatDoorChCons
namespace Go.Proofs.YtiobcgolcoocnaaGreatDoor.Ch
open Go.RowKit Rg Sh Bt
set_option linter.unusedVariables false
set_option linter.unusedSimpArgs false

theorem m12_7 {w : World} {g : Nat} {c0 c1 c2 c3 c4 c5 c6 c7 c8 c9 c10 c11 : Value} (h : M12 w g c0 c1 c2 c3 c4 c5 c6 c7 c8 c9 c10 c11) : w.cell? ⟨g, 7, none⟩ = some c7 := by
  unfold M12 at h
  rw [cell_of_row w _ _ _ _ _ h]; rfl
theorem settle_up (B g k : Nat) (st : Int) (x b q c : Value) (cf tx : Bool) (lim last t : Int) (l : List Int) (v : Value) (w : World) (hu : Cr.Up l) (hyes : ¬ 0 = Cr.toF l t true ∨ t = 0) (hB : B ≤ w.heap.size) (h : ChB w g st x b q c (.pointer (some ⟨k, 0, none⟩)) cf tx) (hcr : Cr.CrO B w k lim last l v) :
    Calls Tryz.prog 39 #[.pointer (some ⟨g, 0, none⟩), .int .u64 t, .bool true] w fun e w' => e = .returned (.tuple #[.slice none 0 0, .int .i64 0]) ∧ (∃ v', Cr.CrO B w' k lim last (l.drop (Cr.toF l t true)) v') ∧ Kept (wrt k v) w w' := by
  have HS := Lib.hid (Cr.settleO_any B k lim last t l v w hu hyes hB hcr)
  obtain ⟨⟨-, -, -, -, -, d5, -⟩, -⟩ := h.cells
  clear h hu hyes hB hcr
  generalize Cr.toF l t true = j at *
  go_enter Tryz.func39, Tryz.ntmps39
  go_wp2_with (go_at_call 55; refine HS.out.mono ?_; rintro e w1 ⟨a1, c1, v1, rfl, -, hcr1, -, hk1⟩; have HCR1 := Lib.hid hcr1; have HK1 := Lib.hid hk1; clear hcr1 hk1)
  go_ret2
  exact ⟨rfl, ⟨v1, HCR1.out⟩, HK1.out⟩
theorem op_ack (B g k : Nat) (x b q c : Value) (cf tx : Bool) (lim last : Int) (tg : Nat) (htg : tg ≤ 65535) (l : List Int) (v : Value) (w : World) (hu : Cr.Up l) (hyes : ¬ 0 = Cr.toF l (tg : Int) true ∨ (tg : Int) = 0) (hB : B ≤ w.heap.size) (h : ChB w g 1 x b q c (.pointer (some ⟨k, 0, none⟩)) cf tx) (hcr : Cr.CrO B w k lim last l v) :
    Calls Tryz.prog 9 #[.pointer (some ⟨g, 0, none⟩), .agg (meC (ackM tg true) none 0)] w fun e w' => e = .returned (.tuple #[.slice none 0 0, .int .i64 0]) ∧ (∃ v', Cr.CrO B w' k lim last (l.drop (Cr.toF l (tg : Int) true)) v') ∧ Kept (wrt k v) w w' := by
  refine (call_ok g (ackM tg true) none 0 x b q c (.pointer (some ⟨k, 0, none⟩)) cf tx w (tb_nil w) (ackM_wf tg true htg) (ackM_may tg true htg) h (by decide : ¬ (6080 : Int) = 2040) (fun w1 v1 w2 => v1 = .slice none 0 0 ∧ (∃ v', Cr.CrO B w2 k lim last (l.drop (Cr.toF l (tg : Int) true)) v') ∧ Kept (wrt k v) w1 w2) fun w1 hb hch ht => ?_).mono ?_
  · refine ask_ack g (ackM tg true) none 0 w1 rfl 0 _ fun w2 hw => ?_
    have hb2 : Below w1.heap.size w1 w2 := by rw [hw]; exact (Below.refl _ _).alloc (Nat.le_refl _) _
    refine (settle_up B g k 1 x b q c cf tx lim last (tg : Int) l v w2 hu hyes (Nat.le_trans hB (Nat.le_trans hb.size hb2.size)) (hch.below hb2) ((hcr.below hb).below hb2)).mono ?_
    rintro e w3 ⟨rfl, a1, a2⟩
    exact ⟨_, rfl, rfl, a1, Kept.lead hb2 a2⟩
  · rintro e w' ⟨w1, v1, hb, ⟨rfl, a1, a2⟩, rfl⟩
    exact ⟨rfl, a1, Kept.lead hb a2⟩

set_option maxRecDepth 100000 in
set_option maxHeartbeats 8000000 in
theorem ask_qos (B g k : Nat) (st : Int) (x b q c : Value) (cf tx : Bool) (lim last : Int) (n : Nat) (hn : n ≤ 65535) (l : List Int) (v : Value) (w : World) (h : ChB w g st x b q c (.pointer (some ⟨k, 0, none⟩)) cf tx) (hcr : Cr.CrO B w k lim last l v) :
    Calls Tryz.prog 20 #[.pointer (some ⟨g, 0, none⟩), .agg (meC (qosM n) none 0)] w fun e w' => ∃ s, e = .returned (.tuple #[.slice (some ⟨s, 0, none⟩) 1 1, .int .i64 0]) ∧ Cr.CrO B w' k n last l v ∧ Kept [k] w w' := by
  have hat0 : M12 (w.alloc (.cells (meC (qosM n) none 0) 31)) w.heap.size (.int .i64 6010) (.string ⟨#[]⟩) (.string ⟨#[]⟩) (.string ⟨#[]⟩) (.string ⟨#[]⟩) (.string ⟨#[]⟩) (.int .i64 0) (.int .i64 n) (.int .u64 0) (.bool false) (.bool false) (.slice none 0 0) := heap_alloc_new w _
  have hb0 : Below w.heap.size w (w.alloc (.cells (meC (qosM n) none 0) 31)) := (Below.refl _ _).alloc (Nat.le_refl _) _
  obtain ⟨mc, hmc⟩ : ∃ mc, mc = meC (qosM n) none 0 := ⟨_, rfl⟩
  rw [← hmc] at hat0 hb0 ⊢
  obtain ⟨W, hW⟩ : ∃ W, W = w.alloc (.cells mc 31) := ⟨_, rfl⟩
  have HWW := Lib.hid hW
  rw [← hW] at hat0 hb0
  have HAT0 := Lib.hid hat0
  have HB0 := Lib.hid hb0
  have HC0 := Lib.hid (h.below hb0)
  have HR0 := Lib.hid (hcr.below hb0)
  have HN := Lib.hid hn
  clear hat0 hb0 h hcr hmc hW hn
  refine load_me HAT0.out fun c0 c1 c2 c3 c4 c5 c6 c7 c8 c9 c10 c11 => ?_
  have q2010 : ((6010 : Int) == 2010) = false := by decide
  have q4010 : ((6010 : Int) == 4010) = false := by decide
  have q5010 : ((6010 : Int) == 5010) = false := by decide
  have q5020 : ((6010 : Int) == 5020) = false := by decide
  go_enter Tryz.func20, Tryz.ntmps20
  go_upto_region 1 with fail
  rw [← HWW.out]
  go_upto_region 11 with fail
  have hdr : Below W.heap.size W W.drew := (Below.refl _ _).drew
  have hr1 := HR0.out.below hdr
  have HLI := Lib.hid (Cr.limitO_any B k lim last n l v W.drew (by have := HN.out; omega) hr1)
  have HR1 := Lib.hid hr1
  have HDR := Lib.hid hdr
  have hS0 : W.drew.cell? ⟨g, 5, none⟩ = some (.pointer (some ⟨k, 0, none⟩)) ∧ W.drew.cell? ⟨w.heap.size, 7, none⟩ = some (.int .i64 n) := ⟨HC0.out.cells.1.2.2.2.2.2.1, c7⟩
  clear hdr hr1
  go_region_held3 (fun wx => wx.cell? ⟨g, 5, none⟩ = some (.pointer (some ⟨k, 0, none⟩)) ∧ wx.cell? ⟨w.heap.size, 7, none⟩ = some (.int .i64 n))
    (first | exact hS0 | exact HS5.out | exact HS6.out)
    (first
      | (go_at_call 35; refine HLI.out.mono ?_; rintro e w5 ⟨rfl, hcr5, -, hk5⟩; have HCR5 := Lib.hid hcr5; have HK5 := Lib.hid hk5; have hw5 : Kept (wrt k v) W.drew w5 := hk5.mono (fun x hx => mem_wrt.2 (.inl (by simpa using hx))); have HC5 := Lib.hid (cr_ch (HC0.out.below HDR.out) HR1.out hw5); have HAT5 := Lib.hid (cr_m12 (box_bl HAT0.out HDR.out) HR1.out hw5); have HS5 : Hid (w5.cell? ⟨g, 5, none⟩ = some (.pointer (some ⟨k, 0, none⟩)) ∧ w5.cell? ⟨w.heap.size, 7, none⟩ = some (.int .i64 n)) := Lib.hid ⟨HC5.out.cells.1.2.2.2.2.2.1, m12_7 HAT5.out⟩; clear hcr5 hk5 hw5; dsimp only)
      | (go_at_call 34; refine (done_ok 6011 w5).mono ?_; rintro e w6 ⟨rfl, -, hb6⟩; have HB6 := Lib.hid hb6; have HS6 : Hid (w6.cell? ⟨g, 5, none⟩ = some (.pointer (some ⟨k, 0, none⟩)) ∧ w6.cell? ⟨w.heap.size, 7, none⟩ = some (.int .i64 n)) := Lib.hid ⟨(HC5.out.below hb6).cells.1.2.2.2.2.2.1, m12_7 (box_bl HAT5.out hb6)⟩; clear hb6; dsimp only)
      | fail)
  rename_i hHeld
  clear hHeld hS0
  go_wp2_with fail
  go_ret2
  exact ⟨_, rfl, HCR5.out.below HB6.out, Kept.tail ((Kept.of_below (bs := [k]) (HB0.out.trans (HDR.out.mono HB0.out.size))).trans HK5.out fun x hx => .inl hx) HB6.out⟩
theorem op_qos (B g k : Nat) (x b q c : Value) (cf tx : Bool) (lim last : Int) (n : Nat) (hn : n ≤ 65535) (l : List Int) (v : Value) (w : World) (h : ChB w g 1 x b q c (.pointer (some ⟨k, 0, none⟩)) cf tx) (hcr : Cr.CrO B w k lim last l v) :
    Calls Tryz.prog 9 #[.pointer (some ⟨g, 0, none⟩), .agg (meC (qosM n) none 0)] w fun e w' => ∃ s, e = .returned (.tuple #[.slice (some ⟨s, 0, none⟩) 1 1, .int .i64 0]) ∧ Cr.CrO B w' k n last l v ∧ Kept [k] w w' := by
  refine (call_ok g (qosM n) none 0 x b q c (.pointer (some ⟨k, 0, none⟩)) cf tx w (tb_nil w) (qosM_wf n hn) (qosM_may n hn) h (by decide : ¬ (6010 : Int) = 2040) (fun w1 v1 w2 => ∃ s, v1 = .slice (some ⟨s, 0, none⟩) 1 1 ∧ Cr.CrO B w2 k n last l v ∧ Kept [k] w1 w2) fun w1 hb hch ht => ?_).mono ?_
  · refine (ask_qos B g k 1 x b q c cf tx lim last n hn l v w1 hch (hcr.below hb)).mono ?_
    rintro e w3 ⟨s, rfl, a1, a2⟩
    exact ⟨_, rfl, s, rfl, a1, a2⟩
  · rintro e w' ⟨w1, v1, hb, ⟨s, rfl, a1, a2⟩, rfl⟩
    exact ⟨s, rfl, a1, Kept.lead hb a2⟩
theorem op_con (B g : Nat) (x b q p : Value) (cf tx : Bool) (l : List (List UInt8)) (s t : List UInt8) (w : World) (hs255 : s.length ≤ 255) (ht255 : t.length ≤ 255) (hs : s ∈ l) (h : ChB w g 1 x b q (.slice none 0 0) p cf tx) (hl : OwnS w B q l) :
    Calls Tryz.prog 9 #[.pointer (some ⟨g, 0, none⟩), .agg (meC (conM s t) none 0)] w fun e w' => ∃ k v', e = .returned (.tuple #[.slice (some ⟨k, 0, none⟩) 1 1, .int .i64 0]) ∧ ChB w' g 1 x b q v' p cf tx ∧ OwnS w' w.heap.size v' [t] ∧ Kept [g] w w' := by
  refine (call_ok g (conM s t) none 0 x b q _ p cf tx w (tb_nil w) (conM_wf s t hs255 ht255) (conM_may s t hs255 ht255) h (by decide : ¬ (6020 : Int) = 2040) (fun w1 v w2 => ∃ k v', v = .slice (some ⟨k, 0, none⟩) 1 1 ∧ ChB w2 g 1 x b q v' p cf tx ∧ OwnS w2 w.heap.size v' [t] ∧ Kept [g] w1 w2) fun w1 hb hch ht => ?_).mono ?_
  · refine ask_consume g (conM s t) none 0 w1 rfl 0 _ fun w2 hw => ?_
    have hb2 : Below w1.heap.size w1 w2 := by rw [hw]; exact (Below.refl _ _).alloc (Nat.le_refl _) _
    obtain ⟨a, cap, rfl, hr, -⟩ := OwnE.at stE hl
    refine (consume_new g 1 x b a l.length cap p cf tx l s t w2 rfl hs (hch.below hb2) ((hr.below hb).below hb2)).mono ?_
    rintro e w3 ⟨k, v', rfl, -, a2, a3, a4⟩
    exact ⟨_, rfl, k, v', rfl, a2, OwnE.mono a3 (Nat.le_trans hb.size hb2.size), Kept.lead hb2 a4⟩
  · rintro e w' ⟨w1, v, hb, ⟨k, v', rfl, a2, a3, a4⟩, rfl⟩
    exact ⟨k, v', rfl, a2, a3, Kept.lead hb a4⟩
theorem op_con_no (B C g : Nat) (x b q c p : Value) (cf tx : Bool) (l lc : List (List UInt8)) (s t : List UInt8) (w : World) (hs255 : s.length ≤ 255) (ht255 : t.length ≤ 255) (hs : s ∈ l) (ht9 : t ∈ lc) (h : ChB w g 1 x b q c p cf tx) (hl : OwnS w B q l) (hc : OwnS w C c lc) :
    Calls Tryz.prog 9 #[.pointer (some ⟨g, 0, none⟩), .agg (meC (conM s t) none 0)] w fun e w' => ∃ k, e = .returned (.tuple #[.slice (some ⟨k, 0, none⟩) 1 1, .int .i64 530]) ∧ ChB w' g 2 (.slice none 0 0) (.slice none 0 0) (.slice none 0 0) (.slice none 0 0) (.pointer none) false false ∧ Kept [g] w w' := by
  refine (call_no g (conM s t) none 0 x b q c p cf tx w (tb_nil w) (conM_wf s t hs255 ht255) (conM_may s t hs255 ht255) h (by decide : ¬ (6020 : Int) = 2040) 530 (by decide) (fun w1 w2 => Below w1.heap.size w1 w2) fun w1 hb hch ht => ?_).mono ?_
  · refine (ask_consume g (conM s t) none 0 w1 rfl 530 (fun v w2 => Below w1.heap.size w1 w2) fun w2 hw => ?_).mono ?_
    · have hb2 : Below w1.heap.size w1 w2 := by rw [hw]; exact (Below.refl _ _).alloc (Nat.le_refl _) _
      obtain ⟨a, cap, rfl, hr, -⟩ := OwnE.at stE hl
      obtain ⟨ca, cc, rfl, hrc, -⟩ := OwnE.at stE hc
      refine (consume_dup g 1 x b a l.length cap ca lc.length cc lc p cf tx l s t w2 rfl hs ht9 rfl (hch.below hb2) ((hr.below hb).below hb2) ((hrc.below hb).below hb2)).mono ?_
      rintro e w3 ⟨rfl, a1⟩
      exact ⟨_, rfl, hb2.trans (a1.mono hb2.size)⟩
    · rintro e w2 ⟨v, rfl, hb2⟩
      exact ⟨v, rfl, hb2, _, _, _, _, _, _, _, _, hch.below hb2⟩
  · rintro e w' ⟨w1, w2, k, hb, hb2, rfl, -, a2, a3⟩
    exact ⟨k, rfl, a2, Kept.lead hb (Kept.lead hb2 a3)⟩

end Go.Proofs.YtiobcgolcoocnaaGreatDoor.Ch
