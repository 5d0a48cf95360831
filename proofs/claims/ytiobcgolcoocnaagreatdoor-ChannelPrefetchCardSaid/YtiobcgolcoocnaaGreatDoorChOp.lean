/-
  What an open channel answers to QDeclare, Publish, and to Select, TxSelect, TxCommit, TxRollback.
-/
import Derived.Test.YtiobcgolcoocnaaGreatDoorChCall
import Derived.Test.YtiobcgolcoocnaaGreatDoorChAsk
import Derived.Test.YtiobcgolcoocnaaGreatDoorChMode
import Derived.Test.YtiobcgolcoocnaaGreatDoorChRoute
namespace Go.Proofs.YtiobcgolcoocnaaGreatDoor.Ch
open Go.RowKit Rg Sh Bt
set_option linter.unusedVariables false
set_option linter.unusedSimpArgs false

theorem tb_nil (w : World) : Tb w none 0 [] := Tb.nil w none (by decide)
theorem Later.lead {w w1 : World} {v v' : Value} (hb : Below w.heap.size w w1) (h : Later w1 v v') : Later w v v' := fun j hj => (h j hj).imp id (fun h => Nat.le_trans hb.size h)
/-- a call that answers one method and leaves all, but for its own blocks, as it was. -/
def AnsB (m : Me) (w : World) (e : Ending) (w' : World) : Prop := ∃ k, e = .returned (.tuple #[.slice (some ⟨k, 0, none⟩) 1 1, .int .i64 0]) ∧ MeAt w' k m none 0 ∧ Below w.heap.size w w'

theorem op_new (B g : Nat) (x b q c p : Value) (cf tx : Bool) (l : List (List UInt8)) (s : List UInt8) (w : World) (hB : B ≤ w.heap.size) (hs : ¬ s ∈ l) (hne : s ≠ []) (h40 : s.length ≤ 40) (h16 : l.length < 16) (h : ChB w g 1 x b q c p cf tx) (hl : OwnS w B q l) :
    Calls Tryz.prog 9 #[.pointer (some ⟨g, 0, none⟩), .agg (meC (decM s) none 0)] w fun e w' => ∃ k v', e = .returned (.tuple #[.slice (some ⟨k, 0, none⟩) 1 1, .int .i64 0]) ∧ MeAt w' k (qok s (l.length + 1)) none 0 ∧ ChB w' g 1 x b v' c p cf tx ∧ OwnS w' B v' (l ++ [s]) ∧ Kept (wrt g q) w w' ∧ Later w q v' := by
  refine (call_ok g (decM s) none 0 x b q c p cf tx w (tb_nil w) (decM_wf s (by omega)) (decM_may s (by omega)) h (by decide : ¬ (5010 : Int) = 2040) (fun w1 v w2 => ∃ k v', v = .slice (some ⟨k, 0, none⟩) 1 1 ∧ MeAt w2 k (qok s (l.length + 1)) none 0 ∧ ChB w2 g 1 x b v' c p cf tx ∧ OwnS w2 B v' (l ++ [s]) ∧ Kept (wrt g q) w1 w2 ∧ Later w1 q v') fun w1 hb hch ht => ?_).mono ?_
  · refine ask_queue g (decM s) none 0 w1 rfl 0 _ fun w2 hw => ?_
    have hb2 : Below w1.heap.size w1 w2 := by rw [hw]; exact (Below.refl _ _).alloc (Nat.le_refl _) _
    refine (queue_new B g 1 x b q c p cf tx l s w2 (Nat.le_trans hB (Nat.le_trans hb.size hb2.size)) hs hne h40 h16 (hch.below hb2) ((hl.below1 hb).below1 hb2)).mono ?_
    rintro e w3 ⟨k, v', rfl, a1, a2, a3, a4, a5⟩
    exact ⟨_, rfl, k, v', rfl, a1, a2, a3, Kept.lead hb2 a4, Later.lead hb2 a5⟩
  · rintro e w' ⟨w1, v, hb, ⟨k, v', rfl, a1, a2, a3, a4, a5⟩, rfl⟩
    exact ⟨k, v', rfl, a1, a2, a3, Kept.lead hb a4, Later.lead hb a5⟩
theorem op_again (B g : Nat) (x b q c p : Value) (cf tx : Bool) (l : List (List UInt8)) (s : List UInt8) (w : World) (hs : s ∈ l) (h40 : s.length ≤ 40) (h : ChB w g 1 x b q c p cf tx) (hl : OwnS w B q l) :
    Calls Tryz.prog 9 #[.pointer (some ⟨g, 0, none⟩), .agg (meC (decM s) none 0)] w (AnsB (qok s l.length) w) := by
  refine (call_ok g (decM s) none 0 x b q c p cf tx w (tb_nil w) (decM_wf s (by omega)) (decM_may s (by omega)) h (by decide : ¬ (5010 : Int) = 2040) (fun w1 v w2 => ∃ k, v = .slice (some ⟨k, 0, none⟩) 1 1 ∧ MeAt w2 k (qok s l.length) none 0 ∧ Below w1.heap.size w1 w2) fun w1 hb hch ht => ?_).mono ?_
  · refine ask_queue g (decM s) none 0 w1 rfl 0 _ fun w2 hw => ?_
    have hb2 : Below w1.heap.size w1 w2 := by rw [hw]; exact (Below.refl _ _).alloc (Nat.le_refl _) _
    obtain ⟨a, cap, rfl, hr, -⟩ := OwnE.at stE hl
    refine (queue_again g 1 x b a l.length cap c p cf tx l s w2 rfl hs (hch.below hb2) ((hr.below hb).below hb2)).mono ?_
    rintro e w3 ⟨k, rfl, a1, a2⟩
    exact ⟨_, rfl, k, rfl, a1, hb2.trans (a2.mono hb2.size)⟩
  · rintro e w' ⟨w1, v, hb, ⟨k, rfl, a1, a2⟩, rfl⟩
    exact ⟨k, rfl, a1, hb.trans (a2.mono hb.size)⟩
theorem op_full (B g : Nat) (x b q c p : Value) (cf tx : Bool) (l : List (List UInt8)) (s : List UInt8) (w : World) (hs : ¬ s ∈ l) (hne : s ≠ []) (h40 : s.length ≤ 40) (h16 : l.length = 16) (h : ChB w g 1 x b q c p cf tx) (hl : OwnS w B q l) :
    Calls Tryz.prog 9 #[.pointer (some ⟨g, 0, none⟩), .agg (meC (decM s) none 0)] w fun e w' => ∃ k, e = .returned (.tuple #[.slice (some ⟨k, 0, none⟩) 1 1, .int .i64 406]) ∧ MeAt w' k (bad 406) none 0 ∧ ChB w' g 2 (.slice none 0 0) (.slice none 0 0) (.slice none 0 0) (.slice none 0 0) (.pointer none) false false ∧ Kept [g] w w' := by
  refine (call_no g (decM s) none 0 x b q c p cf tx w (tb_nil w) (decM_wf s (by omega)) (decM_may s (by omega)) h (by decide : ¬ (5010 : Int) = 2040) 406 (by decide) (fun w1 w2 => Below w1.heap.size w1 w2) fun w1 hb hch ht => ?_).mono ?_
  · refine (ask_queue g (decM s) none 0 w1 rfl 406 (fun v w2 => Below w1.heap.size w1 w2) fun w2 hw => ?_).mono ?_
    · have hb2 : Below w1.heap.size w1 w2 := by rw [hw]; exact (Below.refl _ _).alloc (Nat.le_refl _) _
      obtain ⟨a, cap, rfl, hr, -⟩ := OwnE.at stE hl
      refine (queue_full g 1 x b a l.length cap c p cf tx l s w2 rfl hs hne h40 h16 (hch.below hb2) ((hr.below hb).below hb2)).mono ?_
      rintro e w3 ⟨rfl, rfl⟩
      exact ⟨_, rfl, hb2⟩
    · rintro e w2 ⟨v, rfl, hb2⟩
      exact ⟨v, rfl, hb2, _, _, _, _, _, _, _, _, hch.below hb2⟩
  · rintro e w' ⟨w1, w2, k, hb, hb2, rfl, a1, a2, a3⟩
    exact ⟨k, rfl, a1, a2, Kept.lead hb (Kept.lead hb2 a3)⟩

theorem op_pub_self (g : Nat) (xa : Option Addr) (xn xc : Nat) (ba : Option Addr) (bn bc : Nat) (B : Nat) (q c p : Value) (cf tx : Bool) (l : List (List UInt8)) (s : List UInt8) (f : Bool) (w : World) (hs : s ∈ l) (h255 : s.length ≤ 255) (h : ChB w g 1 (.slice xa xn xc) (.slice ba bn bc) q c p cf tx) (hl : OwnS w B q l) :
    Calls Tryz.prog 9 #[.pointer (some ⟨g, 0, none⟩), .agg (meC (pubM s f) none 0)] w (fun e w' => e = .returned (.tuple #[.slice none 0 0, .int .i64 0]) ∧ Below w.heap.size w w') := by
  refine (call_ok g (pubM s f) none 0 _ _ q c p cf tx w (tb_nil w) (pubM_wf s f h255) (pubM_may s f h255) h (by decide : ¬ (6040 : Int) = 2040) (fun w1 v w2 => v = .slice none 0 0 ∧ Below w1.heap.size w1 w2) fun w1 hb hch ht => ?_).mono ?_
  · refine ask_publish g (pubM s f) none 0 w1 rfl 0 _ fun w2 hw => ?_
    have hb2 : Below w1.heap.size w1 w2 := by rw [hw]; exact (Below.refl _ _).alloc (Nat.le_refl _) _
    obtain ⟨a, cap, rfl, hr, -⟩ := OwnE.at stE hl
    refine (publish_self g 1 xa xn xc ba bn bc a l.length cap c p cf tx l s f w2 rfl hs (hch.below hb2) ((hr.below hb).below hb2)).mono ?_
    rintro e w3 ⟨rfl, a2⟩
    exact ⟨_, rfl, rfl, hb2.trans (a2.mono hb2.size)⟩
  · rintro e w' ⟨w1, v, hb, ⟨rfl, a2⟩, rfl⟩
    exact ⟨rfl, hb.trans (a2.mono hb.size)⟩
theorem op_pub_lost (g : Nat) (xa : Option Addr) (xn xc : Nat) (ba : Option Addr) (bn bc : Nat) (B : Nat) (q c p : Value) (cf tx : Bool) (l : List (List UInt8)) (s : List UInt8) (w : World) (hs : ¬ s ∈ l) (h255 : s.length ≤ 255) (h : ChB w g 1 (.slice xa xn xc) (.slice ba bn bc) q c p cf tx) (hl : OwnS w B q l) :
    Calls Tryz.prog 9 #[.pointer (some ⟨g, 0, none⟩), .agg (meC (pubM s false) none 0)] w (fun e w' => e = .returned (.tuple #[.slice none 0 0, .int .i64 0]) ∧ Below w.heap.size w w') := by
  refine (call_ok g (pubM s false) none 0 _ _ q c p cf tx w (tb_nil w) (pubM_wf s false h255) (pubM_may s false h255) h (by decide : ¬ (6040 : Int) = 2040) (fun w1 v w2 => v = .slice none 0 0 ∧ Below w1.heap.size w1 w2) fun w1 hb hch ht => ?_).mono ?_
  · refine ask_publish g (pubM s false) none 0 w1 rfl 0 _ fun w2 hw => ?_
    have hb2 : Below w1.heap.size w1 w2 := by rw [hw]; exact (Below.refl _ _).alloc (Nat.le_refl _) _
    obtain ⟨a, cap, rfl, hr, -⟩ := OwnE.at stE hl
    refine (publish_lost g 1 xa xn xc ba bn bc a l.length cap c p cf tx l s w2 rfl hs (hch.below hb2) ((hr.below hb).below hb2)).mono ?_
    rintro e w3 ⟨rfl, a2⟩
    exact ⟨_, rfl, rfl, hb2.trans (a2.mono hb2.size)⟩
  · rintro e w' ⟨w1, v, hb, ⟨rfl, a2⟩, rfl⟩
    exact ⟨rfl, hb.trans (a2.mono hb.size)⟩
theorem op_pub_back (g : Nat) (xa : Option Addr) (xn xc : Nat) (ba : Option Addr) (bn bc : Nat) (B : Nat) (q c p : Value) (cf tx : Bool) (l : List (List UInt8)) (s : List UInt8) (w : World) (hs : ¬ s ∈ l) (h255 : s.length ≤ 255) (h : ChB w g 1 (.slice xa xn xc) (.slice ba bn bc) q c p cf tx) (hl : OwnS w B q l) :
    Calls Tryz.prog 9 #[.pointer (some ⟨g, 0, none⟩), .agg (meC (pubM s true) none 0)] w (AnsB (backM s) w) := by
  refine (call_ok g (pubM s true) none 0 _ _ q c p cf tx w (tb_nil w) (pubM_wf s true h255) (pubM_may s true h255) h (by decide : ¬ (6040 : Int) = 2040) (fun w1 v w2 => ∃ k, v = .slice (some ⟨k, 0, none⟩) 1 1 ∧ MeAt w2 k (backM s) none 0 ∧ Below w1.heap.size w1 w2) fun w1 hb hch ht => ?_).mono ?_
  · refine ask_publish g (pubM s true) none 0 w1 rfl 0 _ fun w2 hw => ?_
    have hb2 : Below w1.heap.size w1 w2 := by rw [hw]; exact (Below.refl _ _).alloc (Nat.le_refl _) _
    obtain ⟨a, cap, rfl, hr, -⟩ := OwnE.at stE hl
    refine (publish_back g 1 xa xn xc ba bn bc a l.length cap c p cf tx l s w2 rfl hs (hch.below hb2) ((hr.below hb).below hb2)).mono ?_
    rintro e w3 ⟨k, rfl, a1, a2⟩
    exact ⟨_, rfl, k, rfl, a1, hb2.trans (a2.mono hb2.size)⟩
  · rintro e w' ⟨w1, v, hb, ⟨k, rfl, a1, a2⟩, rfl⟩
    exact ⟨k, rfl, a1, hb.trans (a2.mono hb.size)⟩
theorem op_sel (g : Nat) (x b q c p : Value) (cf : Bool) (w : World) (h : ChB w g 1 x b q c p cf false) :
    Calls Tryz.prog 9 #[.pointer (some ⟨g, 0, none⟩), .agg (meC (Me.of 8510) none 0)] w fun e w' => ∃ k, e = .returned (.tuple #[.slice (some ⟨k, 0, none⟩) 1 1, .int .i64 0]) ∧ MeAt w' k (Me.of 8511) none 0 ∧ ChB w' g 1 x b q c p true false ∧ Kept [g] w w' := by
  refine (call_ok g (Me.of 8510) none 0 x b q c p cf false w (tb_nil w) (of_wf 8510 (by decide)) (of_may rfl) h (by decide) (fun w1 v w2 => ∃ k, v = .slice (some ⟨k, 0, none⟩) 1 1 ∧ MeAt w2 k (Me.of 8511) none 0 ∧ ChB w2 g 1 x b q c p true false ∧ Kept [g] w1 w2) fun w1 hb hch ht => ?_).mono ?_
  · refine ask_mode g (Me.of 8510) none 0 w1 (.inl rfl) 0 _ fun w2 hw => ?_
    have hb2 : Below w1.heap.size w1 w2 := by rw [hw]; exact (Below.refl _ _).alloc (Nat.le_refl _) _
    refine (sel_ok g 1 x b q c p cf w2 (hch.below hb2)).mono ?_
    rintro e w3 ⟨k, rfl, a1, a2, a3⟩
    exact ⟨_, rfl, k, rfl, a1, a2, Kept.lead hb2 a3⟩
  · rintro e w' ⟨w1, v, hb, ⟨k, rfl, a1, a2, a3⟩, rfl⟩
    exact ⟨k, rfl, a1, a2, Kept.lead hb a3⟩
theorem op_sel_no (g : Nat) (x b q c p : Value) (cf : Bool) (w : World) (h : ChB w g 1 x b q c p cf true) :
    Calls Tryz.prog 9 #[.pointer (some ⟨g, 0, none⟩), .agg (meC (Me.of 8510) none 0)] w fun e w' => ∃ k, e = .returned (.tuple #[.slice (some ⟨k, 0, none⟩) 1 1, .int .i64 406]) ∧ MeAt w' k (bad 406) none 0 ∧ ChB w' g 2 (.slice none 0 0) (.slice none 0 0) (.slice none 0 0) (.slice none 0 0) (.pointer none) false false ∧ Kept [g] w w' := by
  refine (call_no g (Me.of 8510) none 0 x b q c p cf true w (tb_nil w) (of_wf 8510 (by decide)) (of_may rfl) h (by decide) 406 (by decide) (fun w1 w2 => Below w1.heap.size w1 w2) fun w1 hb hch ht => ?_).mono ?_
  · refine (ask_mode g (Me.of 8510) none 0 w1 (.inl rfl) 406 (fun v w2 => Below w1.heap.size w1 w2) fun w2 hw => ?_).mono ?_
    · have hb2 : Below w1.heap.size w1 w2 := by rw [hw]; exact (Below.refl _ _).alloc (Nat.le_refl _) _
      refine (sel_no g 1 x b q c p cf w2 (hch.below hb2)).mono ?_
      rintro e w3 ⟨rfl, rfl⟩
      exact ⟨_, rfl, hb2⟩
    · rintro e w2 ⟨v, rfl, hb2⟩
      exact ⟨v, rfl, hb2, _, _, _, _, _, _, _, _, hch.below hb2⟩
  · rintro e w' ⟨w1, w2, k, hb, hb2, rfl, a1, a2, a3⟩
    exact ⟨k, rfl, a1, a2, Kept.lead hb (Kept.lead hb2 a3)⟩
theorem op_txs (g : Nat) (x b q c p : Value) (tx : Bool) (w : World) (h : ChB w g 1 x b q c p false tx) :
    Calls Tryz.prog 9 #[.pointer (some ⟨g, 0, none⟩), .agg (meC (Me.of 9010) none 0)] w fun e w' => ∃ k, e = .returned (.tuple #[.slice (some ⟨k, 0, none⟩) 1 1, .int .i64 0]) ∧ MeAt w' k (Me.of 9011) none 0 ∧ ChB w' g 1 x b q c p false true ∧ Kept [g] w w' := by
  refine (call_ok g (Me.of 9010) none 0 x b q c p false tx w (tb_nil w) (of_wf 9010 (by decide)) (of_may rfl) h (by decide) (fun w1 v w2 => ∃ k, v = .slice (some ⟨k, 0, none⟩) 1 1 ∧ MeAt w2 k (Me.of 9011) none 0 ∧ ChB w2 g 1 x b q c p false true ∧ Kept [g] w1 w2) fun w1 hb hch ht => ?_).mono ?_
  · refine ask_mode g (Me.of 9010) none 0 w1 (.inr (.inl rfl)) 0 _ fun w2 hw => ?_
    have hb2 : Below w1.heap.size w1 w2 := by rw [hw]; exact (Below.refl _ _).alloc (Nat.le_refl _) _
    refine (txs_ok g 1 x b q c p tx w2 (hch.below hb2)).mono ?_
    rintro e w3 ⟨k, rfl, a1, a2, a3⟩
    exact ⟨_, rfl, k, rfl, a1, a2, Kept.lead hb2 a3⟩
  · rintro e w' ⟨w1, v, hb, ⟨k, rfl, a1, a2, a3⟩, rfl⟩
    exact ⟨k, rfl, a1, a2, Kept.lead hb a3⟩
theorem op_txs_no (g : Nat) (x b q c p : Value) (tx : Bool) (w : World) (h : ChB w g 1 x b q c p true tx) :
    Calls Tryz.prog 9 #[.pointer (some ⟨g, 0, none⟩), .agg (meC (Me.of 9010) none 0)] w fun e w' => ∃ k, e = .returned (.tuple #[.slice (some ⟨k, 0, none⟩) 1 1, .int .i64 406]) ∧ MeAt w' k (bad 406) none 0 ∧ ChB w' g 2 (.slice none 0 0) (.slice none 0 0) (.slice none 0 0) (.slice none 0 0) (.pointer none) false false ∧ Kept [g] w w' := by
  refine (call_no g (Me.of 9010) none 0 x b q c p true tx w (tb_nil w) (of_wf 9010 (by decide)) (of_may rfl) h (by decide) 406 (by decide) (fun w1 w2 => Below w1.heap.size w1 w2) fun w1 hb hch ht => ?_).mono ?_
  · refine (ask_mode g (Me.of 9010) none 0 w1 (.inr (.inl rfl)) 406 (fun v w2 => Below w1.heap.size w1 w2) fun w2 hw => ?_).mono ?_
    · have hb2 : Below w1.heap.size w1 w2 := by rw [hw]; exact (Below.refl _ _).alloc (Nat.le_refl _) _
      refine (txs_no g 1 x b q c p tx w2 (hch.below hb2)).mono ?_
      rintro e w3 ⟨rfl, rfl⟩
      exact ⟨_, rfl, hb2⟩
    · rintro e w2 ⟨v, rfl, hb2⟩
      exact ⟨v, rfl, hb2, _, _, _, _, _, _, _, _, hch.below hb2⟩
  · rintro e w' ⟨w1, w2, k, hb, hb2, rfl, a1, a2, a3⟩
    exact ⟨k, rfl, a1, a2, Kept.lead hb (Kept.lead hb2 a3)⟩
theorem op_com (g : Nat) (x b q c p : Value) (cf : Bool) (w : World) (h : ChB w g 1 x b q c p cf true) :
    Calls Tryz.prog 9 #[.pointer (some ⟨g, 0, none⟩), .agg (meC (Me.of 9020) none 0)] w fun e w' => ∃ k, e = .returned (.tuple #[.slice (some ⟨k, 0, none⟩) 1 1, .int .i64 0]) ∧ MeAt w' k (Me.of 9021) none 0 ∧ ChB w' g 1 x b q c p cf true ∧ Kept [g] w w' := by
  refine (call_ok g (Me.of 9020) none 0 x b q c p cf true w (tb_nil w) (of_wf 9020 (by decide)) (of_may rfl) h (by decide) (fun w1 v w2 => ∃ k, v = .slice (some ⟨k, 0, none⟩) 1 1 ∧ MeAt w2 k (Me.of 9021) none 0 ∧ ChB w2 g 1 x b q c p cf true ∧ Kept [g] w1 w2) fun w1 hb hch ht => ?_).mono ?_
  · refine ask_mode g (Me.of 9020) none 0 w1 (.inr (.inr (.inl rfl))) 0 _ fun w2 hw => ?_
    have hb2 : Below w1.heap.size w1 w2 := by rw [hw]; exact (Below.refl _ _).alloc (Nat.le_refl _) _
    refine (com_ok g 1 x b q c p cf w2 (hch.below hb2)).mono ?_
    rintro e w3 ⟨k, rfl, a1, a2, a3⟩
    exact ⟨_, rfl, k, rfl, a1, a2, Kept.lead hb2 a3⟩
  · rintro e w' ⟨w1, v, hb, ⟨k, rfl, a1, a2, a3⟩, rfl⟩
    exact ⟨k, rfl, a1, a2, Kept.lead hb a3⟩
theorem op_com_no (g : Nat) (x b q c p : Value) (cf : Bool) (w : World) (h : ChB w g 1 x b q c p cf false) :
    Calls Tryz.prog 9 #[.pointer (some ⟨g, 0, none⟩), .agg (meC (Me.of 9020) none 0)] w fun e w' => ∃ k, e = .returned (.tuple #[.slice (some ⟨k, 0, none⟩) 1 1, .int .i64 406]) ∧ MeAt w' k (bad 406) none 0 ∧ ChB w' g 2 (.slice none 0 0) (.slice none 0 0) (.slice none 0 0) (.slice none 0 0) (.pointer none) false false ∧ Kept [g] w w' := by
  refine (call_no g (Me.of 9020) none 0 x b q c p cf false w (tb_nil w) (of_wf 9020 (by decide)) (of_may rfl) h (by decide) 406 (by decide) (fun w1 w2 => Below w1.heap.size w1 w2) fun w1 hb hch ht => ?_).mono ?_
  · refine (ask_mode g (Me.of 9020) none 0 w1 (.inr (.inr (.inl rfl))) 406 (fun v w2 => Below w1.heap.size w1 w2) fun w2 hw => ?_).mono ?_
    · have hb2 : Below w1.heap.size w1 w2 := by rw [hw]; exact (Below.refl _ _).alloc (Nat.le_refl _) _
      refine (com_no g 1 x b q c p cf w2 (hch.below hb2)).mono ?_
      rintro e w3 ⟨rfl, rfl⟩
      exact ⟨_, rfl, hb2⟩
    · rintro e w2 ⟨v, rfl, hb2⟩
      exact ⟨v, rfl, hb2, _, _, _, _, _, _, _, _, hch.below hb2⟩
  · rintro e w' ⟨w1, w2, k, hb, hb2, rfl, a1, a2, a3⟩
    exact ⟨k, rfl, a1, a2, Kept.lead hb (Kept.lead hb2 a3)⟩
theorem op_rol (g : Nat) (x b q c p : Value) (cf : Bool) (w : World) (h : ChB w g 1 x b q c p cf true) :
    Calls Tryz.prog 9 #[.pointer (some ⟨g, 0, none⟩), .agg (meC (Me.of 9030) none 0)] w fun e w' => ∃ k, e = .returned (.tuple #[.slice (some ⟨k, 0, none⟩) 1 1, .int .i64 0]) ∧ MeAt w' k (Me.of 9031) none 0 ∧ ChB w' g 1 x b q c p cf true ∧ Kept [g] w w' := by
  refine (call_ok g (Me.of 9030) none 0 x b q c p cf true w (tb_nil w) (of_wf 9030 (by decide)) (of_may rfl) h (by decide) (fun w1 v w2 => ∃ k, v = .slice (some ⟨k, 0, none⟩) 1 1 ∧ MeAt w2 k (Me.of 9031) none 0 ∧ ChB w2 g 1 x b q c p cf true ∧ Kept [g] w1 w2) fun w1 hb hch ht => ?_).mono ?_
  · refine ask_mode g (Me.of 9030) none 0 w1 (.inr (.inr (.inr rfl))) 0 _ fun w2 hw => ?_
    have hb2 : Below w1.heap.size w1 w2 := by rw [hw]; exact (Below.refl _ _).alloc (Nat.le_refl _) _
    refine (rol_ok g 1 x b q c p cf w2 (hch.below hb2)).mono ?_
    rintro e w3 ⟨k, rfl, a1, a2, a3⟩
    exact ⟨_, rfl, k, rfl, a1, a2, Kept.lead hb2 a3⟩
  · rintro e w' ⟨w1, v, hb, ⟨k, rfl, a1, a2, a3⟩, rfl⟩
    exact ⟨k, rfl, a1, a2, Kept.lead hb a3⟩
theorem op_rol_no (g : Nat) (x b q c p : Value) (cf : Bool) (w : World) (h : ChB w g 1 x b q c p cf false) :
    Calls Tryz.prog 9 #[.pointer (some ⟨g, 0, none⟩), .agg (meC (Me.of 9030) none 0)] w fun e w' => ∃ k, e = .returned (.tuple #[.slice (some ⟨k, 0, none⟩) 1 1, .int .i64 406]) ∧ MeAt w' k (bad 406) none 0 ∧ ChB w' g 2 (.slice none 0 0) (.slice none 0 0) (.slice none 0 0) (.slice none 0 0) (.pointer none) false false ∧ Kept [g] w w' := by
  refine (call_no g (Me.of 9030) none 0 x b q c p cf false w (tb_nil w) (of_wf 9030 (by decide)) (of_may rfl) h (by decide) 406 (by decide) (fun w1 w2 => Below w1.heap.size w1 w2) fun w1 hb hch ht => ?_).mono ?_
  · refine (ask_mode g (Me.of 9030) none 0 w1 (.inr (.inr (.inr rfl))) 406 (fun v w2 => Below w1.heap.size w1 w2) fun w2 hw => ?_).mono ?_
    · have hb2 : Below w1.heap.size w1 w2 := by rw [hw]; exact (Below.refl _ _).alloc (Nat.le_refl _) _
      refine (rol_no g 1 x b q c p cf w2 (hch.below hb2)).mono ?_
      rintro e w3 ⟨rfl, rfl⟩
      exact ⟨_, rfl, hb2⟩
    · rintro e w2 ⟨v, rfl, hb2⟩
      exact ⟨v, rfl, hb2, _, _, _, _, _, _, _, _, hch.below hb2⟩
  · rintro e w' ⟨w1, w2, k, hb, hb2, rfl, a1, a2, a3⟩
    exact ⟨k, rfl, a1, a2, Kept.lead hb (Kept.lead hb2 a3)⟩

end Go.Proofs.YtiobcgolcoocnaaGreatDoor.Ch
