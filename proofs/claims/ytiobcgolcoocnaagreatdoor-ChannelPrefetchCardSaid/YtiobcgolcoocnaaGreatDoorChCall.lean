/-
  channel's Call, walked: not open, shut, closed, and what ask says.
-/
import Derived.Test.YtiobcgolcoocnaaGreatDoorChMem
import Derived.Test.YtiobcgolcoocnaaGreatDoorUnroll
import Derived.Test.YtiobcgolcoocnaaGreatDoorCrBase
import Derived.Test.YtiobcgolcoocnaaGreatDoorMMayM
namespace Go.Proofs.YtiobcgolcoocnaaGreatDoor.Ch
open Go.RowKit Rg Sh Bt
set_option linter.unusedVariables false
set_option linter.unusedSimpArgs false

theorem call_nil (m : Me) (a : Option Addr) (cap : Nat) (w : World) :
    Calls Tryz.prog 9 #[.pointer none, .agg (meC m a cap)] w fun e w' => e = .returned (.tuple #[.slice none 0 0, .int .i64 7]) ∧ Below w.heap.size w w' := by
  have HB0 := Lib.hid ((Below.refl w.heap.size w).alloc (Nat.le_refl _) (.cells (meC m a cap) 31))
  generalize meC m a cap = mc at *
  go_enter Tryz.func9, Tryz.ntmps9
  go_wp2_with fail
  refine wp_scope_unroll 3 ?_
  go_wp2_with fail
  refine unroll_ret ?_
  go_ret2
  exact ⟨rfl, HB0.out⟩

/-- what is answered where something was wrong. -/
def bad (c : Int) : Me := { Me.of 2040 with code := c }

set_option maxRecDepth 100000 in
set_option maxHeartbeats 4000000 in
theorem call_pass (g : Nat) (m : Me) (a : Option Addr) (cap : Nat) (x b q c p : Value) (cf tx : Bool) (w : World) (ht : Tb w a cap m.args) (wf : m.Wf) (hmay : MayM m) (h : ChB w g 2 x b q c p cf tx) (h1 : ¬ m.id = 2040) (h2 : ¬ m.id = 2041) :
    Calls Tryz.prog 9 #[.pointer (some ⟨g, 0, none⟩), .agg (meC m a cap)] w fun e w' => e = .returned (.tuple #[.slice none 0 0, .int .i64 0]) ∧ Below w.heap.size w w' := by
  have q1 : (m.id == 2040) = false := by rw [beq_eq_false_iff_ne]; exact h1
  have q2 : (m.id == 2041) = false := by rw [beq_eq_false_iff_ne]; exact h2
  have hat0 : MeAt (w.alloc (.cells (meC m a cap) 31)) w.heap.size m a cap := heap_alloc_new w _
  have hb0 : Below w.heap.size w (w.alloc (.cells (meC m a cap) 31)) := (Below.refl _ _).alloc (Nat.le_refl _) _
  have hws : (w.alloc (.cells (meC m a cap) 31)).heap.size = w.heap.size + 1 := by simp
  obtain ⟨⟨c0, c1, c2, c3, c4, c5⟩, c6, c7, c8, c9, c10, c11⟩ := hat0.cells
  have HGL := Lib.hid h.lt
  have HCH := Lib.hid (h.below hb0)
  have HB0 := Lib.hid hb0
  have HAT := Lib.hid hat0
  have HWF := Lib.hid wf
  have HMAY := Lib.hid hmay
  have HTW := Lib.hid (ht.below hb0)
  obtain ⟨mc, hmc⟩ : ∃ c, c = meC m a cap := ⟨_, rfl⟩
  have HMC := Lib.hid hmc
  rw [← hmc] at c0 c1 c2 c3 c4 c5 c6 c7 c8 c9 c10 c11 hws HAT HTW HB0 HCH ⊢
  clear hat0 ht wf hmay hb0 hmc h
  go_enter Tryz.func9, Tryz.ntmps9
  go_wp2_with fail
  refine wp_scope_unroll 3 ?_
  go_wp2_with fail
  refine (mayM_any (a := a) (cap := cap) HTW.out HWF.out).mono ?_
  rintro e w1 ⟨r, hr, rfl, hb1⟩
  obtain rfl : r = true := hr.2 HMAY.out
  have hat1 := HAT.out.keep (hb1.block _ HAT.out.lt)
  have hch1 := HCH.out.below hb1
  have HB1 := Lib.hid (HB0.out.trans (hb1.mono (by omega)))
  have HZ1 := Lib.hid (show w.heap.size < w1.heap.size from Nat.lt_of_lt_of_le (by omega) hb1.size)
  have HAT1 := Lib.hid hat1
  have HCH1 := Lib.hid hch1
  have HT1 := Lib.hid (HTW.out.below hb1)
  clear hr hb1 c0 c1 c2 c3 c4 c5 c6 c7 c8 c9 c10 c11
  obtain ⟨⟨c0, c1, c2, c3, c4, c5⟩, c6, c7, c8, c9, c10, c11⟩ := hat1.cells
  obtain ⟨⟨d0, d1, d2, d3, d4, d5, d6, d7⟩, e0, e1, e2, e3, e4, e5, e6, e7⟩ := hch1.cells
  clear hat1 hch1
  go_wp2_with fail
  go_step3
  refine unroll_goto _ rfl ?_
  go_wp2_with fail
  refine unroll_ret ?_
  go_ret2
  exact ⟨rfl, HB1.out⟩

set_option maxRecDepth 100000 in
set_option maxHeartbeats 4000000 in
theorem call_known (g : Nat) (m : Me) (a : Option Addr) (cap : Nat) (x b q c p : Value) (cf tx : Bool) (w : World) (ht : Tb w a cap m.args) (wf : m.Wf) (hmay : MayM m) (h : ChB w g 2 x b q c p cf tx) (h1 : m.id = 2041) :
    Calls Tryz.prog 9 #[.pointer (some ⟨g, 0, none⟩), .agg (meC m a cap)] w fun e w' => e = .returned (.tuple #[.slice none 0 0, .int .i64 0]) ∧ ChB w' g 0 x b q c p cf tx ∧ Kept [g] w w' := by
  have H1 := Lib.hid h1
  clear h1
  have q1 : (m.id == 2040) = false := by rw [beq_eq_false_iff_ne, H1.out]; decide
  have q2 : (m.id == 2041) = true := by rw [beq_iff_eq]; exact H1.out
  have hat0 : MeAt (w.alloc (.cells (meC m a cap) 31)) w.heap.size m a cap := heap_alloc_new w _
  have hb0 : Below w.heap.size w (w.alloc (.cells (meC m a cap) 31)) := (Below.refl _ _).alloc (Nat.le_refl _) _
  have hws : (w.alloc (.cells (meC m a cap) 31)).heap.size = w.heap.size + 1 := by simp
  obtain ⟨⟨c0, c1, c2, c3, c4, c5⟩, c6, c7, c8, c9, c10, c11⟩ := hat0.cells
  have HGL := Lib.hid h.lt
  have HCH := Lib.hid (h.below hb0)
  have HB0 := Lib.hid hb0
  have HAT := Lib.hid hat0
  have HWF := Lib.hid wf
  have HMAY := Lib.hid hmay
  have HTW := Lib.hid (ht.below hb0)
  obtain ⟨mc, hmc⟩ : ∃ c, c = meC m a cap := ⟨_, rfl⟩
  have HMC := Lib.hid hmc
  rw [← hmc] at c0 c1 c2 c3 c4 c5 c6 c7 c8 c9 c10 c11 hws HAT HTW HB0 HCH ⊢
  clear hat0 ht wf hmay hb0 hmc h
  go_enter Tryz.func9, Tryz.ntmps9
  go_wp2_with fail
  refine wp_scope_unroll 3 ?_
  go_wp2_with fail
  refine (mayM_any (a := a) (cap := cap) HTW.out HWF.out).mono ?_
  rintro e w1 ⟨r, hr, rfl, hb1⟩
  obtain rfl : r = true := hr.2 HMAY.out
  have hat1 := HAT.out.keep (hb1.block _ HAT.out.lt)
  have hch1 := HCH.out.below hb1
  have HB1 := Lib.hid (HB0.out.trans (hb1.mono (by omega)))
  have HZ1 := Lib.hid (show w.heap.size < w1.heap.size from Nat.lt_of_lt_of_le (by omega) hb1.size)
  have HAT1 := Lib.hid hat1
  have HCH1 := Lib.hid hch1
  have HT1 := Lib.hid (HTW.out.below hb1)
  clear hr hb1 c0 c1 c2 c3 c4 c5 c6 c7 c8 c9 c10 c11
  obtain ⟨⟨c0, c1, c2, c3, c4, c5⟩, c6, c7, c8, c9, c10, c11⟩ := hat1.cells
  obtain ⟨⟨d0, d1, d2, d3, d4, d5, d6, d7⟩, e0, e1, e2, e3, e4, e5, e6, e7⟩ := hch1.cells
  clear hat1 hch1
  go_wp2_with fail
  go_step3
  refine unroll_goto _ rfl ?_
  go_wp2_with fail
  refine unroll_ret ?_
  go_ret2
  exact ⟨rfl, HCH1.out.set0 0, Kept.lead HB1.out ((Kept.refl [g] w1).set (by simp) 0 _)⟩

set_option maxRecDepth 100000 in
set_option maxHeartbeats 4000000 in
theorem call_wrong (g : Nat) (m : Me) (a : Option Addr) (cap : Nat) (x b q c p : Value) (cf tx : Bool) (w : World) (ht : Tb w a cap m.args) (wf : m.Wf) (hmay : MayM m) (h : ChB w g 0 x b q c p cf tx) (h1 : ¬ m.id = 2010) :
    Calls Tryz.prog 9 #[.pointer (some ⟨g, 0, none⟩), .agg (meC m a cap)] w fun e w' => ∃ s, e = .returned (.tuple #[.slice (some ⟨s, 0, none⟩) 1 1, .int .i64 504]) ∧ MeAt w' s (bad 504) none 0 ∧ ChB w' g 2 (.slice none 0 0) (.slice none 0 0) (.slice none 0 0) (.slice none 0 0) (.pointer none) false false ∧ Kept [g] w w' := by
  have q1 : (m.id != 2010) = true := by rw [bne_iff_ne]; exact h1
  have hat0 : MeAt (w.alloc (.cells (meC m a cap) 31)) w.heap.size m a cap := heap_alloc_new w _
  have hb0 : Below w.heap.size w (w.alloc (.cells (meC m a cap) 31)) := (Below.refl _ _).alloc (Nat.le_refl _) _
  have hws : (w.alloc (.cells (meC m a cap) 31)).heap.size = w.heap.size + 1 := by simp
  obtain ⟨⟨c0, c1, c2, c3, c4, c5⟩, c6, c7, c8, c9, c10, c11⟩ := hat0.cells
  have HGL := Lib.hid h.lt
  have HCH := Lib.hid (h.below hb0)
  have HB0 := Lib.hid hb0
  have HAT := Lib.hid hat0
  have HWF := Lib.hid wf
  have HMAY := Lib.hid hmay
  have HTW := Lib.hid (ht.below hb0)
  obtain ⟨mc, hmc⟩ : ∃ c, c = meC m a cap := ⟨_, rfl⟩
  have HMC := Lib.hid hmc
  rw [← hmc] at c0 c1 c2 c3 c4 c5 c6 c7 c8 c9 c10 c11 hws HAT HTW HB0 HCH ⊢
  clear hat0 ht wf hmay hb0 hmc h
  go_enter Tryz.func9, Tryz.ntmps9
  go_wp2_with fail
  refine wp_scope_unroll 3 ?_
  go_wp2_with fail
  refine (mayM_any (a := a) (cap := cap) HTW.out HWF.out).mono ?_
  rintro e w1 ⟨r, hr, rfl, hb1⟩
  obtain rfl : r = true := hr.2 HMAY.out
  have hat1 := HAT.out.keep (hb1.block _ HAT.out.lt)
  have hch1 := HCH.out.below hb1
  have HB1 := Lib.hid (HB0.out.trans (hb1.mono (by omega)))
  have HZ1 := Lib.hid (show w.heap.size < w1.heap.size from Nat.lt_of_lt_of_le (by omega) hb1.size)
  have HAT1 := Lib.hid hat1
  have HCH1 := Lib.hid hch1
  have HT1 := Lib.hid (HTW.out.below hb1)
  clear hr hb1 c0 c1 c2 c3 c4 c5 c6 c7 c8 c9 c10 c11
  obtain ⟨⟨c0, c1, c2, c3, c4, c5⟩, c6, c7, c8, c9, c10, c11⟩ := hat1.cells
  obtain ⟨⟨d0, d1, d2, d3, d4, d5, d6, d7⟩, e0, e1, e2, e3, e4, e5, e6, e7⟩ := hch1.cells
  clear hat1 hch1
  go_wp2_with fail
  go_step3
  refine unroll_goto _ rfl ?_
  go_wp2_with fail
  refine unroll_ret ?_
  have hset := set8_box HCH1.out 2 (.slice none 0 0) (.slice none 0 0) (.slice none 0 0) (.slice none 0 0) (.pointer none) false false
  have hkep := set8_kept w1 g (.int .i64 2) (.slice none 0 0) (.slice none 0 0) (.slice none 0 0) (.slice none 0 0) (.pointer none) (.bool false) (.bool false)
  have hsiz := set8_size w1 g (.int .i64 2) (.slice none 0 0) (.slice none 0 0) (.slice none 0 0) (.slice none 0 0) (.pointer none) (.bool false) (.bool false)
  unfold set8 at hset hkep hsiz
  generalize ((((((((w1.setCell ⟨g, 0, none⟩ (.int .i64 2)).setCell ⟨g, 1, none⟩ (.slice none 0 0)).setCell ⟨g, 2, none⟩ (.slice none 0 0)).setCell ⟨g, 3, none⟩ (.slice none 0 0)).setCell ⟨g, 4, none⟩ (.slice none 0 0)).setCell ⟨g, 5, none⟩ (.pointer none)).setCell ⟨g, 6, none⟩ (.bool false)).setCell ⟨g, 7, none⟩ (.bool false)) = W at *
  have HSET := Lib.hid hset
  have HKEP := Lib.hid hkep
  have HSIZ := Lib.hid hsiz
  clear hset hkep hsiz
  go_ret2
  refine ⟨_, rfl, ?_, HSET.out.below ((Below.refl _ _).alloc (Nat.le_refl _) _), (Kept.lead HB1.out HKEP.out).alloc _⟩
  have h9 := heap_alloc_new W (.cells (meC (bad 504) none 0) 31)
  rw [HSIZ.out] at h9
  exact h9

set_option maxRecDepth 100000 in
set_option maxHeartbeats 4000000 in
theorem call_close (g : Nat) (m : Me) (a : Option Addr) (cap : Nat) (x b q c p : Value) (cf tx : Bool) (w : World) (ht : Tb w a cap m.args) (wf : m.Wf) (hmay : MayM m) (h : ChB w g 1 x b q c p cf tx) (h1 : m.id = 2040) :
    Calls Tryz.prog 9 #[.pointer (some ⟨g, 0, none⟩), .agg (meC m a cap)] w fun e w' => ∃ s, e = .returned (.tuple #[.slice (some ⟨s, 0, none⟩) 1 1, .int .i64 0]) ∧ MeAt w' s (Me.of 2041) none 0 ∧ ChB w' g 0 (.slice none 0 0) (.slice none 0 0) (.slice none 0 0) (.slice none 0 0) (.pointer none) false false ∧ Kept [g] w w' := by
  have H1 := Lib.hid h1
  clear h1
  have q1 : (m.id == 2040) = true := by rw [beq_iff_eq]; exact H1.out
  have hat0 : MeAt (w.alloc (.cells (meC m a cap) 31)) w.heap.size m a cap := heap_alloc_new w _
  have hb0 : Below w.heap.size w (w.alloc (.cells (meC m a cap) 31)) := (Below.refl _ _).alloc (Nat.le_refl _) _
  have hws : (w.alloc (.cells (meC m a cap) 31)).heap.size = w.heap.size + 1 := by simp
  obtain ⟨⟨c0, c1, c2, c3, c4, c5⟩, c6, c7, c8, c9, c10, c11⟩ := hat0.cells
  have HGL := Lib.hid h.lt
  have HCH := Lib.hid (h.below hb0)
  have HB0 := Lib.hid hb0
  have HAT := Lib.hid hat0
  have HWF := Lib.hid wf
  have HMAY := Lib.hid hmay
  have HTW := Lib.hid (ht.below hb0)
  obtain ⟨mc, hmc⟩ : ∃ c, c = meC m a cap := ⟨_, rfl⟩
  have HMC := Lib.hid hmc
  rw [← hmc] at c0 c1 c2 c3 c4 c5 c6 c7 c8 c9 c10 c11 hws HAT HTW HB0 HCH ⊢
  clear hat0 ht wf hmay hb0 hmc h
  go_enter Tryz.func9, Tryz.ntmps9
  go_wp2_with fail
  refine wp_scope_unroll 3 ?_
  go_wp2_with fail
  refine (mayM_any (a := a) (cap := cap) HTW.out HWF.out).mono ?_
  rintro e w1 ⟨r, hr, rfl, hb1⟩
  obtain rfl : r = true := hr.2 HMAY.out
  have hat1 := HAT.out.keep (hb1.block _ HAT.out.lt)
  have hch1 := HCH.out.below hb1
  have HB1 := Lib.hid (HB0.out.trans (hb1.mono (by omega)))
  have HZ1 := Lib.hid (show w.heap.size < w1.heap.size from Nat.lt_of_lt_of_le (by omega) hb1.size)
  have HAT1 := Lib.hid hat1
  have HCH1 := Lib.hid hch1
  have HT1 := Lib.hid (HTW.out.below hb1)
  clear hr hb1 c0 c1 c2 c3 c4 c5 c6 c7 c8 c9 c10 c11
  obtain ⟨⟨c0, c1, c2, c3, c4, c5⟩, c6, c7, c8, c9, c10, c11⟩ := hat1.cells
  obtain ⟨⟨d0, d1, d2, d3, d4, d5, d6, d7⟩, e0, e1, e2, e3, e4, e5, e6, e7⟩ := hch1.cells
  clear hat1 hch1
  go_wp2_with fail
  go_step3
  refine unroll_goto _ rfl ?_
  go_upto_region 14 with fail
  have hset := set8_box HCH1.out 0 (.slice none 0 0) (.slice none 0 0) (.slice none 0 0) (.slice none 0 0) (.pointer none) false false
  have hkep := set8_kept w1 g (.int .i64 0) (.slice none 0 0) (.slice none 0 0) (.slice none 0 0) (.slice none 0 0) (.pointer none) (.bool false) (.bool false)
  have hsiz := set8_size w1 g (.int .i64 0) (.slice none 0 0) (.slice none 0 0) (.slice none 0 0) (.slice none 0 0) (.pointer none) (.bool false) (.bool false)
  unfold set8 at hset hkep hsiz
  generalize ((((((((w1.setCell ⟨g, 0, none⟩ (.int .i64 0)).setCell ⟨g, 1, none⟩ (.slice none 0 0)).setCell ⟨g, 2, none⟩ (.slice none 0 0)).setCell ⟨g, 3, none⟩ (.slice none 0 0)).setCell ⟨g, 4, none⟩ (.slice none 0 0)).setCell ⟨g, 5, none⟩ (.pointer none)).setCell ⟨g, 6, none⟩ (.bool false)).setCell ⟨g, 7, none⟩ (.bool false)) = W at *
  have HSET := Lib.hid hset
  have HKEP := Lib.hid hkep
  have HSIZ := Lib.hid hsiz
  clear hset hkep hsiz
  go_wp2_with (go_at_call 19; refine (one_any 2041 W).mono ?_; rintro e w3 ⟨rfl, hm3, hb3⟩; have HM3 := Lib.hid hm3; have HB3 := Lib.hid hb3; clear hm3 hb3)
  refine unroll_ret ?_
  go_ret2
  exact ⟨_, rfl, HM3.out, HSET.out.below HB3.out, Kept.tail (Kept.lead HB1.out HKEP.out) HB3.out⟩

set_option maxRecDepth 100000 in
set_option maxHeartbeats 4000000 in
theorem call_begin (g : Nat) (m : Me) (a : Option Addr) (cap : Nat) (x b q c p : Value) (cf tx : Bool) (w : World) (ht : Tb w a cap m.args) (wf : m.Wf) (hmay : MayM m) (h : ChB w g 0 x b q c p cf tx) (h1 : m.id = 2010) :
    Calls Tryz.prog 9 #[.pointer (some ⟨g, 0, none⟩), .agg (meC m a cap)] w fun e w' => ∃ s k, e = .returned (.tuple #[.slice (some ⟨s, 0, none⟩) 1 1, .int .i64 0]) ∧ MeAt w' s (Me.of 2011) none 0 ∧ ChB w' g 1 (.slice none 0 0) (.slice none 0 0) (.slice none 0 0) (.slice none 0 0) (.pointer (some ⟨k, 0, none⟩)) false false ∧ Cr.CrV w.heap.size w' k 0 0 [] (.slice none 0 0) ∧ Kept [g] w w' := by
  have H1 := Lib.hid h1
  clear h1
  have q1 : (m.id != 2010) = false := by rw [bne_eq_false_iff_eq]; exact H1.out
  have hat0 : MeAt (w.alloc (.cells (meC m a cap) 31)) w.heap.size m a cap := heap_alloc_new w _
  have hb0 : Below w.heap.size w (w.alloc (.cells (meC m a cap) 31)) := (Below.refl _ _).alloc (Nat.le_refl _) _
  have hws : (w.alloc (.cells (meC m a cap) 31)).heap.size = w.heap.size + 1 := by simp
  obtain ⟨⟨c0, c1, c2, c3, c4, c5⟩, c6, c7, c8, c9, c10, c11⟩ := hat0.cells
  have HGL := Lib.hid h.lt
  have HCH := Lib.hid (h.below hb0)
  have HB0 := Lib.hid hb0
  have HAT := Lib.hid hat0
  have HWF := Lib.hid wf
  have HMAY := Lib.hid hmay
  have HTW := Lib.hid (ht.below hb0)
  obtain ⟨mc, hmc⟩ : ∃ c, c = meC m a cap := ⟨_, rfl⟩
  have HMC := Lib.hid hmc
  rw [← hmc] at c0 c1 c2 c3 c4 c5 c6 c7 c8 c9 c10 c11 hws HAT HTW HB0 HCH ⊢
  clear hat0 ht wf hmay hb0 hmc h
  go_enter Tryz.func9, Tryz.ntmps9
  go_wp2_with fail
  refine wp_scope_unroll 3 ?_
  go_wp2_with fail
  refine (mayM_any (a := a) (cap := cap) HTW.out HWF.out).mono ?_
  rintro e w1 ⟨r, hr, rfl, hb1⟩
  obtain rfl : r = true := hr.2 HMAY.out
  have hat1 := HAT.out.keep (hb1.block _ HAT.out.lt)
  have hch1 := HCH.out.below hb1
  have HB1 := Lib.hid (HB0.out.trans (hb1.mono (by omega)))
  have HZ1 := Lib.hid (show w.heap.size < w1.heap.size from Nat.lt_of_lt_of_le (by omega) hb1.size)
  have HAT1 := Lib.hid hat1
  have HCH1 := Lib.hid hch1
  have HT1 := Lib.hid (HTW.out.below hb1)
  clear hr hb1 c0 c1 c2 c3 c4 c5 c6 c7 c8 c9 c10 c11
  obtain ⟨⟨c0, c1, c2, c3, c4, c5⟩, c6, c7, c8, c9, c10, c11⟩ := hat1.cells
  obtain ⟨⟨d0, d1, d2, d3, d4, d5, d6, d7⟩, e0, e1, e2, e3, e4, e5, e6, e7⟩ := hch1.cells
  clear hat1 hch1
  go_wp2_with fail
  go_upto_region 11 with (go_at_call 18; refine (Cr.new_any 0 (by decide) w1).mono ?_; rintro e w2 ⟨rfl, hv2, hb2, -⟩; have HV2 := Lib.hid hv2; have HB2 := Lib.hid hb2; have hch2 := HCH1.out.below hb2; have HCH2 := Lib.hid hch2; obtain ⟨⟨f0, f1, f2, f3, f4, f5, f6, f7⟩, g0, g1, g2, g3, g4, g5, g6, g7⟩ := hch2.cells; clear hv2 hb2 hch2)
  obtain ⟨k, hk⟩ : ∃ k, k = w1.heap.size := ⟨_, rfl⟩
  rw [← hk] at HV2 ⊢
  have HK := Lib.hid hk
  clear hk
  have hset := set8_box HCH2.out 1 (.slice none 0 0) (.slice none 0 0) (.slice none 0 0) (.slice none 0 0) (.pointer (some ⟨k, 0, none⟩)) false false
  have hkep := set8_kept w2 g (.int .i64 1) (.slice none 0 0) (.slice none 0 0) (.slice none 0 0) (.slice none 0 0) (.pointer (some ⟨k, 0, none⟩)) (.bool false) (.bool false)
  have hsiz := set8_size w2 g (.int .i64 1) (.slice none 0 0) (.slice none 0 0) (.slice none 0 0) (.slice none 0 0) (.pointer (some ⟨k, 0, none⟩)) (.bool false) (.bool false)
  unfold set8 at hset hkep hsiz
  generalize ((((((((w2.setCell ⟨g, 0, none⟩ (.int .i64 1)).setCell ⟨g, 1, none⟩ (.slice none 0 0)).setCell ⟨g, 2, none⟩ (.slice none 0 0)).setCell ⟨g, 3, none⟩ (.slice none 0 0)).setCell ⟨g, 4, none⟩ (.slice none 0 0)).setCell ⟨g, 5, none⟩ (.pointer (some ⟨k, 0, none⟩))).setCell ⟨g, 6, none⟩ (.bool false)).setCell ⟨g, 7, none⟩ (.bool false)) = W at *
  have HSET := Lib.hid hset
  have HKEP := Lib.hid hkep
  have HSIZ := Lib.hid hsiz
  clear hset hkep hsiz
  go_wp2_with (go_at_call 19; refine (one_any 2011 W).mono ?_; rintro e w3 ⟨rfl, hm3, hb3⟩; have HM3 := Lib.hid hm3; have HB3 := Lib.hid hb3; clear hm3 hb3)
  refine unroll_ret ?_
  go_ret2
  have hkg : k ≠ g := by have := HZ1.out; have := HGL.out; have := HK.out; omega
  have hcr : Cr.CrV w.heap.size W k 0 0 [] (.slice none 0 0) := ⟨by have := HZ1.out; have := HK.out; omega, HKEP.out.box HV2.out.bx (by simpa using hkg), OwnE.nil _ _ _ _ _, by simp⟩
  exact ⟨_, k, rfl, HM3.out, HSET.out.below HB3.out, hcr.below HB3.out, Kept.tail (Kept.lead HB1.out (Kept.lead HB2.out HKEP.out)) HB3.out⟩

set_option maxRecDepth 100000 in
set_option maxHeartbeats 4000000 in
theorem call_ok (g : Nat) (m : Me) (a : Option Addr) (cap : Nat) (x b q c p : Value) (cf tx : Bool) (w : World) (ht : Tb w a cap m.args) (wf : m.Wf) (hmay : MayM m) (h : ChB w g 1 x b q c p cf tx) (h1 : ¬ m.id = 2040) (P : World → Value → World → Prop) (hask : ∀ w1, Below w.heap.size w w1 → ChB w1 g 1 x b q c p cf tx → Tb w1 a cap m.args → Calls Tryz.prog 20 #[.pointer (some ⟨g, 0, none⟩), .agg (meC m a cap)] w1 fun e w2 => ∃ v, e = .returned (.tuple #[v, .int .i64 0]) ∧ P w1 v w2) :
    Calls Tryz.prog 9 #[.pointer (some ⟨g, 0, none⟩), .agg (meC m a cap)] w fun e w' => ∃ w1 v, Below w.heap.size w w1 ∧ P w1 v w' ∧ e = .returned (.tuple #[v, .int .i64 0]) := by
  have q1 : (m.id == 2040) = false := by rw [beq_eq_false_iff_ne]; exact h1
  have hat0 : MeAt (w.alloc (.cells (meC m a cap) 31)) w.heap.size m a cap := heap_alloc_new w _
  have hb0 : Below w.heap.size w (w.alloc (.cells (meC m a cap) 31)) := (Below.refl _ _).alloc (Nat.le_refl _) _
  have hws : (w.alloc (.cells (meC m a cap) 31)).heap.size = w.heap.size + 1 := by simp
  obtain ⟨⟨c0, c1, c2, c3, c4, c5⟩, c6, c7, c8, c9, c10, c11⟩ := hat0.cells
  have HGL := Lib.hid h.lt
  have HCH := Lib.hid (h.below hb0)
  have HB0 := Lib.hid hb0
  have HAT := Lib.hid hat0
  have HWF := Lib.hid wf
  have HMAY := Lib.hid hmay
  have HTW := Lib.hid (ht.below hb0)
  obtain ⟨mc, hmc⟩ : ∃ c, c = meC m a cap := ⟨_, rfl⟩
  have HMC := Lib.hid hmc
  rw [← hmc] at c0 c1 c2 c3 c4 c5 c6 c7 c8 c9 c10 c11 hws HAT HTW HB0 HCH ⊢
  clear hat0 ht wf hmay hb0 hmc h
  go_enter Tryz.func9, Tryz.ntmps9
  go_wp2_with fail
  refine wp_scope_unroll 3 ?_
  go_wp2_with fail
  refine (mayM_any (a := a) (cap := cap) HTW.out HWF.out).mono ?_
  rintro e w1 ⟨r, hr, rfl, hb1⟩
  obtain rfl : r = true := hr.2 HMAY.out
  have hat1 := HAT.out.keep (hb1.block _ HAT.out.lt)
  have hch1 := HCH.out.below hb1
  have HB1 := Lib.hid (HB0.out.trans (hb1.mono (by omega)))
  have HZ1 := Lib.hid (show w.heap.size < w1.heap.size from Nat.lt_of_lt_of_le (by omega) hb1.size)
  have HAT1 := Lib.hid hat1
  have HCH1 := Lib.hid hch1
  have HT1 := Lib.hid (HTW.out.below hb1)
  clear hr hb1 c0 c1 c2 c3 c4 c5 c6 c7 c8 c9 c10 c11
  obtain ⟨⟨c0, c1, c2, c3, c4, c5⟩, c6, c7, c8, c9, c10, c11⟩ := hat1.cells
  obtain ⟨⟨d0, d1, d2, d3, d4, d5, d6, d7⟩, e0, e1, e2, e3, e4, e5, e6, e7⟩ := hch1.cells
  clear hat1 hch1
  go_wp2_with fail
  go_step3
  refine unroll_goto _ rfl ?_
  have hA := hask w1 HB1.out HCH1.out HT1.out
  have HASK := Lib.hid hA
  clear hA hask
  go_wp2_with (go_at_call 20; refine HASK.out.mono ?_; rintro e w2 ⟨v, rfl, hp⟩; have HP := Lib.hid hp; clear hp)
  refine unroll_ret ?_
  go_ret2
  exact ⟨w1, v, HB1.out, HP.out, rfl⟩

set_option maxRecDepth 100000 in
set_option maxHeartbeats 4000000 in
theorem call_no (g : Nat) (m : Me) (a : Option Addr) (cap : Nat) (x b q c p : Value) (cf tx : Bool) (w : World) (ht : Tb w a cap m.args) (wf : m.Wf) (hmay : MayM m) (h : ChB w g 1 x b q c p cf tx) (h1 : ¬ m.id = 2040) (cd : Int) (hcd : ¬ cd = 0) (P : World → World → Prop) (hask : ∀ w1, Below w.heap.size w w1 → ChB w1 g 1 x b q c p cf tx → Tb w1 a cap m.args → Calls Tryz.prog 20 #[.pointer (some ⟨g, 0, none⟩), .agg (meC m a cap)] w1 fun e w2 => ∃ v, e = .returned (.tuple #[v, .int .i64 cd]) ∧ P w1 w2 ∧ ∃ st x b q c p cf tx, ChB w2 g st x b q c p cf tx) :
    Calls Tryz.prog 9 #[.pointer (some ⟨g, 0, none⟩), .agg (meC m a cap)] w fun e w' => ∃ w1 w2 s, Below w.heap.size w w1 ∧ P w1 w2 ∧ e = .returned (.tuple #[.slice (some ⟨s, 0, none⟩) 1 1, .int .i64 cd]) ∧ MeAt w' s (bad cd) none 0 ∧ ChB w' g 2 (.slice none 0 0) (.slice none 0 0) (.slice none 0 0) (.slice none 0 0) (.pointer none) false false ∧ Kept [g] w2 w' := by
  have q1 : (m.id == 2040) = false := by rw [beq_eq_false_iff_ne]; exact h1
  have hat0 : MeAt (w.alloc (.cells (meC m a cap) 31)) w.heap.size m a cap := heap_alloc_new w _
  have hb0 : Below w.heap.size w (w.alloc (.cells (meC m a cap) 31)) := (Below.refl _ _).alloc (Nat.le_refl _) _
  have hws : (w.alloc (.cells (meC m a cap) 31)).heap.size = w.heap.size + 1 := by simp
  obtain ⟨⟨c0, c1, c2, c3, c4, c5⟩, c6, c7, c8, c9, c10, c11⟩ := hat0.cells
  have HGL := Lib.hid h.lt
  have HCH := Lib.hid (h.below hb0)
  have HB0 := Lib.hid hb0
  have HAT := Lib.hid hat0
  have HWF := Lib.hid wf
  have HMAY := Lib.hid hmay
  have HTW := Lib.hid (ht.below hb0)
  obtain ⟨mc, hmc⟩ : ∃ c, c = meC m a cap := ⟨_, rfl⟩
  have HMC := Lib.hid hmc
  rw [← hmc] at c0 c1 c2 c3 c4 c5 c6 c7 c8 c9 c10 c11 hws HAT HTW HB0 HCH ⊢
  clear hat0 ht wf hmay hb0 hmc h
  go_enter Tryz.func9, Tryz.ntmps9
  go_wp2_with fail
  refine wp_scope_unroll 3 ?_
  go_wp2_with fail
  refine (mayM_any (a := a) (cap := cap) HTW.out HWF.out).mono ?_
  rintro e w1 ⟨r, hr, rfl, hb1⟩
  obtain rfl : r = true := hr.2 HMAY.out
  have hat1 := HAT.out.keep (hb1.block _ HAT.out.lt)
  have hch1 := HCH.out.below hb1
  have HB1 := Lib.hid (HB0.out.trans (hb1.mono (by omega)))
  have HZ1 := Lib.hid (show w.heap.size < w1.heap.size from Nat.lt_of_lt_of_le (by omega) hb1.size)
  have HAT1 := Lib.hid hat1
  have HCH1 := Lib.hid hch1
  have HT1 := Lib.hid (HTW.out.below hb1)
  clear hr hb1 c0 c1 c2 c3 c4 c5 c6 c7 c8 c9 c10 c11
  obtain ⟨⟨c0, c1, c2, c3, c4, c5⟩, c6, c7, c8, c9, c10, c11⟩ := hat1.cells
  obtain ⟨⟨d0, d1, d2, d3, d4, d5, d6, d7⟩, e0, e1, e2, e3, e4, e5, e6, e7⟩ := hch1.cells
  clear hat1 hch1
  go_wp2_with fail
  have q2 : (cd != 0) = true := by rw [bne_iff_ne]; exact hcd
  go_step3
  refine unroll_goto _ rfl ?_
  have hA := hask w1 HB1.out HCH1.out HT1.out
  have HASK := Lib.hid hA
  clear hA hask hcd
  go_wp2_with (go_at_call 20; refine HASK.out.mono ?_; rintro e w2 ⟨v, rfl, hp, st2, x2, b2, q2', c2, p2, cf2, tx2, hch2⟩; have HP := Lib.hid hp; have HCH2 := Lib.hid hch2; obtain ⟨⟨f0, f1, f2, f3, f4, f5, f6, f7⟩, g0, g1, g2, g3, g4, g5, g6, g7⟩ := hch2.cells; clear hp hch2)
  go_step3
  refine unroll_goto _ rfl ?_
  go_wp2_with fail
  refine unroll_ret ?_
  have hset := set8_box HCH2.out 2 (.slice none 0 0) (.slice none 0 0) (.slice none 0 0) (.slice none 0 0) (.pointer none) false false
  have hkep := set8_kept w2 g (.int .i64 2) (.slice none 0 0) (.slice none 0 0) (.slice none 0 0) (.slice none 0 0) (.pointer none) (.bool false) (.bool false)
  have hsiz := set8_size w2 g (.int .i64 2) (.slice none 0 0) (.slice none 0 0) (.slice none 0 0) (.slice none 0 0) (.pointer none) (.bool false) (.bool false)
  unfold set8 at hset hkep hsiz
  generalize ((((((((w2.setCell ⟨g, 0, none⟩ (.int .i64 2)).setCell ⟨g, 1, none⟩ (.slice none 0 0)).setCell ⟨g, 2, none⟩ (.slice none 0 0)).setCell ⟨g, 3, none⟩ (.slice none 0 0)).setCell ⟨g, 4, none⟩ (.slice none 0 0)).setCell ⟨g, 5, none⟩ (.pointer none)).setCell ⟨g, 6, none⟩ (.bool false)).setCell ⟨g, 7, none⟩ (.bool false)) = W at *
  have HSET := Lib.hid hset
  have HKEP := Lib.hid hkep
  have HSIZ := Lib.hid hsiz
  clear hset hkep hsiz
  go_ret2
  refine ⟨w1, w2, _, HB1.out, HP.out, rfl, ?_, HSET.out.below ((Below.refl _ _).alloc (Nat.le_refl _) _), HKEP.out.alloc _⟩
  have h9 := heap_alloc_new W (.cells (meC (bad cd) none 0) 31)
  rw [HSIZ.out] at h9
  exact h9

end Go.Proofs.YtiobcgolcoocnaaGreatDoor.Ch
