/-
  channel's consume and settle, what ask says to Qos, walked.
-/
import Derived.Test.YtiobcgolcoocnaaGreatDoorChGive
import Derived.Deep.RegionLaw
namespace Go.Proofs.YtiobcgolcoocnaaGreatDoor.Ch
open Go.RowKit Rg Sh Bt
set_option linter.unusedVariables false
set_option linter.unusedSimpArgs false

/-- what Consume is answered. -/
def conOk (t : List UInt8) : Me := { Me.of 6021 with text := ⟨t.toArray⟩ }
set_option maxRecDepth 100000 in
set_option maxHeartbeats 8000000 in
theorem consume_dup (g : Nat) (st : Int) (x b : Value) (a : Option Addr) (n cap : Nat) (ca : Option Addr) (cn cc : Nat) (lc : List (List UInt8)) (p : Value) (cf tx : Bool) (l : List (List UInt8)) (s t : List UInt8) (w : World) (hn : n = l.length) (hs : s ∈ l) (hin : t ∈ lc) (hcn : cn = lc.length) (h : ChB w g st x b (.slice a n cap) (.slice ca cn cc) p cf tx) (hl : StAt w a cap l) (hc : StAt w ca cc lc) :
    Calls Tryz.prog 36 #[.pointer (some ⟨g, 0, none⟩), .agg (meC (conM s t) none 0)] w fun e w' => e = .returned (.tuple #[.slice none 0 0, .int .i64 530]) ∧ Below w.heap.size w w' := by
  have hat0 : MeAt (w.alloc (.cells (meC (conM s t) none 0) 31)) w.heap.size (conM s t) none 0 := heap_alloc_new w _
  have hb0 : Below w.heap.size w (w.alloc (.cells (meC (conM s t) none 0) 31)) := (Below.refl _ _).alloc (Nat.le_refl _) _
  have m1 : (w.alloc (.cells (meC (conM s t) none 0) 31)).cell? ⟨w.heap.size, 1, none⟩ = some (.string ⟨s.toArray⟩) := hat0.cells.1.2.1
  have m5 : (w.alloc (.cells (meC (conM s t) none 0) 31)).cell? ⟨w.heap.size, 5, none⟩ = some (.string ⟨t.toArray⟩) := hat0.cells.1.2.2.2.2.2
  have hch := h.below hb0
  have HGL := Lib.hid h.lt
  have HCH := Lib.hid hch
  have HB0 := Lib.hid hb0
  have hh := has_any g st x b a n cap (.slice ca cn cc) p cf tx l s _ hn hch (hl.below hb0)
  rw [decide_eq_true hs] at hh
  have HH := Lib.hid hh
  have hcon := fun (nq : Nat) => contains_any ca cc cn lc t ((w.alloc (.cells (meC (conM s t) none 0) 31)).drewN nq) hcn (hc.below (Below.drewN hb0 nq))
  rw [decide_eq_true hin] at hcon
  have HCON := Lib.hid hcon
  obtain ⟨mc, hmc⟩ : ∃ mc, mc = meC (conM s t) none 0 := ⟨_, rfl⟩
  rw [← hmc] at m1 m5 HCH HB0 HH HCON ⊢
  obtain ⟨W, hW⟩ : ∃ W, W = w.alloc (.cells mc 31) := ⟨_, rfl⟩
  have HWW := Lib.hid hW
  have hWs : W.heap.size = w.heap.size + 1 := by rw [hW]; simp
  rw [← hW] at m1 m5 HCH HB0 HH HCON
  obtain ⟨⟨-, -, -, d3, d4, -⟩, -, -, -, e3, e4, -⟩ := HCH.out.cells
  clear hat0 hb0 h hch hmc hW hh hs hl hn hcon hin hcn hc
  go_enter Tryz.func36, Tryz.ntmps36
  go_upto_region 1 with fail
  rw [← HWW.out]
  go_upto_region 3 with (go_at_call 24; refine HH.out.mono ?_; rintro e w1 ⟨rfl, rfl⟩)
  go_quiet ((go_at_call 22; exact Calls.quiet_of_same ((HCON.out _).mono fun e w' h => ⟨h.1, h.2.symm⟩)))
  generalize hw4 : W.drewN nq = w4
  have hb4 : Below W.heap.size W w4 := by rw [← hw4]; exact Below.drewN (Below.refl _ _) _
  have HB4 := Lib.hid (HB0.out.trans (hb4.mono HB0.out.size))
  go_wp2_with fail
  go_ret2
  exact ⟨rfl, HB4.out⟩

set_option maxRecDepth 100000 in
set_option maxHeartbeats 8000000 in
theorem consume_new (g : Nat) (st : Int) (x b : Value) (a : Option Addr) (n cap : Nat) (p : Value) (cf tx : Bool) (l : List (List UInt8)) (s t : List UInt8) (w : World) (hn : n = l.length) (hs : s ∈ l) (h : ChB w g st x b (.slice a n cap) (.slice none 0 0) p cf tx) (hl : StAt w a cap l) :
    Calls Tryz.prog 36 #[.pointer (some ⟨g, 0, none⟩), .agg (meC (conM s t) none 0)] w fun e w' => ∃ k v', e = .returned (.tuple #[.slice (some ⟨k, 0, none⟩) 1 1, .int .i64 0]) ∧ MeAt w' k (conOk t) none 0 ∧ ChB w' g st x b (.slice a n cap) v' p cf tx ∧ OwnS w' w.heap.size v' [t] ∧ Kept [g] w w' := by
  have hat0 : MeAt (w.alloc (.cells (meC (conM s t) none 0) 31)) w.heap.size (conM s t) none 0 := heap_alloc_new w _
  have hb0 : Below w.heap.size w (w.alloc (.cells (meC (conM s t) none 0) 31)) := (Below.refl _ _).alloc (Nat.le_refl _) _
  have m1 : (w.alloc (.cells (meC (conM s t) none 0) 31)).cell? ⟨w.heap.size, 1, none⟩ = some (.string ⟨s.toArray⟩) := hat0.cells.1.2.1
  have m5 : (w.alloc (.cells (meC (conM s t) none 0) 31)).cell? ⟨w.heap.size, 5, none⟩ = some (.string ⟨t.toArray⟩) := hat0.cells.1.2.2.2.2.2
  have hch := h.below hb0
  have HGL := Lib.hid h.lt
  have HCH := Lib.hid hch
  have HB0 := Lib.hid hb0
  have hh := has_any g st x b a n cap (.slice none 0 0) p cf tx l s _ hn hch (hl.below hb0)
  rw [decide_eq_true hs] at hh
  have HH := Lib.hid hh
  have hcon := fun (nq : Nat) => contains_any none 0 0 [] t ((w.alloc (.cells (meC (conM s t) none 0) 31)).drewN nq) rfl ((RowsAt.nil 1 stC w none 0 (by decide)).below (Below.drewN hb0 nq))
  rw [decide_eq_false (by simp : ¬ t ∈ ([] : List (List UInt8)))] at hcon
  have HCON := Lib.hid hcon
  obtain ⟨mc, hmc⟩ : ∃ mc, mc = meC (conM s t) none 0 := ⟨_, rfl⟩
  rw [← hmc] at m1 m5 HCH HB0 HH HCON ⊢
  obtain ⟨W, hW⟩ : ∃ W, W = w.alloc (.cells mc 31) := ⟨_, rfl⟩
  have HWW := Lib.hid hW
  have hWs : W.heap.size = w.heap.size + 1 := by rw [hW]; simp
  rw [← hW] at m1 m5 HCH HB0 HH HCON
  obtain ⟨⟨-, -, -, d3, d4, -⟩, -, -, -, e3, e4, -⟩ := HCH.out.cells
  clear hat0 hb0 h hch hmc hW hh hs hl hn hcon
  go_enter Tryz.func36, Tryz.ntmps36
  go_upto_region 1 with fail
  rw [← HWW.out]
  go_upto_region 3 with (go_at_call 24; refine HH.out.mono ?_; rintro e w1 ⟨rfl, rfl⟩)
  go_quiet ((go_at_call 22; exact Calls.quiet_of_same ((HCON.out _).mono fun e w' h => ⟨h.1, h.2.symm⟩)))
  generalize hw4 : W.drewN nq = w4
  have hb4 : Below W.heap.size W w4 := by rw [← hw4]; exact Below.drewN (Below.refl _ _) _
  have HB4 := Lib.hid (HB0.out.trans (hb4.mono HB0.out.size))
  have m5' := (cell_of_below hb4 (show w.heap.size < W.heap.size by omega)).trans m5
  have hc4 := HCH.out.below hb4
  have HC4 := Lib.hid hc4
  obtain ⟨⟨-, -, -, -, d4', -⟩, -, -, -, -, e4', -⟩ := hc4.cells
  have zm : w.heap.size < w4.heap.size := by have := hb4.size; omega
  clear hw4 hb4 hc4 m1 m5 d3 d4 e3 e4 HCON HH hWs
  go_upto_region 5 with fail
  have HN4 : Hid (OwnS w4.drew w.heap.size (.slice none 0 0) []) := Lib.hid (OwnE.nil _ _ _ _ _)
  have HZ4 : Hid (w.heap.size ≤ w4.drew.heap.size) := Lib.hid (Nat.le_of_lt zm)
  have HM5 := Lib.hid m5'
  have z1 := HC4.out.lt
  have z2 : ¬ g = w4.heap.size := by omega
  have zm2 : ¬ w.heap.size = w4.heap.size := by omega
  go_region_law (first | (refine step_put_lies stE t (w := w4.drew) rfl (.tmp 32) (.tmp 35) rfl HN4.out HZ4.out (by simp) _ rfl rfl _ rfl rfl ?_; intro v5 w5 ho5 hg5 hla5; have hc5 : ChB w5 g st _ _ _ _ _ _ _ := (hg5.block g HC4.out.lt (by simp [Value.ownBlock])).trans HC4.out; obtain ⟨xa, xc, he, -, -⟩ := OwnE.at stE ho5; have he : v5 = .slice xa 1 xc := he; subst he; have hs5 := hc5.set4 (.slice xa 1 xc); have HO6 : Hid (OwnS (w5.setCell ⟨g, 4, none⟩ (.slice xa 1 xc)) w.heap.size (.slice xa 1 xc) [t]) := Lib.hid (own_stay ho5 fun j hj => Below.heap_setCell w5 ⟨g, 4, none⟩ _ j (fun e => own_box ho5 hc5 (by decide) (by rw [hj]; exact congrArg some e))); have HC6 := Lib.hid hs5; have hb5 : Below w4.heap.size w4 w5 := (Below.refl w4.heap.size w4).drew.grown hg5 (Nat.le_refl _) (fun k e => by cases e); have HK6 : Hid (Kept [g] w (w5.setCell ⟨g, 4, none⟩ (.slice xa 1 xc))) := Lib.hid ((Kept.of_below (HB4.out.trans (hb5.mono HB4.out.size))).set (by simp) 4 _); have m6 : (w5.setCell ⟨g, 4, none⟩ (.slice xa 1 xc)).cell? ⟨w.heap.size, 5, none⟩ = some (.string ⟨t.toArray⟩) := (World.cell?_of_block (w := w5) (a := ⟨w.heap.size, 5, none⟩) (Below.heap_setCell w5 ⟨g, 4, none⟩ _ w.heap.size (by have := HGL.out; show w.heap.size ≠ g; omega))).trans ((cell_of_below hb5 zm).trans HM5.out); obtain ⟨⟨-, -, -, -, p4, -⟩, -, -, -, -, q4, -⟩ := hc5.cells; clear ho5 hg5 hla5 hc5 hs5 hb5))
  all_goals
    rw [show ([] ++ [t] : List (List UInt8)).length = 1 from rfl]
    generalize w5.setCell ⟨g, 4, none⟩ (.slice xa 1 xc) = W6 at HO6 HC6 HK6 m6 ⊢
    clear p4 q4 d4' e4' m5'
    go_wp2_with fail
    go_ret2
    have h9 : MeAt (W6.alloc (.cells (meC (conOk t) none 0) 31)) W6.heap.size (conOk t) none 0 := heap_alloc_new W6 _
    have hb : Below W6.heap.size W6 (W6.alloc (.cells (meC (conOk t) none 0) 31)) := (Below.refl _ _).alloc (Nat.le_refl _) _
    exact ⟨_, _, rfl, h9, HC6.out.below hb, OwnE.below1 HO6.out hb, HK6.out.alloc _⟩

end Go.Proofs.YtiobcgolcoocnaaGreatDoor.Ch
