/-
  channel's Routes and publish, walked: of the empty exchange.
-/
import Derived.Test.YtiobcgolcoocnaaGreatDoorChMs
import Derived.Test.YtiobcgolcoocnaaGreatDoorRtQu
import Derived.Deep.RegionHeld3
namespace Go.Proofs.YtiobcgolcoocnaaGreatDoor.Ch
open Go.RowKit Rg Sh Bt
set_option linter.unusedVariables false
set_option linter.unusedSimpArgs false

theorem below_drew (w : World) : Below w.heap.size w w.drew := Below.drewN (Below.refl _ _) 1
theorem routes_none (g : Nat) (st : Int) (x b : Value) (a : Option Addr) (n cap : Nat) (c p : Value) (cf tx : Bool) (l : List (List UInt8)) (s : List UInt8) (w : World) (hn : n = l.length) (hs : ¬ s ∈ l) (h : ChB w g st x b (.slice a n cap) c p cf tx) (hl : StAt w a cap l) :
    Calls Tryz.prog 16 #[.pointer (some ⟨g, 0, none⟩), .string ⟨#[]⟩, .string ⟨s.toArray⟩] w fun e w' => e = .returned (.tuple #[.slice none 0 0, .int .i64 0]) ∧ w = w' := by
  have hh := has_any g st x b a n cap c p cf tx l s w hn h hl
  rw [decide_eq_false hs] at hh
  have HH := Lib.hid hh
  clear hh h hl hs hn
  go_enter Tryz.func16, Tryz.ntmps16
  go_wp2_with (go_at_call 24; refine HH.out.mono ?_; rintro e w1 ⟨rfl, rfl⟩)
  go_ret2
  exact ⟨rfl, rfl⟩
set_option maxRecDepth 100000 in
set_option maxHeartbeats 4000000 in
theorem routes_self (g : Nat) (st : Int) (xa : Option Addr) (xn xc : Nat) (ba : Option Addr) (bn bc : Nat) (a : Option Addr) (n cap : Nat) (c p : Value) (cf tx : Bool) (l : List (List UInt8)) (s : List UInt8) (w : World) (hn : n = l.length) (hs : s ∈ l) (h : ChB w g st (.slice xa xn xc) (.slice ba bn bc) (.slice a n cap) c p cf tx) (hl : StAt w a cap l) :
    Calls Tryz.prog 16 #[.pointer (some ⟨g, 0, none⟩), .string ⟨#[]⟩, .string ⟨s.toArray⟩] w fun e w' => ∃ k, e = .returned (.tuple #[.slice (some ⟨k, 0, none⟩) 1 1, .int .i64 0]) ∧ w'.cell? ⟨k, 0, none⟩ = some (.string ⟨s.toArray⟩) ∧ Below w.heap.size w w' := by
  have hh := has_any g st (.slice xa xn xc) (.slice ba bn bc) a n cap c p cf tx l s w hn h hl
  rw [decide_eq_true hs] at hh
  have HH := Lib.hid hh
  obtain ⟨⟨d0, d1, d2, d3, d4, d5, d6, d7⟩, e0, e1, e2, e3, e4, e5, e6, e7⟩ := h.cells
  obtain ⟨z1, z2, -⟩ := box_lt h
  have HQ := Lib.hid (Rt.queues_def xa xc xn ba bc bn s w.drew)
  clear hh h hl hs hn
  go_enter Tryz.func16, Tryz.ntmps16
  go_wp2_with (go_at_call 24; refine HH.out.mono ?_; rintro e w1 ⟨rfl, rfl⟩)
  have HSK := Lib.hid (fun (wz : World) (k : Below w.heap.size w wz) => (⟨(cell_of_below k z1).trans d1, (cell_of_below k z1).trans d2⟩ : wz.cell? ⟨g, 1, none⟩ = some (.slice xa xn xc) ∧ wz.cell? ⟨g, 2, none⟩ = some (.slice ba bn bc)))
  have hS0 := HSK.out _ (below_drew w)
  go_region_held3 (fun wx => wx.cell? ⟨g, 1, none⟩ = some (.slice xa xn xc) ∧ wx.cell? ⟨g, 2, none⟩ = some (.slice ba bn bc))
    (first | exact ⟨d1, d2⟩ | exact hS0 | exact HSK.out _ HB.out)
    (first | (go_at_call 25; refine HQ.out.mono ?_; rintro e w1 ⟨hb, rfl, hc⟩; have HB := Lib.hid ((below_drew w).trans hb); have HC := Lib.hid hc; clear hb hc; dsimp only) | fail)
  go_wp2_with fail
  go_ret2
  exact ⟨_, rfl, HC.out, HB.out⟩
set_option maxRecDepth 100000 in
set_option maxHeartbeats 4000000 in
theorem routes_nf (g : Nat) (st : Int) (xa : Option Addr) (xn xc : Nat) (ba : Option Addr) (bn bc : Nat) (q c p : Value) (cf tx : Bool) (xl : List Rt.Ex) (ex s : List UInt8) (w : World) (hn : xn = xl.length) (he : ex ≠ []) (hf : Rt.fnd ex xl = none) (h : ChB w g st (.slice xa xn xc) (.slice ba bn bc) q c p cf tx) (hl : Rt.XsAt w xa xc xl) :
    Calls Tryz.prog 16 #[.pointer (some ⟨g, 0, none⟩), .string ⟨ex.toArray⟩, .string ⟨s.toArray⟩] w fun e w' => e = .returned (.tuple #[.slice none 0 0, .int .i64 404]) ∧ Below w.heap.size w w' := by
  obtain ⟨⟨d0, d1, d2, d3, d4, d5, d6, d7⟩, e0, e1, e2, e3, e4, e5, e6, e7⟩ := h.cells
  obtain ⟨z1, z2, -⟩ := box_lt h
  have HQ := Lib.hid (Rt.queues_none xa xc xl ba bc bn ex s he hf w.drew (hl.below (below_drew w)))
  rw [← hn] at HQ
  have q1 : ex.isEmpty = false := by simpa using he
  clear h hl he hf hn
  go_enter Tryz.func16, Tryz.ntmps16
  go_wp2_with fail
  have HSK := Lib.hid (fun (wz : World) (k : Below w.heap.size w wz) => (⟨(cell_of_below k z1).trans d1, (cell_of_below k z1).trans d2⟩ : wz.cell? ⟨g, 1, none⟩ = some (.slice xa xn xc) ∧ wz.cell? ⟨g, 2, none⟩ = some (.slice ba bn bc)))
  have hS0 := HSK.out _ (below_drew w)
  go_region_held3 (fun wx => wx.cell? ⟨g, 1, none⟩ = some (.slice xa xn xc) ∧ wx.cell? ⟨g, 2, none⟩ = some (.slice ba bn bc))
    (first | exact ⟨d1, d2⟩ | exact hS0 | exact HSK.out _ HB.out)
    (first | (go_at_call 25; refine HQ.out.mono ?_; rintro e w1 ⟨hb, rfl⟩; have HB := Lib.hid ((below_drew w).trans hb); clear hb; dsimp only) | fail)
  go_wp2_with fail
  go_ret2
  exact ⟨rfl, HB.out⟩

/-! ### publish, of the empty exchange -/
/-- what a message without a queue is answered. -/
def backM (s : List UInt8) : Me := { Me.of 6050 with code := 312, key := ⟨s.toArray⟩ }
theorem pub_cells {w : World} {g : Nat} {s : List UInt8} {f : Bool} (h : MeAt w g (pubM s f) none 0) : w.cell? ⟨g, 3, none⟩ = some (.string ⟨#[]⟩) ∧ w.cell? ⟨g, 4, none⟩ = some (.string ⟨s.toArray⟩) ∧ w.cell? ⟨g, 9, none⟩ = some (.bool f) :=
  ⟨h.cells.1.2.2.2.1, h.cells.1.2.2.2.2.1, h.cells.2.2.2.2.1⟩
set_option maxRecDepth 100000 in
set_option maxHeartbeats 4000000 in
theorem publish_self (g : Nat) (st : Int) (xa : Option Addr) (xn xc : Nat) (ba : Option Addr) (bn bc : Nat) (a : Option Addr) (n cap : Nat) (c p : Value) (cf tx : Bool) (l : List (List UInt8)) (s : List UInt8) (f : Bool) (w : World) (hn : n = l.length) (hs : s ∈ l) (h : ChB w g st (.slice xa xn xc) (.slice ba bn bc) (.slice a n cap) c p cf tx) (hl : StAt w a cap l) :
    Calls Tryz.prog 38 #[.pointer (some ⟨g, 0, none⟩), .agg (meC (pubM s f) none 0)] w fun e w' => e = .returned (.tuple #[.slice none 0 0, .int .i64 0]) ∧ Below w.heap.size w w' := by
  have hat0 : MeAt (w.alloc (.cells (meC (pubM s f) none 0) 31)) w.heap.size (pubM s f) none 0 := heap_alloc_new w _
  have hb0 : Below w.heap.size w (w.alloc (.cells (meC (pubM s f) none 0) 31)) := (Below.refl _ _).alloc (Nat.le_refl _) _
  have HR := Lib.hid (routes_self g st xa xn xc ba bn bc a n cap c p cf tx l s _ hn hs (h.below hb0) (hl.below hb0))
  have HAT := Lib.hid hat0
  have HB0 := Lib.hid hb0
  obtain ⟨c3, c4, c9⟩ := pub_cells hat0
  have hz : (w.alloc (.cells (meC (pubM s f) none 0) 31)).heap.size = w.heap.size + 1 := by simp
  clear hat0 hb0 h hl hs hn
  obtain ⟨mc, hmc⟩ : ∃ mc, mc = meC (pubM s f) none 0 := ⟨_, rfl⟩
  rw [← hmc] at HR HAT HB0 c3 c4 c9 hz ⊢
  clear hmc
  go_enter Tryz.func38, Tryz.ntmps38
  go_wp2_with (go_at_call 16; refine HR.out.mono ?_; rintro e w1 ⟨k, rfl, -, hb1⟩; have HB1 := Lib.hid (HB0.out.trans (hb1.mono HB0.out.size)); clear hb1)
  go_ret2
  exact ⟨rfl, HB1.out⟩
set_option maxRecDepth 100000 in
set_option maxHeartbeats 4000000 in
theorem publish_lost (g : Nat) (st : Int) (xa : Option Addr) (xn xc : Nat) (ba : Option Addr) (bn bc : Nat) (a : Option Addr) (n cap : Nat) (c p : Value) (cf tx : Bool) (l : List (List UInt8)) (s : List UInt8) (w : World) (hn : n = l.length) (hs : ¬ s ∈ l) (h : ChB w g st (.slice xa xn xc) (.slice ba bn bc) (.slice a n cap) c p cf tx) (hl : StAt w a cap l) :
    Calls Tryz.prog 38 #[.pointer (some ⟨g, 0, none⟩), .agg (meC (pubM s false) none 0)] w fun e w' => e = .returned (.tuple #[.slice none 0 0, .int .i64 0]) ∧ Below w.heap.size w w' := by
  have hat0 : MeAt (w.alloc (.cells (meC (pubM s false) none 0) 31)) w.heap.size (pubM s false) none 0 := heap_alloc_new w _
  have hb0 : Below w.heap.size w (w.alloc (.cells (meC (pubM s false) none 0) 31)) := (Below.refl _ _).alloc (Nat.le_refl _) _
  have HR := Lib.hid (routes_none g st (.slice xa xn xc) (.slice ba bn bc) a n cap c p cf tx l s _ hn hs (h.below hb0) (hl.below hb0))
  have HAT := Lib.hid hat0
  have HB0 := Lib.hid hb0
  obtain ⟨c3, c4, c9⟩ := pub_cells hat0
  have hz : (w.alloc (.cells (meC (pubM s false) none 0) 31)).heap.size = w.heap.size + 1 := by simp
  clear hat0 hb0 h hl hs hn
  obtain ⟨mc, hmc⟩ : ∃ mc, mc = meC (pubM s false) none 0 := ⟨_, rfl⟩
  rw [← hmc] at HR HAT HB0 c3 c4 c9 hz ⊢
  clear hmc
  go_enter Tryz.func38, Tryz.ntmps38
  go_wp2_with (go_at_call 16; refine HR.out.mono ?_; rintro e w1 ⟨rfl, rfl⟩)
  go_ret2
  exact ⟨rfl, HB0.out⟩
set_option maxRecDepth 100000 in
set_option maxHeartbeats 4000000 in
theorem publish_back (g : Nat) (st : Int) (xa : Option Addr) (xn xc : Nat) (ba : Option Addr) (bn bc : Nat) (a : Option Addr) (n cap : Nat) (c p : Value) (cf tx : Bool) (l : List (List UInt8)) (s : List UInt8) (w : World) (hn : n = l.length) (hs : ¬ s ∈ l) (h : ChB w g st (.slice xa xn xc) (.slice ba bn bc) (.slice a n cap) c p cf tx) (hl : StAt w a cap l) :
    Calls Tryz.prog 38 #[.pointer (some ⟨g, 0, none⟩), .agg (meC (pubM s true) none 0)] w fun e w' => ∃ k, e = .returned (.tuple #[.slice (some ⟨k, 0, none⟩) 1 1, .int .i64 0]) ∧ MeAt w' k (backM s) none 0 ∧ Below w.heap.size w w' := by
  have hat0 : MeAt (w.alloc (.cells (meC (pubM s true) none 0) 31)) w.heap.size (pubM s true) none 0 := heap_alloc_new w _
  have hb0 : Below w.heap.size w (w.alloc (.cells (meC (pubM s true) none 0) 31)) := (Below.refl _ _).alloc (Nat.le_refl _) _
  have HR := Lib.hid (routes_none g st (.slice xa xn xc) (.slice ba bn bc) a n cap c p cf tx l s _ hn hs (h.below hb0) (hl.below hb0))
  have HAT := Lib.hid hat0
  have HB0 := Lib.hid hb0
  obtain ⟨c3, c4, c9⟩ := pub_cells hat0
  have hz : (w.alloc (.cells (meC (pubM s true) none 0) 31)).heap.size = w.heap.size + 1 := by simp
  clear hat0 hb0 h hl hs hn
  obtain ⟨mc, hmc⟩ : ∃ mc, mc = meC (pubM s true) none 0 := ⟨_, rfl⟩
  rw [← hmc] at HR HAT HB0 c3 c4 c9 hz ⊢
  clear hmc
  go_enter Tryz.func38, Tryz.ntmps38
  go_wp2_with (go_at_call 16; refine HR.out.mono ?_; rintro e w1 ⟨rfl, rfl⟩)
  go_ret2
  have h9 := heap_alloc_new (w.alloc (.cells mc 31)) (.cells (meC (backM s) none 0) 31)
  rw [hz] at h9
  exact ⟨_, rfl, h9, HB0.out.alloc (by simp) _⟩

end Go.Proofs.YtiobcgolcoocnaaGreatDoor.Ch
