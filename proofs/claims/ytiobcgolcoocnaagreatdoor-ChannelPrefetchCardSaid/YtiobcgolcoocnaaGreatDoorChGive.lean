/-
  channel's Give, walked.
-/
import Derived.Test.YtiobcgolcoocnaaGreatDoorChOp
import Derived.Test.YtiobcgolcoocnaaGreatDoorCrOff
import Derived.Deep.RegionHeld3
import Derived.Deep.QuietTactic
namespace Go.Proofs.YtiobcgolcoocnaaGreatDoor.Ch
open Go.RowKit Rg Sh Bt
set_option linter.unusedVariables false
set_option linter.unusedSimpArgs false

/-! ### a call's box is laid anew -/
def M12 (w : World) (g : Nat) (c0 c1 c2 c3 c4 c5 c6 c7 c8 c9 c10 c11 : Value) : Prop := w.heap[g]? = some (.cells #[c0, c1, c2, c3, c4, c5, c6, c7, c8, c9, c10, c11] 31 (0, 0))
theorem M12.set0 {w : World} {g : Nat} {c0 c1 c2 c3 c4 c5 c6 c7 c8 c9 c10 c11 : Value} (h : M12 w g c0 c1 c2 c3 c4 c5 c6 c7 c8 c9 c10 c11) (u : Value) : M12 (w.setCell ⟨g, 0, none⟩ u) g u c1 c2 c3 c4 c5 c6 c7 c8 c9 c10 c11 := by
  have h1 := set_heap h 0 u
  exact h1
theorem M12.set1 {w : World} {g : Nat} {c0 c1 c2 c3 c4 c5 c6 c7 c8 c9 c10 c11 : Value} (h : M12 w g c0 c1 c2 c3 c4 c5 c6 c7 c8 c9 c10 c11) (u : Value) : M12 (w.setCell ⟨g, 1, none⟩ u) g c0 u c2 c3 c4 c5 c6 c7 c8 c9 c10 c11 := by
  have h1 := set_heap h 1 u
  exact h1
theorem M12.set2 {w : World} {g : Nat} {c0 c1 c2 c3 c4 c5 c6 c7 c8 c9 c10 c11 : Value} (h : M12 w g c0 c1 c2 c3 c4 c5 c6 c7 c8 c9 c10 c11) (u : Value) : M12 (w.setCell ⟨g, 2, none⟩ u) g c0 c1 u c3 c4 c5 c6 c7 c8 c9 c10 c11 := by
  have h1 := set_heap h 2 u
  exact h1
theorem M12.set3 {w : World} {g : Nat} {c0 c1 c2 c3 c4 c5 c6 c7 c8 c9 c10 c11 : Value} (h : M12 w g c0 c1 c2 c3 c4 c5 c6 c7 c8 c9 c10 c11) (u : Value) : M12 (w.setCell ⟨g, 3, none⟩ u) g c0 c1 c2 u c4 c5 c6 c7 c8 c9 c10 c11 := by
  have h1 := set_heap h 3 u
  exact h1
theorem M12.set4 {w : World} {g : Nat} {c0 c1 c2 c3 c4 c5 c6 c7 c8 c9 c10 c11 : Value} (h : M12 w g c0 c1 c2 c3 c4 c5 c6 c7 c8 c9 c10 c11) (u : Value) : M12 (w.setCell ⟨g, 4, none⟩ u) g c0 c1 c2 c3 u c5 c6 c7 c8 c9 c10 c11 := by
  have h1 := set_heap h 4 u
  exact h1
theorem M12.set5 {w : World} {g : Nat} {c0 c1 c2 c3 c4 c5 c6 c7 c8 c9 c10 c11 : Value} (h : M12 w g c0 c1 c2 c3 c4 c5 c6 c7 c8 c9 c10 c11) (u : Value) : M12 (w.setCell ⟨g, 5, none⟩ u) g c0 c1 c2 c3 c4 u c6 c7 c8 c9 c10 c11 := by
  have h1 := set_heap h 5 u
  exact h1
theorem M12.set6 {w : World} {g : Nat} {c0 c1 c2 c3 c4 c5 c6 c7 c8 c9 c10 c11 : Value} (h : M12 w g c0 c1 c2 c3 c4 c5 c6 c7 c8 c9 c10 c11) (u : Value) : M12 (w.setCell ⟨g, 6, none⟩ u) g c0 c1 c2 c3 c4 c5 u c7 c8 c9 c10 c11 := by
  have h1 := set_heap h 6 u
  exact h1
theorem M12.set7 {w : World} {g : Nat} {c0 c1 c2 c3 c4 c5 c6 c7 c8 c9 c10 c11 : Value} (h : M12 w g c0 c1 c2 c3 c4 c5 c6 c7 c8 c9 c10 c11) (u : Value) : M12 (w.setCell ⟨g, 7, none⟩ u) g c0 c1 c2 c3 c4 c5 c6 u c8 c9 c10 c11 := by
  have h1 := set_heap h 7 u
  exact h1
theorem M12.set8 {w : World} {g : Nat} {c0 c1 c2 c3 c4 c5 c6 c7 c8 c9 c10 c11 : Value} (h : M12 w g c0 c1 c2 c3 c4 c5 c6 c7 c8 c9 c10 c11) (u : Value) : M12 (w.setCell ⟨g, 8, none⟩ u) g c0 c1 c2 c3 c4 c5 c6 c7 u c9 c10 c11 := by
  have h1 := set_heap h 8 u
  exact h1
theorem M12.set9 {w : World} {g : Nat} {c0 c1 c2 c3 c4 c5 c6 c7 c8 c9 c10 c11 : Value} (h : M12 w g c0 c1 c2 c3 c4 c5 c6 c7 c8 c9 c10 c11) (u : Value) : M12 (w.setCell ⟨g, 9, none⟩ u) g c0 c1 c2 c3 c4 c5 c6 c7 c8 u c10 c11 := by
  have h1 := set_heap h 9 u
  exact h1
theorem M12.set10 {w : World} {g : Nat} {c0 c1 c2 c3 c4 c5 c6 c7 c8 c9 c10 c11 : Value} (h : M12 w g c0 c1 c2 c3 c4 c5 c6 c7 c8 c9 c10 c11) (u : Value) : M12 (w.setCell ⟨g, 10, none⟩ u) g c0 c1 c2 c3 c4 c5 c6 c7 c8 c9 u c11 := by
  have h1 := set_heap h 10 u
  exact h1
theorem M12.set11 {w : World} {g : Nat} {c0 c1 c2 c3 c4 c5 c6 c7 c8 c9 c10 c11 : Value} (h : M12 w g c0 c1 c2 c3 c4 c5 c6 c7 c8 c9 c10 c11) (u : Value) : M12 (w.setCell ⟨g, 11, none⟩ u) g c0 c1 c2 c3 c4 c5 c6 c7 c8 c9 c10 u := by
  have h1 := set_heap h 11 u
  exact h1
def set12 (w : World) (g : Nat) (d0 d1 d2 d3 d4 d5 d6 d7 d8 d9 d10 d11 : Value) : World := ((((((((((((w.setCell ⟨g, 0, none⟩ d0).setCell ⟨g, 1, none⟩ d1).setCell ⟨g, 2, none⟩ d2).setCell ⟨g, 3, none⟩ d3).setCell ⟨g, 4, none⟩ d4).setCell ⟨g, 5, none⟩ d5).setCell ⟨g, 6, none⟩ d6).setCell ⟨g, 7, none⟩ d7).setCell ⟨g, 8, none⟩ d8).setCell ⟨g, 9, none⟩ d9).setCell ⟨g, 10, none⟩ d10).setCell ⟨g, 11, none⟩ d11)
theorem set12_box {w : World} {g : Nat} {c0 c1 c2 c3 c4 c5 c6 c7 c8 c9 c10 c11 : Value} (h : M12 w g c0 c1 c2 c3 c4 c5 c6 c7 c8 c9 c10 c11) (d0 d1 d2 d3 d4 d5 d6 d7 d8 d9 d10 d11 : Value) : M12 (set12 w g d0 d1 d2 d3 d4 d5 d6 d7 d8 d9 d10 d11) g d0 d1 d2 d3 d4 d5 d6 d7 d8 d9 d10 d11 := ((((((((((((h.set0 d0).set1 d1).set2 d2).set3 d3).set4 d4).set5 d5).set6 d6).set7 d7).set8 d8).set9 d9).set10 d10).set11 d11)
theorem set12_heap (w : World) (g : Nat) (d0 d1 d2 d3 d4 d5 d6 d7 d8 d9 d10 d11 : Value) (b : Nat) (h : b ≠ g) : (set12 w g d0 d1 d2 d3 d4 d5 d6 d7 d8 d9 d10 d11).heap[b]? = w.heap[b]? := by
  unfold set12
  rw [Below.heap_setCell _ _ _ _ h, Below.heap_setCell _ _ _ _ h, Below.heap_setCell _ _ _ _ h, Below.heap_setCell _ _ _ _ h, Below.heap_setCell _ _ _ _ h, Below.heap_setCell _ _ _ _ h, Below.heap_setCell _ _ _ _ h, Below.heap_setCell _ _ _ _ h, Below.heap_setCell _ _ _ _ h, Below.heap_setCell _ _ _ _ h, Below.heap_setCell _ _ _ _ h, Below.heap_setCell _ _ _ _ h]
theorem set12_kept {bs : List Nat} {a w : World} (h : Kept bs a w) {g : Nat} (hg : a.heap.size ≤ g) (d0 d1 d2 d3 d4 d5 d6 d7 d8 d9 d10 d11 : Value) : Kept bs a (set12 w g d0 d1 d2 d3 d4 d5 d6 d7 d8 d9 d10 d11) := by
  have step : ∀ {w : World} (i : Nat) (u : Value), Kept bs a w → Kept bs a (w.setCell ⟨g, i, none⟩ u) := fun i u h => h.grown (set_grownW _ g i u) (fun k e => by cases e; exact .inr hg)
  unfold set12
  exact step 11 _ (step 10 _ (step 9 _ (step 8 _ (step 7 _ (step 6 _ (step 5 _ (step 4 _ (step 3 _ (step 2 _ (step 1 _ (step 0 _ h)))))))))))
theorem load_me {w : World} {g : Nat} {c0 c1 c2 c3 c4 c5 c6 c7 c8 c9 c10 c11 : Value} (h : M12 w g c0 c1 c2 c3 c4 c5 c6 c7 c8 c9 c10 c11) : (∀ {P : Prop}, (w.cell? ⟨g, 0, none⟩ = some c0 → w.cell? ⟨g, 1, none⟩ = some c1 → w.cell? ⟨g, 2, none⟩ = some c2 → w.cell? ⟨g, 3, none⟩ = some c3 → w.cell? ⟨g, 4, none⟩ = some c4 → w.cell? ⟨g, 5, none⟩ = some c5 → w.cell? ⟨g, 6, none⟩ = some c6 → w.cell? ⟨g, 7, none⟩ = some c7 → w.cell? ⟨g, 8, none⟩ = some c8 → w.cell? ⟨g, 9, none⟩ = some c9 → w.cell? ⟨g, 10, none⟩ = some c10 → w.cell? ⟨g, 11, none⟩ = some c11 → P) → P) := by
  unfold M12 at h
  intro P hp
  refine hp ?_ ?_ ?_ ?_ ?_ ?_ ?_ ?_ ?_ ?_ ?_ ?_
  all_goals (rw [cell_of_row w _ _ _ _ _ h]; rfl)
theorem res_me {fn : Func} {i j : Tmp} {tmps : Array Value} {g : Nat} {c c0 c1 c2 c3 c4 c5 c6 c7 c8 c9 c10 c11 : Value} {w : World} (hr : fn.results = #[.cell i 31, .tmp j]) (hi : tmps.getD i undef = .pointer (some ⟨g, 0, none⟩)) (hj : tmps.getD j undef = c)
    (h : M12 w g c0 c1 c2 c3 c4 c5 c6 c7 c8 c9 c10 c11) : (results fn tmps).run Tryz.prog w = .ok (.tuple #[.agg #[c0, c1, c2, c3, c4, c5, c6, c7, c8, c9, c10, c11], c]) w := by
  refine load_me h fun h0 h1 h2 h3 h4 h5 h6 h7 h8 h9 h10 h11 => ?_
  clear h
  unfold results
  rw [hr]
  rw [Array.getD_eq_getD_getElem?] at hi hj
  simp [go_sem, hi, hj, *]
theorem me_12 {w : World} {g : Nat} {m : Me} {a : Option Addr} {cap : Nat} (h : MeAt w g m a cap) : M12 w g (.int .i64 m.id) (.string m.name) (.string m.typ) (.string m.ex) (.string m.key) (.string m.text) (.int .i64 m.code) (.int .i64 m.count) (.int .u64 m.tag) (.bool m.flag) (.bool m.back) (.slice a m.args.length cap) := h
theorem CrO.stay {B : Nat} {w w' : World} {g : Nat} {lim last : Int} {l : List Int} {v : Value} (h : Cr.CrO B w g lim last l v) (h1 : w'.heap[g]? = w.heap[g]?) (h2 : ∀ j, v.ownBlock = some j → w'.heap[j]? = w.heap[j]?) : Cr.CrO B w' g lim last l v :=
  ⟨h.lo, h1.trans h.bx, h.own.stay h2, h.sm⟩
theorem cr_ch {B : Nat} {w w' : World} {k g : Nat} {lim last : Int} {l : List Int} {v : Value} {st : Int} {x b q c p : Value} {cf tx : Bool} (h1 : ChB w g st x b q c p cf tx) (h2 : Cr.CrO B w k lim last l v) (hk : Kept (wrt k v) w w') : ChB w' g st x b q c p cf tx :=
  hk.box h1 fun hm => by
    rcases mem_wrt.1 hm with rfl | h
    · have h2 := h2.bx
      unfold ChB at h1
      rw [h1] at h2
      injection h2 with h2
      injection h2 with _ h2
      exact absurd h2 (by decide)
    · exact h2.own.apart h1 (by decide) h
theorem cr_m12 {B : Nat} {w w' : World} {k g : Nat} {lim last : Int} {l : List Int} {v : Value} {c0 c1 c2 c3 c4 c5 c6 c7 c8 c9 c10 c11 : Value} (h1 : M12 w g c0 c1 c2 c3 c4 c5 c6 c7 c8 c9 c10 c11) (h2 : Cr.CrO B w k lim last l v) (hk : Kept (wrt k v) w w') : M12 w' g c0 c1 c2 c3 c4 c5 c6 c7 c8 c9 c10 c11 :=
  hk.box h1 fun hm => by
    rcases mem_wrt.1 hm with rfl | h
    · have h2 := h2.bx
      unfold M12 at h1
      rw [h1] at h2
      injection h2 with h2
      injection h2 with _ h2
      exact absurd h2 (by decide)
    · exact h2.own.apart h1 (by decide) h
theorem m12_8 {w : World} {g : Nat} {c0 c1 c2 c3 c4 c5 c6 c7 c8 c9 c10 c11 : Value} (h : M12 w g c0 c1 c2 c3 c4 c5 c6 c7 c8 c9 c10 c11) : w.cell? ⟨g, 8, none⟩ = some c8 := by
  unfold M12 at h
  rw [cell_of_row w _ _ _ _ _ h]; rfl

set_option maxRecDepth 100000 in
set_option maxHeartbeats 8000000 in
theorem give_none (g : Nat) (x b q : Value) (a : Option Addr) (n cap : Nat) (lc : List (List UInt8)) (hn : n = lc.length) (p : Value) (cf tx : Bool) (kk : Nat) (hk : kk ≤ 65535) (t : List UInt8) (ht : t.length ≤ 255) (w : World) (hin : ¬ t ∈ lc) (h : ChB w g 1 x b q (.slice a n cap) p cf tx) (hc : StAt w a cap lc) :
    Calls Tryz.prog 14 #[.pointer (some ⟨g, 0, none⟩), .agg (meC (delM t kk) none 0)] w fun e w' => e = .returned (.tuple #[.agg #[.int .i64 0, .string ⟨#[]⟩, .string ⟨#[]⟩, .string ⟨#[]⟩, .string ⟨#[]⟩, .string ⟨#[]⟩, .int .i64 0, .int .i64 0, .int .u64 0, .bool false, .bool false, .slice none 0 0], .int .i64 3]) ∧ Below w.heap.size w w' := by
  have hx := two_box (w := w) (.cells (meC (delM t kk) none 0) 31) (.cells #[.int .i64 0, .string ⟨#[]⟩, .string ⟨#[]⟩, .string ⟨#[]⟩, .string ⟨#[]⟩, .string ⟨#[]⟩, .int .i64 0, .int .i64 0, .int .u64 0, .bool false, .bool false, .slice none 0 0] 31)
  have HWF := Lib.hid (delM_wf t kk ht hk)
  have HMAY := Lib.hid (delM_may t kk ht hk)
  have HC0 := Lib.hid h
  have HGL := Lib.hid h.lt
  have HST := Lib.hid hc
  have HIN := Lib.hid (decide_eq_false hin)
  have HN := Lib.hid hn
  obtain ⟨mc, hmc⟩ : ∃ mc, mc = meC (delM t kk) none 0 := ⟨_, rfl⟩
  rw [← hmc] at hx ⊢
  have HMC := Lib.hid hmc
  clear hmc h hk hc hin hn ht 
  go_enter Tryz.func14, Tryz.ntmps14
  go_upto_region 1 with fail
  generalize (w.alloc (.cells mc 31)).alloc (.cells #[.int .i64 0, .string ⟨#[]⟩, .string ⟨#[]⟩, .string ⟨#[]⟩, .string ⟨#[]⟩, .string ⟨#[]⟩, .int .i64 0, .int .i64 0, .int .u64 0, .bool false, .bool false, .slice none 0 0] 31) = W2 at hx ⊢
  obtain ⟨hx1, hx2, hb2, hs2⟩ := hx
  rw [HMC.out] at hx1
  have hat2 : M12 W2 w.heap.size (.int .i64 6060) (.string ⟨#[]⟩) (.string ⟨#[]⟩) (.string ⟨#[]⟩) (.string ⟨#[]⟩) (.string ⟨t.toArray⟩) (.int .i64 0) (.int .i64 0) (.int .u64 kk) (.bool false) (.bool false) (.slice none 0 0) := hx1
  have hz2 : M12 W2 (w.heap.size + 1) (.int .i64 0) (.string ⟨#[]⟩) (.string ⟨#[]⟩) (.string ⟨#[]⟩) (.string ⟨#[]⟩) (.string ⟨#[]⟩) (.int .i64 0) (.int .i64 0) (.int .u64 0) (.bool false) (.bool false) (.slice none 0 0) := hx2
  have hc2 : ChB W2 g _ _ _ _ _ _ _ _ := (hb2.block g HGL.out).trans HC0.out
  have HAT2 := Lib.hid hat2
  have HZ2 := Lib.hid hz2
  have HC2 := Lib.hid hc2
  have HB2 := Lib.hid hb2
  have HS2 := Lib.hid hs2
  clear hx1 hx2 hb2 hs2 hat2 hz2 hc2
  refine load_me HAT2.out fun c0 c1 c2 c3 c4 c5 c6 c7 c8 c9 c10 c11 => ?_
  go_upto_region 5 with (go_at_call 17; refine (mayM_any (m := (delM t kk)) (a := none) (cap := 0) (tb_nil _) HWF.out).mono ?_; rintro e w3 ⟨r, hr, rfl, hb3⟩; obtain rfl : r = true := hr.2 HMAY.out; have HB3 := Lib.hid hb3; clear hr hb3)
  clear c0 c1 c2 c3 c4 c5 c6 c7 c8 c9 c10 c11
  have HW3 := Lib.hid (HB2.out.trans (HB3.out.mono HB2.out.size))
  have HAT3 : Hid (M12 w3 w.heap.size _ _ _ _ _ _ _ _ _ _ _ _) := Lib.hid (box_bl HAT2.out HB3.out)
  have HZ3 : Hid (M12 w3 (w.heap.size + 1) _ _ _ _ _ _ _ _ _ _ _ _) := Lib.hid (box_bl HZ2.out HB3.out)
  have hc3 := HC2.out.below HB3.out
  have HC3 := Lib.hid hc3
  obtain ⟨⟨d0, d1, d2, d3, d4, d5, d6, d7⟩, -⟩ := hc3.cells
  clear hc3
  refine load_me HAT3.out fun c0 c1 c2 c3 c4 c5 c6 c7 c8 c9 c10 c11 => ?_
  have zm : w.heap.size < w3.heap.size := (box_lt HAT3.out).1
  have hcon := fun (nq : Nat) => contains_any a cap n lc t (w3.drewN nq) HN.out (HST.out.below (Below.drewN HW3.out nq))
  rw [HIN.out] at hcon
  have HCON := Lib.hid hcon
  clear hcon
  go_upto_region 7 with fail
  go_quiet ((go_at_call 22; exact Calls.quiet_of_same ((HCON.out _).mono fun e w' h => ⟨h.1, h.2.symm⟩)))
  generalize hw4 : w3.drewN nq = w4
  have hb4 : Below w3.heap.size w3 w4 := by rw [← hw4]; exact Below.drewN (Below.refl _ _) _
  have HW4 := Lib.hid (HW3.out.trans (hb4.mono HW3.out.size))
  have HAT4 : Hid (M12 w4 w.heap.size _ _ _ _ _ _ _ _ _ _ _ _) := Lib.hid (box_bl HAT3.out hb4)
  have HZ4 : Hid (M12 w4 (w.heap.size + 1) _ _ _ _ _ _ _ _ _ _ _ _) := Lib.hid (box_bl HZ3.out hb4)
  have HC4 := Lib.hid (HC3.out.below hb4)
  clear hw4 hb4 c0 c1 c2 c3 c4 c5 c6 c7 c8 c9 c10 c11 d0 d1 d2 d3 d4 d5 d6 d7
  refine load_me HAT4.out fun c0 c1 c2 c3 c4 c5 c6 c7 c8 c9 c10 c11 => ?_
  refine load_me HZ4.out fun z0 z1 z2 z3 z4 z5 z6 z7 z8 z9 z10 z11 => ?_
  have hfz : ∀ i, w4.frozen? ⟨w.heap.size + 1, i, none⟩ = false := fun i => by have h := HZ4.out; unfold M12 at h; simp [World.frozen?, h]
  have f0 := hfz 0; have f1 := hfz 1; have f2 := hfz 2; have f3 := hfz 3; have f4 := hfz 4; have f5 := hfz 5; have f6 := hfz 6; have f7 := hfz 7; have f8 := hfz 8; have f9 := hfz 9; have f10 := hfz 10; have f11 := hfz 11
  clear hfz
  go_wp2_with fail
  have hset := set12_box HZ4.out (.int .i64 0) (.string ⟨#[]⟩) (.string ⟨#[]⟩) (.string ⟨#[]⟩) (.string ⟨#[]⟩) (.string ⟨#[]⟩) (.int .i64 0) (.int .i64 0) (.int .u64 0) (.bool false) (.bool false) (.slice none 0 0)
  have hkep := set12_kept (Kept.of_below (bs := []) HW4.out) (g := w.heap.size + 1) (by omega) (.int .i64 0) (.string ⟨#[]⟩) (.string ⟨#[]⟩) (.string ⟨#[]⟩) (.string ⟨#[]⟩) (.string ⟨#[]⟩) (.int .i64 0) (.int .i64 0) (.int .u64 0) (.bool false) (.bool false) (.slice none 0 0)
  have hhea := set12_heap w4 (w.heap.size + 1) (.int .i64 0) (.string ⟨#[]⟩) (.string ⟨#[]⟩) (.string ⟨#[]⟩) (.string ⟨#[]⟩) (.string ⟨#[]⟩) (.int .i64 0) (.int .i64 0) (.int .u64 0) (.bool false) (.bool false) (.slice none 0 0)
  unfold set12 at hset hkep hhea
  generalize ((((((((((((w4.setCell ⟨w.heap.size + 1, 0, none⟩ (.int .i64 0)).setCell ⟨w.heap.size + 1, 1, none⟩ (.string ⟨#[]⟩)).setCell ⟨w.heap.size + 1, 2, none⟩ (.string ⟨#[]⟩)).setCell ⟨w.heap.size + 1, 3, none⟩ (.string ⟨#[]⟩)).setCell ⟨w.heap.size + 1, 4, none⟩ (.string ⟨#[]⟩)).setCell ⟨w.heap.size + 1, 5, none⟩ (.string ⟨#[]⟩)).setCell ⟨w.heap.size + 1, 6, none⟩ (.int .i64 0)).setCell ⟨w.heap.size + 1, 7, none⟩ (.int .i64 0)).setCell ⟨w.heap.size + 1, 8, none⟩ (.int .u64 0)).setCell ⟨w.heap.size + 1, 9, none⟩ (.bool false)).setCell ⟨w.heap.size + 1, 10, none⟩ (.bool false)).setCell ⟨w.heap.size + 1, 11, none⟩ (.slice none 0 0)) = W9 at hset hkep hhea ⊢
  refine bodyPost_ret (v := .tuple #[.agg #[.int .i64 0, .string ⟨#[]⟩, .string ⟨#[]⟩, .string ⟨#[]⟩, .string ⟨#[]⟩, .string ⟨#[]⟩, .int .i64 0, .int .i64 0, .int .u64 0, .bool false, .bool false, .slice none 0 0], .int .i64 3]) (res_me (i := 4) (j := 5) (g := w.heap.size + 1) Tryz.results14 rfl rfl hset) rfl ?_
  exact ⟨rfl, hkep.below (Nat.le_refl _) (by simp)⟩

set_option maxRecDepth 100000 in
set_option maxHeartbeats 8000000 in
theorem give_ok (g : Nat) (x b q : Value) (a : Option Addr) (n cap : Nat) (lc : List (List UInt8)) (hn : n = lc.length) (cf tx : Bool) (kk : Nat) (hk : kk ≤ 65535) (t : List UInt8) (ht : t.length ≤ 255) (B k : Nat) (lim last : Int) (lt : List Int) (v : Value) (w : World) (hin : t ∈ lc) (h : ChB w g 1 x b q (.slice a n cap) (.pointer (some ⟨k, 0, none⟩)) cf tx) (hc : StAt w a cap lc) (hl : 0 ≤ lim ∧ lim ≤ 65535) (hlast : last < (kk : Int)) (hf : ¬ Cr.freeF lim lt.length = 0) (hsm : lt.length < 1000) (hB : B ≤ w.heap.size) (hcr : Cr.CrO B w k lim last lt v) :
    Calls Tryz.prog 14 #[.pointer (some ⟨g, 0, none⟩), .agg (meC (delM t kk) none 0)] w fun e w' => e = .returned (.tuple #[.agg #[.int .i64 6060, .string ⟨#[]⟩, .string ⟨#[]⟩, .string ⟨#[]⟩, .string ⟨#[]⟩, .string ⟨t.toArray⟩, .int .i64 0, .int .i64 0, .int .u64 kk, .bool false, .bool false, .slice none 0 0], .int .i64 0]) ∧ (∃ v', Cr.CrO B w' k lim kk (lt ++ [(kk : Int)]) v') ∧ Kept (wrt k v) w w' := by
  have hx := two_box (w := w) (.cells (meC (delM t kk) none 0) 31) (.cells #[.int .i64 0, .string ⟨#[]⟩, .string ⟨#[]⟩, .string ⟨#[]⟩, .string ⟨#[]⟩, .string ⟨#[]⟩, .int .i64 0, .int .i64 0, .int .u64 0, .bool false, .bool false, .slice none 0 0] 31)
  have HWF := Lib.hid (delM_wf t kk ht hk)
  have HMAY := Lib.hid (delM_may t kk ht hk)
  have HC0 := Lib.hid h
  have HGL := Lib.hid h.lt
  have HST := Lib.hid hc
  have HIN := Lib.hid (decide_eq_true hin)
  have HN := Lib.hid hn
  have HCR := Lib.hid hcr
  have HTK := Lib.hid (And.intro hl (And.intro hlast hf))
  have HTL := Lib.hid (And.intro hsm hB)
  obtain ⟨mc, hmc⟩ : ∃ mc, mc = meC (delM t kk) none 0 := ⟨_, rfl⟩
  rw [← hmc] at hx ⊢
  have HMC := Lib.hid hmc
  clear hmc h hk hc hin hn ht hcr hl hlast hf hsm hB
  go_enter Tryz.func14, Tryz.ntmps14
  go_upto_region 1 with fail
  generalize (w.alloc (.cells mc 31)).alloc (.cells #[.int .i64 0, .string ⟨#[]⟩, .string ⟨#[]⟩, .string ⟨#[]⟩, .string ⟨#[]⟩, .string ⟨#[]⟩, .int .i64 0, .int .i64 0, .int .u64 0, .bool false, .bool false, .slice none 0 0] 31) = W2 at hx ⊢
  obtain ⟨hx1, hx2, hb2, hs2⟩ := hx
  rw [HMC.out] at hx1
  have hat2 : M12 W2 w.heap.size (.int .i64 6060) (.string ⟨#[]⟩) (.string ⟨#[]⟩) (.string ⟨#[]⟩) (.string ⟨#[]⟩) (.string ⟨t.toArray⟩) (.int .i64 0) (.int .i64 0) (.int .u64 kk) (.bool false) (.bool false) (.slice none 0 0) := hx1
  have hz2 : M12 W2 (w.heap.size + 1) (.int .i64 0) (.string ⟨#[]⟩) (.string ⟨#[]⟩) (.string ⟨#[]⟩) (.string ⟨#[]⟩) (.string ⟨#[]⟩) (.int .i64 0) (.int .i64 0) (.int .u64 0) (.bool false) (.bool false) (.slice none 0 0) := hx2
  have hc2 : ChB W2 g _ _ _ _ _ _ _ _ := (hb2.block g HGL.out).trans HC0.out
  have HAT2 := Lib.hid hat2
  have HZ2 := Lib.hid hz2
  have HC2 := Lib.hid hc2
  have HB2 := Lib.hid hb2
  have HS2 := Lib.hid hs2
  clear hx1 hx2 hb2 hs2 hat2 hz2 hc2
  refine load_me HAT2.out fun c0 c1 c2 c3 c4 c5 c6 c7 c8 c9 c10 c11 => ?_
  go_upto_region 5 with (go_at_call 17; refine (mayM_any (m := (delM t kk)) (a := none) (cap := 0) (tb_nil _) HWF.out).mono ?_; rintro e w3 ⟨r, hr, rfl, hb3⟩; obtain rfl : r = true := hr.2 HMAY.out; have HB3 := Lib.hid hb3; clear hr hb3)
  clear c0 c1 c2 c3 c4 c5 c6 c7 c8 c9 c10 c11
  have HW3 := Lib.hid (HB2.out.trans (HB3.out.mono HB2.out.size))
  have HAT3 : Hid (M12 w3 w.heap.size _ _ _ _ _ _ _ _ _ _ _ _) := Lib.hid (box_bl HAT2.out HB3.out)
  have HZ3 : Hid (M12 w3 (w.heap.size + 1) _ _ _ _ _ _ _ _ _ _ _ _) := Lib.hid (box_bl HZ2.out HB3.out)
  have hc3 := HC2.out.below HB3.out
  have HC3 := Lib.hid hc3
  obtain ⟨⟨d0, d1, d2, d3, d4, d5, d6, d7⟩, -⟩ := hc3.cells
  clear hc3
  refine load_me HAT3.out fun c0 c1 c2 c3 c4 c5 c6 c7 c8 c9 c10 c11 => ?_
  have zm : w.heap.size < w3.heap.size := (box_lt HAT3.out).1
  have hcon := fun (nq : Nat) => contains_any a cap n lc t (w3.drewN nq) HN.out (HST.out.below (Below.drewN HW3.out nq))
  rw [HIN.out] at hcon
  have HCON := Lib.hid hcon
  clear hcon
  go_upto_region 7 with fail
  go_quiet ((go_at_call 22; exact Calls.quiet_of_same ((HCON.out _).mono fun e w' h => ⟨h.1, h.2.symm⟩)))
  generalize hw4 : w3.drewN nq = w4
  have hb4 : Below w3.heap.size w3 w4 := by rw [← hw4]; exact Below.drewN (Below.refl _ _) _
  have HW4 := Lib.hid (HW3.out.trans (hb4.mono HW3.out.size))
  have HAT4 : Hid (M12 w4 w.heap.size _ _ _ _ _ _ _ _ _ _ _ _) := Lib.hid (box_bl HAT3.out hb4)
  have HZ4 : Hid (M12 w4 (w.heap.size + 1) _ _ _ _ _ _ _ _ _ _ _ _) := Lib.hid (box_bl HZ3.out hb4)
  have HC4 := Lib.hid (HC3.out.below hb4)
  clear hw4 hb4 c0 c1 c2 c3 c4 c5 c6 c7 c8 c9 c10 c11 d0 d1 d2 d3 d4 d5 d6 d7
  refine load_me HAT4.out fun c0 c1 c2 c3 c4 c5 c6 c7 c8 c9 c10 c11 => ?_
  refine load_me HZ4.out fun z0 z1 z2 z3 z4 z5 z6 z7 z8 z9 z10 z11 => ?_
  have hfz : ∀ i, w4.frozen? ⟨w.heap.size + 1, i, none⟩ = false := fun i => by have h := HZ4.out; unfold M12 at h; simp [World.frozen?, h]
  have f0 := hfz 0; have f1 := hfz 1; have f2 := hfz 2; have f3 := hfz 3; have f4 := hfz 4; have f5 := hfz 5; have f6 := hfz 6; have f7 := hfz 7; have f8 := hfz 8; have f9 := hfz 9; have f10 := hfz 10; have f11 := hfz 11
  clear hfz
  go_upto_region 9 with fail
  obtain ⟨⟨-, -, -, -, -, d5, -⟩, -⟩ := HC4.out.cells
  have hdr : Below w4.heap.size w4 w4.drew := (Below.refl _ _).drew
  have hcr4 := (HCR.out.below HW4.out).below hdr
  have hS0 : w4.drew.cell? ⟨g, 5, none⟩ = some (.pointer (some ⟨k, 0, none⟩)) ∧ w4.drew.cell? ⟨w.heap.size, 8, none⟩ = some (.int .u64 kk) := ⟨d5, c8⟩
  have HDW := Lib.hid hdr
  have zk : k < w.heap.size := (box_lt HCR.out.bx).1
  have HTA := Lib.hid (Cr.takeO_any B k lim last kk lt v w4.drew HTK.out.1 HTK.out.2.1 HTK.out.2.2 HTL.out.1 (Nat.le_trans HTL.out.2 (Nat.le_trans HW4.out.size hdr.size)) hcr4)
  have HCR4 := Lib.hid hcr4
  clear hcr4 hdr
  go_region_held3 (fun wx => wx.cell? ⟨g, 5, none⟩ = some (.pointer (some ⟨k, 0, none⟩)) ∧ wx.cell? ⟨w.heap.size, 8, none⟩ = some (.int .u64 kk))
    (first | exact hS0 | exact HS5.out)
    (first | (go_at_call 23; refine HTA.out.mono ?_; rintro e w5 ⟨rfl, v5, hcr5, -, hk5⟩; have HCR5 := Lib.hid hcr5; have HK5 := Lib.hid hk5; have HC5 := Lib.hid (cr_ch (HC4.out.below HDW.out) HCR4.out hk5); have HAT5 := Lib.hid (cr_m12 (box_bl HAT4.out HDW.out) HCR4.out hk5); have HZ5 := Lib.hid (cr_m12 (box_bl HZ4.out HDW.out) HCR4.out hk5); have HS5 : Hid (w5.cell? ⟨g, 5, none⟩ = some (.pointer (some ⟨k, 0, none⟩)) ∧ w5.cell? ⟨w.heap.size, 8, none⟩ = some (.int .u64 kk)) := Lib.hid ⟨HC5.out.cells.1.2.2.2.2.2.1, m12_8 HAT5.out⟩; clear hcr5 hk5; dsimp only) | fail)
  rename_i hHeld
  clear hHeld hS0 c0 c1 c2 c3 c4 c5 c6 c7 c8 c9 c10 c11 z0 z1 z2 z3 z4 z5 z6 z7 z8 z9 z10 z11 f0 f1 f2 f3 f4 f5 f6 f7 f8 f9 f10 f11 d5
  refine load_me HAT5.out fun c0 c1 c2 c3 c4 c5 c6 c7 c8 c9 c10 c11 => ?_
  refine load_me HZ5.out fun z0 z1 z2 z3 z4 z5 z6 z7 z8 z9 z10 z11 => ?_
  have hfz : ∀ i, w5.frozen? ⟨w.heap.size + 1, i, none⟩ = false := fun i => by have h := HZ5.out; unfold M12 at h; simp [World.frozen?, h]
  have hfa : w5.frozen? ⟨w.heap.size, 11, none⟩ = false := by have h := HAT5.out; unfold M12 at h; simp [World.frozen?, h]
  go_upto_region 13 with fail
  have hat6 := HAT5.out.set11 (.slice none 0 0)
  have hz6 : M12 (w5.setCell ⟨w.heap.size, 11, none⟩ (.slice none 0 0)) (w.heap.size + 1) _ _ _ _ _ _ _ _ _ _ _ _ := (Below.heap_setCell w5 ⟨w.heap.size, 11, none⟩ _ _ (by show w.heap.size + 1 ≠ w.heap.size; omega)).trans HZ5.out
  have hh6 : ∀ b, b ≠ w.heap.size → (w5.setCell ⟨w.heap.size, 11, none⟩ (.slice none 0 0)).heap[b]? = w5.heap[b]? := fun b hb => Below.heap_setCell w5 ⟨w.heap.size, 11, none⟩ _ b hb
  have hk6 : Kept (wrt k v) w (w5.setCell ⟨w.heap.size, 11, none⟩ (.slice none 0 0)) := (((Kept.of_below (bs := wrt k v) (HW4.out.trans (HDW.out.mono HW4.out.size))).trans HK5.out fun x hx => .inl hx)).grown (set_grownW w5 w.heap.size 11 (.slice none 0 0)) (fun k e => by cases e; exact .inr (Nat.le_refl _))
  generalize w5.setCell ⟨w.heap.size, 11, none⟩ (.slice none 0 0) = w6 at hat6 hz6 hh6 hk6 ⊢
  have HAT6 := Lib.hid hat6
  have HZ6 := Lib.hid hz6
  have HH6 := Lib.hid hh6
  have HK6 := Lib.hid hk6
  clear hat6 hz6 hh6 hk6 hfz hfa c0 c1 c2 c3 c4 c5 c6 c7 c8 c9 c10 c11 z0 z1 z2 z3 z4 z5 z6 z7 z8 z9 z10 z11
  refine load_me HAT6.out fun c0 c1 c2 c3 c4 c5 c6 c7 c8 c9 c10 c11 => ?_
  refine load_me HZ6.out fun z0 z1 z2 z3 z4 z5 z6 z7 z8 z9 z10 z11 => ?_
  have hfz : ∀ i, w6.frozen? ⟨w.heap.size + 1, i, none⟩ = false := fun i => by have h := HZ6.out; unfold M12 at h; simp [World.frozen?, h]
  have f0 := hfz 0; have f1 := hfz 1; have f2 := hfz 2; have f3 := hfz 3; have f4 := hfz 4; have f5 := hfz 5; have f6 := hfz 6; have f7 := hfz 7; have f8 := hfz 8; have f9 := hfz 9; have f10 := hfz 10; have f11 := hfz 11
  clear hfz
  go_wp2_with fail
  have hset := set12_box HZ6.out (.int .i64 6060) (.string ⟨#[]⟩) (.string ⟨#[]⟩) (.string ⟨#[]⟩) (.string ⟨#[]⟩) (.string ⟨t.toArray⟩) (.int .i64 0) (.int .i64 0) (.int .u64 kk) (.bool false) (.bool false) (.slice none 0 0)
  have hkep := set12_kept HK6.out (g := w.heap.size + 1) (by omega) (.int .i64 6060) (.string ⟨#[]⟩) (.string ⟨#[]⟩) (.string ⟨#[]⟩) (.string ⟨#[]⟩) (.string ⟨t.toArray⟩) (.int .i64 0) (.int .i64 0) (.int .u64 kk) (.bool false) (.bool false) (.slice none 0 0)
  have hhea := set12_heap w6 (w.heap.size + 1) (.int .i64 6060) (.string ⟨#[]⟩) (.string ⟨#[]⟩) (.string ⟨#[]⟩) (.string ⟨#[]⟩) (.string ⟨t.toArray⟩) (.int .i64 0) (.int .i64 0) (.int .u64 kk) (.bool false) (.bool false) (.slice none 0 0)
  unfold set12 at hset hkep hhea
  generalize ((((((((((((w6.setCell ⟨w.heap.size + 1, 0, none⟩ (.int .i64 6060)).setCell ⟨w.heap.size + 1, 1, none⟩ (.string ⟨#[]⟩)).setCell ⟨w.heap.size + 1, 2, none⟩ (.string ⟨#[]⟩)).setCell ⟨w.heap.size + 1, 3, none⟩ (.string ⟨#[]⟩)).setCell ⟨w.heap.size + 1, 4, none⟩ (.string ⟨#[]⟩)).setCell ⟨w.heap.size + 1, 5, none⟩ (.string ⟨t.toArray⟩)).setCell ⟨w.heap.size + 1, 6, none⟩ (.int .i64 0)).setCell ⟨w.heap.size + 1, 7, none⟩ (.int .i64 0)).setCell ⟨w.heap.size + 1, 8, none⟩ (.int .u64 kk)).setCell ⟨w.heap.size + 1, 9, none⟩ (.bool false)).setCell ⟨w.heap.size + 1, 10, none⟩ (.bool false)).setCell ⟨w.heap.size + 1, 11, none⟩ (.slice none 0 0)) = W9 at hset hkep hhea ⊢
  refine bodyPost_ret (v := .tuple #[.agg #[.int .i64 6060, .string ⟨#[]⟩, .string ⟨#[]⟩, .string ⟨#[]⟩, .string ⟨#[]⟩, .string ⟨t.toArray⟩, .int .i64 0, .int .i64 0, .int .u64 kk, .bool false, .bool false, .slice none 0 0], .int .i64 0]) (res_me (i := 4) (j := 5) (g := w.heap.size + 1) Tryz.results14 rfl rfl hset) rfl ?_
  have hst : ∀ j, j ≠ w.heap.size → j ≠ w.heap.size + 1 → W9.heap[j]? = w5.heap[j]? := fun j h1 h2 => (hhea j h2).trans (HH6.out j h1)
  refine ⟨rfl, ⟨v5, CrO.stay HCR5.out (hst k (by omega) (by omega)) fun j hj => hst j ?_ ?_⟩, hkep⟩
  · rintro rfl
    exact HCR5.out.own.apart HAT5.out (by decide) hj
  · rintro rfl
    exact HCR5.out.own.apart HZ5.out (by decide) hj

set_option maxRecDepth 100000 in
set_option maxHeartbeats 8000000 in
theorem give_full (g : Nat) (x b q : Value) (a : Option Addr) (n cap : Nat) (lc : List (List UInt8)) (hn : n = lc.length) (cf tx : Bool) (kk : Nat) (hk : kk ≤ 65535) (t : List UInt8) (ht : t.length ≤ 255) (B k : Nat) (lim last : Int) (lt : List Int) (v : Value) (w : World) (hin : t ∈ lc) (h : ChB w g 1 x b q (.slice a n cap) (.pointer (some ⟨k, 0, none⟩)) cf tx) (hc : StAt w a cap lc) (hl : 0 ≤ lim ∧ lim ≤ 65535) (hlast : last < (kk : Int)) (hf : Cr.freeF lim lt.length = 0) (hcr : Cr.CrO B w k lim last lt v) :
    Calls Tryz.prog 14 #[.pointer (some ⟨g, 0, none⟩), .agg (meC (delM t kk) none 0)] w fun e w' => e = .returned (.tuple #[.agg #[.int .i64 0, .string ⟨#[]⟩, .string ⟨#[]⟩, .string ⟨#[]⟩, .string ⟨#[]⟩, .string ⟨#[]⟩, .int .i64 0, .int .i64 0, .int .u64 0, .bool false, .bool false, .slice none 0 0], .int .i64 4]) ∧ Below w.heap.size w w' := by
  have hx := two_box (w := w) (.cells (meC (delM t kk) none 0) 31) (.cells #[.int .i64 0, .string ⟨#[]⟩, .string ⟨#[]⟩, .string ⟨#[]⟩, .string ⟨#[]⟩, .string ⟨#[]⟩, .int .i64 0, .int .i64 0, .int .u64 0, .bool false, .bool false, .slice none 0 0] 31)
  have HWF := Lib.hid (delM_wf t kk ht hk)
  have HMAY := Lib.hid (delM_may t kk ht hk)
  have HC0 := Lib.hid h
  have HGL := Lib.hid h.lt
  have HST := Lib.hid hc
  have HIN := Lib.hid (decide_eq_true hin)
  have HN := Lib.hid hn
  have HCR := Lib.hid hcr
  have HTK := Lib.hid (And.intro hl (And.intro hlast hf))
  obtain ⟨mc, hmc⟩ : ∃ mc, mc = meC (delM t kk) none 0 := ⟨_, rfl⟩
  rw [← hmc] at hx ⊢
  have HMC := Lib.hid hmc
  clear hmc h hk hc hin hn ht hcr hl hlast hf 
  go_enter Tryz.func14, Tryz.ntmps14
  go_upto_region 1 with fail
  generalize (w.alloc (.cells mc 31)).alloc (.cells #[.int .i64 0, .string ⟨#[]⟩, .string ⟨#[]⟩, .string ⟨#[]⟩, .string ⟨#[]⟩, .string ⟨#[]⟩, .int .i64 0, .int .i64 0, .int .u64 0, .bool false, .bool false, .slice none 0 0] 31) = W2 at hx ⊢
  obtain ⟨hx1, hx2, hb2, hs2⟩ := hx
  rw [HMC.out] at hx1
  have hat2 : M12 W2 w.heap.size (.int .i64 6060) (.string ⟨#[]⟩) (.string ⟨#[]⟩) (.string ⟨#[]⟩) (.string ⟨#[]⟩) (.string ⟨t.toArray⟩) (.int .i64 0) (.int .i64 0) (.int .u64 kk) (.bool false) (.bool false) (.slice none 0 0) := hx1
  have hz2 : M12 W2 (w.heap.size + 1) (.int .i64 0) (.string ⟨#[]⟩) (.string ⟨#[]⟩) (.string ⟨#[]⟩) (.string ⟨#[]⟩) (.string ⟨#[]⟩) (.int .i64 0) (.int .i64 0) (.int .u64 0) (.bool false) (.bool false) (.slice none 0 0) := hx2
  have hc2 : ChB W2 g _ _ _ _ _ _ _ _ := (hb2.block g HGL.out).trans HC0.out
  have HAT2 := Lib.hid hat2
  have HZ2 := Lib.hid hz2
  have HC2 := Lib.hid hc2
  have HB2 := Lib.hid hb2
  have HS2 := Lib.hid hs2
  clear hx1 hx2 hb2 hs2 hat2 hz2 hc2
  refine load_me HAT2.out fun c0 c1 c2 c3 c4 c5 c6 c7 c8 c9 c10 c11 => ?_
  go_upto_region 5 with (go_at_call 17; refine (mayM_any (m := (delM t kk)) (a := none) (cap := 0) (tb_nil _) HWF.out).mono ?_; rintro e w3 ⟨r, hr, rfl, hb3⟩; obtain rfl : r = true := hr.2 HMAY.out; have HB3 := Lib.hid hb3; clear hr hb3)
  clear c0 c1 c2 c3 c4 c5 c6 c7 c8 c9 c10 c11
  have HW3 := Lib.hid (HB2.out.trans (HB3.out.mono HB2.out.size))
  have HAT3 : Hid (M12 w3 w.heap.size _ _ _ _ _ _ _ _ _ _ _ _) := Lib.hid (box_bl HAT2.out HB3.out)
  have HZ3 : Hid (M12 w3 (w.heap.size + 1) _ _ _ _ _ _ _ _ _ _ _ _) := Lib.hid (box_bl HZ2.out HB3.out)
  have hc3 := HC2.out.below HB3.out
  have HC3 := Lib.hid hc3
  obtain ⟨⟨d0, d1, d2, d3, d4, d5, d6, d7⟩, -⟩ := hc3.cells
  clear hc3
  refine load_me HAT3.out fun c0 c1 c2 c3 c4 c5 c6 c7 c8 c9 c10 c11 => ?_
  have zm : w.heap.size < w3.heap.size := (box_lt HAT3.out).1
  have hcon := fun (nq : Nat) => contains_any a cap n lc t (w3.drewN nq) HN.out (HST.out.below (Below.drewN HW3.out nq))
  rw [HIN.out] at hcon
  have HCON := Lib.hid hcon
  clear hcon
  go_upto_region 7 with fail
  go_quiet ((go_at_call 22; exact Calls.quiet_of_same ((HCON.out _).mono fun e w' h => ⟨h.1, h.2.symm⟩)))
  generalize hw4 : w3.drewN nq = w4
  have hb4 : Below w3.heap.size w3 w4 := by rw [← hw4]; exact Below.drewN (Below.refl _ _) _
  have HW4 := Lib.hid (HW3.out.trans (hb4.mono HW3.out.size))
  have HAT4 : Hid (M12 w4 w.heap.size _ _ _ _ _ _ _ _ _ _ _ _) := Lib.hid (box_bl HAT3.out hb4)
  have HZ4 : Hid (M12 w4 (w.heap.size + 1) _ _ _ _ _ _ _ _ _ _ _ _) := Lib.hid (box_bl HZ3.out hb4)
  have HC4 := Lib.hid (HC3.out.below hb4)
  clear hw4 hb4 c0 c1 c2 c3 c4 c5 c6 c7 c8 c9 c10 c11 d0 d1 d2 d3 d4 d5 d6 d7
  refine load_me HAT4.out fun c0 c1 c2 c3 c4 c5 c6 c7 c8 c9 c10 c11 => ?_
  refine load_me HZ4.out fun z0 z1 z2 z3 z4 z5 z6 z7 z8 z9 z10 z11 => ?_
  have hfz : ∀ i, w4.frozen? ⟨w.heap.size + 1, i, none⟩ = false := fun i => by have h := HZ4.out; unfold M12 at h; simp [World.frozen?, h]
  have f0 := hfz 0; have f1 := hfz 1; have f2 := hfz 2; have f3 := hfz 3; have f4 := hfz 4; have f5 := hfz 5; have f6 := hfz 6; have f7 := hfz 7; have f8 := hfz 8; have f9 := hfz 9; have f10 := hfz 10; have f11 := hfz 11
  clear hfz
  go_upto_region 9 with fail
  obtain ⟨⟨-, -, -, -, -, d5, -⟩, -⟩ := HC4.out.cells
  have hdr : Below w4.heap.size w4 w4.drew := (Below.refl _ _).drew
  have hcr4 := (HCR.out.below HW4.out).below hdr
  have hS0 : w4.drew.cell? ⟨g, 5, none⟩ = some (.pointer (some ⟨k, 0, none⟩)) ∧ w4.drew.cell? ⟨w.heap.size, 8, none⟩ = some (.int .u64 kk) := ⟨d5, c8⟩
  have HDW := Lib.hid hdr
  have zk : k < w.heap.size := (box_lt HCR.out.bx).1
  obtain ⟨va, vc, hv, hx4⟩ := hcr4.x
  have HTA := Lib.hid (Cr.take_full k lim last kk lt va vc w4.drew HTK.out.1 HTK.out.2.1 HTK.out.2.2 hx4)
  clear hcr4 hdr hx4 hv
  go_region_held3 (fun wx => wx.cell? ⟨g, 5, none⟩ = some (.pointer (some ⟨k, 0, none⟩)) ∧ wx.cell? ⟨w.heap.size, 8, none⟩ = some (.int .u64 kk))
    (first | exact hS0)
    (first | (go_at_call 23; refine HTA.out.mono ?_; rintro e w5 ⟨rfl, rfl⟩; dsimp only) | fail)
  rename_i hHeld
  clear hHeld hS0
  generalize hw5 : w4.drew = w5 at *
  have HW5 : Hid (Below w.heap.size w w5) := Lib.hid (HW4.out.trans (HDW.out.mono HW4.out.size))
  have HZ5 : Hid (M12 w5 (w.heap.size + 1) _ _ _ _ _ _ _ _ _ _ _ _) := Lib.hid (box_bl HZ4.out HDW.out)
  clear hw5 c0 c1 c2 c3 c4 c5 c6 c7 c8 c9 c10 c11 z0 z1 z2 z3 z4 z5 z6 z7 z8 z9 z10 z11 f0 f1 f2 f3 f4 f5 f6 f7 f8 f9 f10 f11 d5
  refine load_me HZ5.out fun z0 z1 z2 z3 z4 z5 z6 z7 z8 z9 z10 z11 => ?_
  have hfz : ∀ i, w5.frozen? ⟨w.heap.size + 1, i, none⟩ = false := fun i => by have h := HZ5.out; unfold M12 at h; simp [World.frozen?, h]
  have f0 := hfz 0; have f1 := hfz 1; have f2 := hfz 2; have f3 := hfz 3; have f4 := hfz 4; have f5 := hfz 5; have f6 := hfz 6; have f7 := hfz 7; have f8 := hfz 8; have f9 := hfz 9; have f10 := hfz 10; have f11 := hfz 11
  clear hfz
  go_wp2_with fail
  have hset := set12_box HZ5.out (.int .i64 0) (.string ⟨#[]⟩) (.string ⟨#[]⟩) (.string ⟨#[]⟩) (.string ⟨#[]⟩) (.string ⟨#[]⟩) (.int .i64 0) (.int .i64 0) (.int .u64 0) (.bool false) (.bool false) (.slice none 0 0)
  have hkep := set12_kept (Kept.of_below (bs := []) HW5.out) (g := w.heap.size + 1) (by omega) (.int .i64 0) (.string ⟨#[]⟩) (.string ⟨#[]⟩) (.string ⟨#[]⟩) (.string ⟨#[]⟩) (.string ⟨#[]⟩) (.int .i64 0) (.int .i64 0) (.int .u64 0) (.bool false) (.bool false) (.slice none 0 0)
  have hhea := set12_heap w5 (w.heap.size + 1) (.int .i64 0) (.string ⟨#[]⟩) (.string ⟨#[]⟩) (.string ⟨#[]⟩) (.string ⟨#[]⟩) (.string ⟨#[]⟩) (.int .i64 0) (.int .i64 0) (.int .u64 0) (.bool false) (.bool false) (.slice none 0 0)
  unfold set12 at hset hkep hhea
  generalize ((((((((((((w5.setCell ⟨w.heap.size + 1, 0, none⟩ (.int .i64 0)).setCell ⟨w.heap.size + 1, 1, none⟩ (.string ⟨#[]⟩)).setCell ⟨w.heap.size + 1, 2, none⟩ (.string ⟨#[]⟩)).setCell ⟨w.heap.size + 1, 3, none⟩ (.string ⟨#[]⟩)).setCell ⟨w.heap.size + 1, 4, none⟩ (.string ⟨#[]⟩)).setCell ⟨w.heap.size + 1, 5, none⟩ (.string ⟨#[]⟩)).setCell ⟨w.heap.size + 1, 6, none⟩ (.int .i64 0)).setCell ⟨w.heap.size + 1, 7, none⟩ (.int .i64 0)).setCell ⟨w.heap.size + 1, 8, none⟩ (.int .u64 0)).setCell ⟨w.heap.size + 1, 9, none⟩ (.bool false)).setCell ⟨w.heap.size + 1, 10, none⟩ (.bool false)).setCell ⟨w.heap.size + 1, 11, none⟩ (.slice none 0 0)) = W9 at hset hkep hhea ⊢
  refine bodyPost_ret (v := .tuple #[.agg #[.int .i64 0, .string ⟨#[]⟩, .string ⟨#[]⟩, .string ⟨#[]⟩, .string ⟨#[]⟩, .string ⟨#[]⟩, .int .i64 0, .int .i64 0, .int .u64 0, .bool false, .bool false, .slice none 0 0], .int .i64 4]) (res_me (i := 4) (j := 5) (g := w.heap.size + 1) Tryz.results14 rfl rfl hset) rfl ?_
  exact ⟨rfl, hkep.below (Nat.le_refl _) (by simp)⟩

set_option maxRecDepth 100000 in
set_option maxHeartbeats 8000000 in
theorem give_get (g : Nat) (x b q : Value) (a : Option Addr) (n cap : Nat) (lc : List (List UInt8)) (cf tx : Bool) (kk : Nat) (hk : kk ≤ 65535) (B k : Nat) (lim last : Int) (lt : List Int) (v : Value) (w : World) (h : ChB w g 1 x b q (.slice a n cap) (.pointer (some ⟨k, 0, none⟩)) cf tx) (hl : 0 ≤ lim ∧ lim ≤ 65535) (hlast : last < (kk : Int)) (hf : ¬ Cr.freeF lim lt.length = 0) (hsm : lt.length < 1000) (hB : B ≤ w.heap.size) (hcr : Cr.CrO B w k lim last lt v) :
    Calls Tryz.prog 14 #[.pointer (some ⟨g, 0, none⟩), .agg (meC (getM kk) none 0)] w fun e w' => e = .returned (.tuple #[.agg #[.int .i64 6071, .string ⟨#[]⟩, .string ⟨#[]⟩, .string ⟨#[]⟩, .string ⟨#[]⟩, .string ⟨#[]⟩, .int .i64 0, .int .i64 0, .int .u64 kk, .bool false, .bool false, .slice none 0 0], .int .i64 0]) ∧ (∃ v', Cr.CrO B w' k lim kk (lt ++ [(kk : Int)]) v') ∧ Kept (wrt k v) w w' := by
  have hx := two_box (w := w) (.cells (meC (getM kk) none 0) 31) (.cells #[.int .i64 0, .string ⟨#[]⟩, .string ⟨#[]⟩, .string ⟨#[]⟩, .string ⟨#[]⟩, .string ⟨#[]⟩, .int .i64 0, .int .i64 0, .int .u64 0, .bool false, .bool false, .slice none 0 0] 31)
  have HWF := Lib.hid (getM_wf kk hk)
  have HMAY := Lib.hid (getM_may kk hk)
  have HC0 := Lib.hid h
  have HGL := Lib.hid h.lt
  have HCR := Lib.hid hcr
  have HTK := Lib.hid (And.intro hl (And.intro hlast hf))
  have HTL := Lib.hid (And.intro hsm hB)
  obtain ⟨mc, hmc⟩ : ∃ mc, mc = meC (getM kk) none 0 := ⟨_, rfl⟩
  rw [← hmc] at hx ⊢
  have HMC := Lib.hid hmc
  clear hmc h hk hcr hl hlast hf hsm hB
  go_enter Tryz.func14, Tryz.ntmps14
  go_upto_region 1 with fail
  generalize (w.alloc (.cells mc 31)).alloc (.cells #[.int .i64 0, .string ⟨#[]⟩, .string ⟨#[]⟩, .string ⟨#[]⟩, .string ⟨#[]⟩, .string ⟨#[]⟩, .int .i64 0, .int .i64 0, .int .u64 0, .bool false, .bool false, .slice none 0 0] 31) = W2 at hx ⊢
  obtain ⟨hx1, hx2, hb2, hs2⟩ := hx
  rw [HMC.out] at hx1
  have hat2 : M12 W2 w.heap.size (.int .i64 6071) (.string ⟨#[]⟩) (.string ⟨#[]⟩) (.string ⟨#[]⟩) (.string ⟨#[]⟩) (.string ⟨#[]⟩) (.int .i64 0) (.int .i64 0) (.int .u64 kk) (.bool false) (.bool false) (.slice none 0 0) := hx1
  have hz2 : M12 W2 (w.heap.size + 1) (.int .i64 0) (.string ⟨#[]⟩) (.string ⟨#[]⟩) (.string ⟨#[]⟩) (.string ⟨#[]⟩) (.string ⟨#[]⟩) (.int .i64 0) (.int .i64 0) (.int .u64 0) (.bool false) (.bool false) (.slice none 0 0) := hx2
  have hc2 : ChB W2 g _ _ _ _ _ _ _ _ := (hb2.block g HGL.out).trans HC0.out
  have HAT2 := Lib.hid hat2
  have HZ2 := Lib.hid hz2
  have HC2 := Lib.hid hc2
  have HB2 := Lib.hid hb2
  have HS2 := Lib.hid hs2
  clear hx1 hx2 hb2 hs2 hat2 hz2 hc2
  refine load_me HAT2.out fun c0 c1 c2 c3 c4 c5 c6 c7 c8 c9 c10 c11 => ?_
  go_upto_region 5 with (go_at_call 17; refine (mayM_any (m := (getM kk)) (a := none) (cap := 0) (tb_nil _) HWF.out).mono ?_; rintro e w3 ⟨r, hr, rfl, hb3⟩; obtain rfl : r = true := hr.2 HMAY.out; have HB3 := Lib.hid hb3; clear hr hb3)
  clear c0 c1 c2 c3 c4 c5 c6 c7 c8 c9 c10 c11
  have HW3 := Lib.hid (HB2.out.trans (HB3.out.mono HB2.out.size))
  have HAT3 : Hid (M12 w3 w.heap.size _ _ _ _ _ _ _ _ _ _ _ _) := Lib.hid (box_bl HAT2.out HB3.out)
  have HZ3 : Hid (M12 w3 (w.heap.size + 1) _ _ _ _ _ _ _ _ _ _ _ _) := Lib.hid (box_bl HZ2.out HB3.out)
  have hc3 := HC2.out.below HB3.out
  have HC3 := Lib.hid hc3
  obtain ⟨⟨d0, d1, d2, d3, d4, d5, d6, d7⟩, -⟩ := hc3.cells
  clear hc3
  refine load_me HAT3.out fun c0 c1 c2 c3 c4 c5 c6 c7 c8 c9 c10 c11 => ?_
  have zm : w.heap.size < w3.heap.size := (box_lt HAT3.out).1
  go_upto_region 7 with fail
  go_quiet (fail)
  generalize hw4 : w3.drewN nq = w4
  have hb4 : Below w3.heap.size w3 w4 := by rw [← hw4]; exact Below.drewN (Below.refl _ _) _
  have HW4 := Lib.hid (HW3.out.trans (hb4.mono HW3.out.size))
  have HAT4 : Hid (M12 w4 w.heap.size _ _ _ _ _ _ _ _ _ _ _ _) := Lib.hid (box_bl HAT3.out hb4)
  have HZ4 : Hid (M12 w4 (w.heap.size + 1) _ _ _ _ _ _ _ _ _ _ _ _) := Lib.hid (box_bl HZ3.out hb4)
  have HC4 := Lib.hid (HC3.out.below hb4)
  clear hw4 hb4 c0 c1 c2 c3 c4 c5 c6 c7 c8 c9 c10 c11 d0 d1 d2 d3 d4 d5 d6 d7
  refine load_me HAT4.out fun c0 c1 c2 c3 c4 c5 c6 c7 c8 c9 c10 c11 => ?_
  refine load_me HZ4.out fun z0 z1 z2 z3 z4 z5 z6 z7 z8 z9 z10 z11 => ?_
  have hfz : ∀ i, w4.frozen? ⟨w.heap.size + 1, i, none⟩ = false := fun i => by have h := HZ4.out; unfold M12 at h; simp [World.frozen?, h]
  have f0 := hfz 0; have f1 := hfz 1; have f2 := hfz 2; have f3 := hfz 3; have f4 := hfz 4; have f5 := hfz 5; have f6 := hfz 6; have f7 := hfz 7; have f8 := hfz 8; have f9 := hfz 9; have f10 := hfz 10; have f11 := hfz 11
  clear hfz
  go_upto_region 9 with fail
  obtain ⟨⟨-, -, -, -, -, d5, -⟩, -⟩ := HC4.out.cells
  have hdr : Below w4.heap.size w4 w4.drew := (Below.refl _ _).drew
  have hcr4 := (HCR.out.below HW4.out).below hdr
  have hS0 : w4.drew.cell? ⟨g, 5, none⟩ = some (.pointer (some ⟨k, 0, none⟩)) ∧ w4.drew.cell? ⟨w.heap.size, 8, none⟩ = some (.int .u64 kk) := ⟨d5, c8⟩
  have HDW := Lib.hid hdr
  have zk : k < w.heap.size := (box_lt HCR.out.bx).1
  have HTA := Lib.hid (Cr.takeO_any B k lim last kk lt v w4.drew HTK.out.1 HTK.out.2.1 HTK.out.2.2 HTL.out.1 (Nat.le_trans HTL.out.2 (Nat.le_trans HW4.out.size hdr.size)) hcr4)
  have HCR4 := Lib.hid hcr4
  clear hcr4 hdr
  go_region_held3 (fun wx => wx.cell? ⟨g, 5, none⟩ = some (.pointer (some ⟨k, 0, none⟩)) ∧ wx.cell? ⟨w.heap.size, 8, none⟩ = some (.int .u64 kk))
    (first | exact hS0 | exact HS5.out)
    (first | (go_at_call 23; refine HTA.out.mono ?_; rintro e w5 ⟨rfl, v5, hcr5, -, hk5⟩; have HCR5 := Lib.hid hcr5; have HK5 := Lib.hid hk5; have HC5 := Lib.hid (cr_ch (HC4.out.below HDW.out) HCR4.out hk5); have HAT5 := Lib.hid (cr_m12 (box_bl HAT4.out HDW.out) HCR4.out hk5); have HZ5 := Lib.hid (cr_m12 (box_bl HZ4.out HDW.out) HCR4.out hk5); have HS5 : Hid (w5.cell? ⟨g, 5, none⟩ = some (.pointer (some ⟨k, 0, none⟩)) ∧ w5.cell? ⟨w.heap.size, 8, none⟩ = some (.int .u64 kk)) := Lib.hid ⟨HC5.out.cells.1.2.2.2.2.2.1, m12_8 HAT5.out⟩; clear hcr5 hk5; dsimp only) | fail)
  rename_i hHeld
  clear hHeld hS0 c0 c1 c2 c3 c4 c5 c6 c7 c8 c9 c10 c11 z0 z1 z2 z3 z4 z5 z6 z7 z8 z9 z10 z11 f0 f1 f2 f3 f4 f5 f6 f7 f8 f9 f10 f11 d5
  refine load_me HAT5.out fun c0 c1 c2 c3 c4 c5 c6 c7 c8 c9 c10 c11 => ?_
  refine load_me HZ5.out fun z0 z1 z2 z3 z4 z5 z6 z7 z8 z9 z10 z11 => ?_
  have hfz : ∀ i, w5.frozen? ⟨w.heap.size + 1, i, none⟩ = false := fun i => by have h := HZ5.out; unfold M12 at h; simp [World.frozen?, h]
  have hfa : w5.frozen? ⟨w.heap.size, 11, none⟩ = false := by have h := HAT5.out; unfold M12 at h; simp [World.frozen?, h]
  go_upto_region 13 with fail
  have hat6 := HAT5.out.set11 (.slice none 0 0)
  have hz6 : M12 (w5.setCell ⟨w.heap.size, 11, none⟩ (.slice none 0 0)) (w.heap.size + 1) _ _ _ _ _ _ _ _ _ _ _ _ := (Below.heap_setCell w5 ⟨w.heap.size, 11, none⟩ _ _ (by show w.heap.size + 1 ≠ w.heap.size; omega)).trans HZ5.out
  have hh6 : ∀ b, b ≠ w.heap.size → (w5.setCell ⟨w.heap.size, 11, none⟩ (.slice none 0 0)).heap[b]? = w5.heap[b]? := fun b hb => Below.heap_setCell w5 ⟨w.heap.size, 11, none⟩ _ b hb
  have hk6 : Kept (wrt k v) w (w5.setCell ⟨w.heap.size, 11, none⟩ (.slice none 0 0)) := (((Kept.of_below (bs := wrt k v) (HW4.out.trans (HDW.out.mono HW4.out.size))).trans HK5.out fun x hx => .inl hx)).grown (set_grownW w5 w.heap.size 11 (.slice none 0 0)) (fun k e => by cases e; exact .inr (Nat.le_refl _))
  generalize w5.setCell ⟨w.heap.size, 11, none⟩ (.slice none 0 0) = w6 at hat6 hz6 hh6 hk6 ⊢
  have HAT6 := Lib.hid hat6
  have HZ6 := Lib.hid hz6
  have HH6 := Lib.hid hh6
  have HK6 := Lib.hid hk6
  clear hat6 hz6 hh6 hk6 hfz hfa c0 c1 c2 c3 c4 c5 c6 c7 c8 c9 c10 c11 z0 z1 z2 z3 z4 z5 z6 z7 z8 z9 z10 z11
  refine load_me HAT6.out fun c0 c1 c2 c3 c4 c5 c6 c7 c8 c9 c10 c11 => ?_
  refine load_me HZ6.out fun z0 z1 z2 z3 z4 z5 z6 z7 z8 z9 z10 z11 => ?_
  have hfz : ∀ i, w6.frozen? ⟨w.heap.size + 1, i, none⟩ = false := fun i => by have h := HZ6.out; unfold M12 at h; simp [World.frozen?, h]
  have f0 := hfz 0; have f1 := hfz 1; have f2 := hfz 2; have f3 := hfz 3; have f4 := hfz 4; have f5 := hfz 5; have f6 := hfz 6; have f7 := hfz 7; have f8 := hfz 8; have f9 := hfz 9; have f10 := hfz 10; have f11 := hfz 11
  clear hfz
  go_wp2_with fail
  have hset := set12_box HZ6.out (.int .i64 6071) (.string ⟨#[]⟩) (.string ⟨#[]⟩) (.string ⟨#[]⟩) (.string ⟨#[]⟩) (.string ⟨#[]⟩) (.int .i64 0) (.int .i64 0) (.int .u64 kk) (.bool false) (.bool false) (.slice none 0 0)
  have hkep := set12_kept HK6.out (g := w.heap.size + 1) (by omega) (.int .i64 6071) (.string ⟨#[]⟩) (.string ⟨#[]⟩) (.string ⟨#[]⟩) (.string ⟨#[]⟩) (.string ⟨#[]⟩) (.int .i64 0) (.int .i64 0) (.int .u64 kk) (.bool false) (.bool false) (.slice none 0 0)
  have hhea := set12_heap w6 (w.heap.size + 1) (.int .i64 6071) (.string ⟨#[]⟩) (.string ⟨#[]⟩) (.string ⟨#[]⟩) (.string ⟨#[]⟩) (.string ⟨#[]⟩) (.int .i64 0) (.int .i64 0) (.int .u64 kk) (.bool false) (.bool false) (.slice none 0 0)
  unfold set12 at hset hkep hhea
  generalize ((((((((((((w6.setCell ⟨w.heap.size + 1, 0, none⟩ (.int .i64 6071)).setCell ⟨w.heap.size + 1, 1, none⟩ (.string ⟨#[]⟩)).setCell ⟨w.heap.size + 1, 2, none⟩ (.string ⟨#[]⟩)).setCell ⟨w.heap.size + 1, 3, none⟩ (.string ⟨#[]⟩)).setCell ⟨w.heap.size + 1, 4, none⟩ (.string ⟨#[]⟩)).setCell ⟨w.heap.size + 1, 5, none⟩ (.string ⟨#[]⟩)).setCell ⟨w.heap.size + 1, 6, none⟩ (.int .i64 0)).setCell ⟨w.heap.size + 1, 7, none⟩ (.int .i64 0)).setCell ⟨w.heap.size + 1, 8, none⟩ (.int .u64 kk)).setCell ⟨w.heap.size + 1, 9, none⟩ (.bool false)).setCell ⟨w.heap.size + 1, 10, none⟩ (.bool false)).setCell ⟨w.heap.size + 1, 11, none⟩ (.slice none 0 0)) = W9 at hset hkep hhea ⊢
  refine bodyPost_ret (v := .tuple #[.agg #[.int .i64 6071, .string ⟨#[]⟩, .string ⟨#[]⟩, .string ⟨#[]⟩, .string ⟨#[]⟩, .string ⟨#[]⟩, .int .i64 0, .int .i64 0, .int .u64 kk, .bool false, .bool false, .slice none 0 0], .int .i64 0]) (res_me (i := 4) (j := 5) (g := w.heap.size + 1) Tryz.results14 rfl rfl hset) rfl ?_
  have hst : ∀ j, j ≠ w.heap.size → j ≠ w.heap.size + 1 → W9.heap[j]? = w5.heap[j]? := fun j h1 h2 => (hhea j h2).trans (HH6.out j h1)
  refine ⟨rfl, ⟨v5, CrO.stay HCR5.out (hst k (by omega) (by omega)) fun j hj => hst j ?_ ?_⟩, hkep⟩
  · rintro rfl
    exact HCR5.out.own.apart HAT5.out (by decide) hj
  · rintro rfl
    exact HCR5.out.own.apart HZ5.out (by decide) hj

end Go.Proofs.YtiobcgolcoocnaaGreatDoor.Ch
