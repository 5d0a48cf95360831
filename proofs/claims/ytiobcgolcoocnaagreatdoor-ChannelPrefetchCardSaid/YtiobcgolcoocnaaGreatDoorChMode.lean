/-
  channel's mode and queue, walked.
-/
import Derived.Test.YtiobcgolcoocnaaGreatDoorChMem
namespace Go.Proofs.YtiobcgolcoocnaaGreatDoor.Ch
open Go.RowKit Rg Sh Bt
set_option linter.unusedVariables false
set_option linter.unusedSimpArgs false

theorem sel_ok (g : Nat) (st : Int) (x b q c p : Value) (cf : Bool) (w : World) (h : ChB w g st x b q c p cf false) :
    Calls Tryz.prog 40 #[.pointer (some ⟨g, 0, none⟩), .int .i64 8510] w fun e w' => ∃ s, e = .returned (.tuple #[.slice (some ⟨s, 0, none⟩) 1 1, .int .i64 0]) ∧ MeAt w' s (Me.of 8511) none 0 ∧ ChB w' g st x b q c p true false ∧ Kept [g] w w' := by
  have HH := Lib.hid h
  obtain ⟨⟨d0, d1, d2, d3, d4, d5, d6, d7⟩, e0, e1, e2, e3, e4, e5, e6, e7⟩ := h.cells
  clear h
  go_enter Tryz.func40, Tryz.ntmps40
  go_wp2_with (go_at_call 19; refine (one_any 8511 _).mono ?_; rintro e w1 ⟨rfl, hm, hb⟩; have HM := Lib.hid hm; have HB := Lib.hid hb; clear hm hb)
  go_ret2
  exact ⟨_, rfl, by simpa using HM.out, (HH.out.set6 true).below HB.out, Kept.tail ((Kept.refl [g] w).set (by simp) 6 _) HB.out⟩
theorem sel_no (g : Nat) (st : Int) (x b q c p : Value) (cf : Bool) (w : World) (h : ChB w g st x b q c p cf true) :
    Calls Tryz.prog 40 #[.pointer (some ⟨g, 0, none⟩), .int .i64 8510] w fun e w' => e = .returned (.tuple #[.slice none 0 0, .int .i64 406]) ∧ w = w' := by
  obtain ⟨⟨d0, d1, d2, d3, d4, d5, d6, d7⟩, e0, e1, e2, e3, e4, e5, e6, e7⟩ := h.cells
  clear h
  go_enter Tryz.func40, Tryz.ntmps40
  go_wp2_with fail
  go_ret2
  exact ⟨rfl, rfl⟩
theorem txs_ok (g : Nat) (st : Int) (x b q c p : Value) (tx : Bool) (w : World) (h : ChB w g st x b q c p false tx) :
    Calls Tryz.prog 40 #[.pointer (some ⟨g, 0, none⟩), .int .i64 9010] w fun e w' => ∃ s, e = .returned (.tuple #[.slice (some ⟨s, 0, none⟩) 1 1, .int .i64 0]) ∧ MeAt w' s (Me.of 9011) none 0 ∧ ChB w' g st x b q c p false true ∧ Kept [g] w w' := by
  have HH := Lib.hid h
  obtain ⟨⟨d0, d1, d2, d3, d4, d5, d6, d7⟩, e0, e1, e2, e3, e4, e5, e6, e7⟩ := h.cells
  clear h
  go_enter Tryz.func40, Tryz.ntmps40
  go_wp2_with (go_at_call 19; refine (one_any 9011 _).mono ?_; rintro e w1 ⟨rfl, hm, hb⟩; have HM := Lib.hid hm; have HB := Lib.hid hb; clear hm hb)
  go_ret2
  exact ⟨_, rfl, by simpa using HM.out, (HH.out.set7 true).below HB.out, Kept.tail ((Kept.refl [g] w).set (by simp) 7 _) HB.out⟩
theorem txs_no (g : Nat) (st : Int) (x b q c p : Value) (tx : Bool) (w : World) (h : ChB w g st x b q c p true tx) :
    Calls Tryz.prog 40 #[.pointer (some ⟨g, 0, none⟩), .int .i64 9010] w fun e w' => e = .returned (.tuple #[.slice none 0 0, .int .i64 406]) ∧ w = w' := by
  obtain ⟨⟨d0, d1, d2, d3, d4, d5, d6, d7⟩, e0, e1, e2, e3, e4, e5, e6, e7⟩ := h.cells
  clear h
  go_enter Tryz.func40, Tryz.ntmps40
  go_wp2_with fail
  go_ret2
  exact ⟨rfl, rfl⟩
theorem com_ok (g : Nat) (st : Int) (x b q c p : Value) (cf : Bool) (w : World) (h : ChB w g st x b q c p cf true) :
    Calls Tryz.prog 40 #[.pointer (some ⟨g, 0, none⟩), .int .i64 9020] w fun e w' => ∃ s, e = .returned (.tuple #[.slice (some ⟨s, 0, none⟩) 1 1, .int .i64 0]) ∧ MeAt w' s (Me.of 9021) none 0 ∧ ChB w' g st x b q c p cf true ∧ Kept [g] w w' := by
  have HH := Lib.hid h
  obtain ⟨⟨d0, d1, d2, d3, d4, d5, d6, d7⟩, e0, e1, e2, e3, e4, e5, e6, e7⟩ := h.cells
  clear h
  go_enter Tryz.func40, Tryz.ntmps40
  go_wp2_with (go_at_call 19; refine (one_any 9021 _).mono ?_; rintro e w1 ⟨rfl, hm, hb⟩; have HM := Lib.hid hm; have HB := Lib.hid hb; clear hm hb)
  go_ret2
  exact ⟨_, rfl, by simpa using HM.out, HH.out.below HB.out, Kept.of_below HB.out⟩
theorem com_no (g : Nat) (st : Int) (x b q c p : Value) (cf : Bool) (w : World) (h : ChB w g st x b q c p cf false) :
    Calls Tryz.prog 40 #[.pointer (some ⟨g, 0, none⟩), .int .i64 9020] w fun e w' => e = .returned (.tuple #[.slice none 0 0, .int .i64 406]) ∧ w = w' := by
  obtain ⟨⟨d0, d1, d2, d3, d4, d5, d6, d7⟩, e0, e1, e2, e3, e4, e5, e6, e7⟩ := h.cells
  clear h
  go_enter Tryz.func40, Tryz.ntmps40
  go_wp2_with fail
  go_ret2
  exact ⟨rfl, rfl⟩
theorem rol_ok (g : Nat) (st : Int) (x b q c p : Value) (cf : Bool) (w : World) (h : ChB w g st x b q c p cf true) :
    Calls Tryz.prog 40 #[.pointer (some ⟨g, 0, none⟩), .int .i64 9030] w fun e w' => ∃ s, e = .returned (.tuple #[.slice (some ⟨s, 0, none⟩) 1 1, .int .i64 0]) ∧ MeAt w' s (Me.of 9031) none 0 ∧ ChB w' g st x b q c p cf true ∧ Kept [g] w w' := by
  have HH := Lib.hid h
  obtain ⟨⟨d0, d1, d2, d3, d4, d5, d6, d7⟩, e0, e1, e2, e3, e4, e5, e6, e7⟩ := h.cells
  clear h
  go_enter Tryz.func40, Tryz.ntmps40
  go_wp2_with (go_at_call 19; refine (one_any 9031 _).mono ?_; rintro e w1 ⟨rfl, hm, hb⟩; have HM := Lib.hid hm; have HB := Lib.hid hb; clear hm hb)
  go_ret2
  exact ⟨_, rfl, by simpa using HM.out, HH.out.below HB.out, Kept.of_below HB.out⟩
theorem rol_no (g : Nat) (st : Int) (x b q c p : Value) (cf : Bool) (w : World) (h : ChB w g st x b q c p cf false) :
    Calls Tryz.prog 40 #[.pointer (some ⟨g, 0, none⟩), .int .i64 9030] w fun e w' => e = .returned (.tuple #[.slice none 0 0, .int .i64 406]) ∧ w = w' := by
  obtain ⟨⟨d0, d1, d2, d3, d4, d5, d6, d7⟩, e0, e1, e2, e3, e4, e5, e6, e7⟩ := h.cells
  clear h
  go_enter Tryz.func40, Tryz.ntmps40
  go_wp2_with fail
  go_ret2
  exact ⟨rfl, rfl⟩

/-- what QDeclare is answered. -/
def qok (s : List UInt8) (n : Nat) : Me := { Me.of 5011 with name := ⟨s.toArray⟩, count := (n : Int) }
set_option maxRecDepth 100000 in
set_option maxHeartbeats 2000000 in
theorem queue_again (g : Nat) (st : Int) (x b : Value) (a : Option Addr) (n cap : Nat) (c p : Value) (cf tx : Bool) (l : List (List UInt8)) (s : List UInt8) (w : World) (hn : n = l.length) (hs : s ∈ l) (h : ChB w g st x b (.slice a n cap) c p cf tx) (hl : StAt w a cap l) :
    Calls Tryz.prog 32 #[.pointer (some ⟨g, 0, none⟩), .string ⟨s.toArray⟩] w fun e w' => ∃ k, e = .returned (.tuple #[.slice (some ⟨k, 0, none⟩) 1 1, .int .i64 0]) ∧ MeAt w' k (qok s n) none 0 ∧ Below w.heap.size w w' := by
  have hh := has_any g st x b a n cap c p cf tx l s w hn h hl
  rw [decide_eq_true hs] at hh
  have HH := Lib.hid hh
  obtain ⟨⟨d0, d1, d2, d3, d4, d5, d6, d7⟩, -⟩ := h.cells
  clear hh h hl hs hn
  go_enter Tryz.func32, Tryz.ntmps32
  go_wp2_with (go_at_call 24; refine HH.out.mono ?_; rintro e w1 ⟨rfl, rfl⟩)
  go_ret2
  exact ⟨_, rfl, heap_alloc_new w _, (Below.refl _ _).alloc (Nat.le_refl _) _⟩
set_option maxRecDepth 100000 in
set_option maxHeartbeats 2000000 in
theorem queue_full (g : Nat) (st : Int) (x b : Value) (a : Option Addr) (n cap : Nat) (c p : Value) (cf tx : Bool) (l : List (List UInt8)) (s : List UInt8) (w : World) (hn : n = l.length) (hs : ¬ s ∈ l) (hne : s ≠ []) (h40 : s.length ≤ 40) (h16 : n = 16) (h : ChB w g st x b (.slice a n cap) c p cf tx) (hl : StAt w a cap l) :
    Calls Tryz.prog 32 #[.pointer (some ⟨g, 0, none⟩), .string ⟨s.toArray⟩] w fun e w' => e = .returned (.tuple #[.slice none 0 0, .int .i64 406]) ∧ w = w' := by
  have hh := has_any g st x b a n cap c p cf tx l s w hn h hl
  rw [decide_eq_false hs] at hh
  have HH := Lib.hid hh
  obtain ⟨⟨d0, d1, d2, d3, d4, d5, d6, d7⟩, -⟩ := h.cells
  have q1 : s.isEmpty = false := by simpa using hne
  have q2 : ¬ (40 : Int) < (s.length : Int) := by omega
  have q3 : ((n : Int) == 16) = true := by rw [beq_iff_eq]; omega
  clear hh h hl hs hn hne h40 h16
  go_enter Tryz.func32, Tryz.ntmps32
  go_wp2_with (go_at_call 24; refine HH.out.mono ?_; rintro e w1 ⟨rfl, rfl⟩)
  go_ret2
  exact ⟨rfl, rfl⟩
set_option maxRecDepth 100000 in
set_option maxHeartbeats 4000000 in
theorem queue_new (B g : Nat) (st : Int) (x b q c p : Value) (cf tx : Bool) (l : List (List UInt8)) (s : List UInt8) (w : World) (hB : B ≤ w.heap.size) (hs : ¬ s ∈ l) (hne : s ≠ []) (h40 : s.length ≤ 40) (h16 : l.length < 16) (h : ChB w g st x b q c p cf tx) (hl : OwnS w B q l) :
    Calls Tryz.prog 32 #[.pointer (some ⟨g, 0, none⟩), .string ⟨s.toArray⟩] w fun e w' => ∃ k v', e = .returned (.tuple #[.slice (some ⟨k, 0, none⟩) 1 1, .int .i64 0]) ∧ MeAt w' k (qok s (l.length + 1)) none 0 ∧ ChB w' g st x b v' c p cf tx ∧ OwnS w' B v' (l ++ [s]) ∧ Kept (wrt g q) w w' ∧ Later w q v' := by
  obtain ⟨a, cap, rfl, hr, -⟩ := OwnE.at stE hl
  have hh := has_any g st x b a l.length cap c p cf tx l s w rfl h hr
  rw [decide_eq_false hs] at hh
  have HH := Lib.hid hh
  obtain ⟨⟨d0, d1, d2, d3, d4, d5, d6, d7⟩, e0, e1, e2, e3, e4, e5, e6, e7⟩ := h.cells
  obtain ⟨z1, z2, -⟩ := box_lt h
  have q1 : s.isEmpty = false := by simpa using hne
  have q2 : ¬ (40 : Int) < (s.length : Int) := by omega
  have q3 : ((l.length : Int) == 16) = false := by rw [beq_eq_false_iff_ne]; omega
  have HX := Lib.hid h
  have HO := Lib.hid hl
  have HL := Lib.hid (show l.length ≤ 900000 by omega)
  have HBB := Lib.hid hB
  clear hh h hl hs hne h40 h16 hr hB
  go_enter Tryz.func32, Tryz.ntmps32
  go_wp2_with (first | (go_at_call 24; refine HH.out.mono ?_; rintro e w1 ⟨rfl, rfl⟩) | (refine put_lies stE s (w := w) rfl (.tmp 29) (.tmp 31) rfl HO.out HBB.out HL.out _ rfl rfl _ rfl rfl ?_; intro v' w' ho hg hla; have hne := own_box HO.out HX.out (by decide); have hb9 : ChB w' g st x b (.slice a l.length cap) c p cf tx := (hg.block g z1 (Ne.symm hne)).trans HX.out; have hne' := own_box ho hb9 (by decide); have HCH := Lib.hid (hb9.set3 v'); have HOW : Hid (OwnS (w'.setCell ⟨g, 3, none⟩ v') B v' (l ++ [s])) := Lib.hid (own_stay ho fun j hj => Below.heap_setCell w' ⟨g, 3, none⟩ v' j (fun e => hne' (by rw [hj]; exact congrArg some e))); have HKE := Lib.hid ((((Kept.refl (wrt g (.slice a l.length cap)) w).grown hg (fun k e => .inl (mem_wrt.2 (.inr e)))).set (mem_wrt.2 (.inl rfl)) 3 v')); have HLA := Lib.hid (show Later w (.slice a l.length cap) v' from hla); obtain ⟨xa, xc, rfl, -, -⟩ := OwnE.at stE ho; rw [show (l ++ [s]).length = l.length + 1 from List.length_append] at HCH HOW HKE HLA; obtain ⟨⟨j0, j1, j2, j3, j4, j5, j6, j7⟩, k0, k1, k2, k3, k4, k5, k6, k7⟩ := hb9.cells; clear ho hg hla hne hne' hb9))
  go_ret2
  have h9 := heap_alloc_new (w'.setCell ⟨g, 3, none⟩ (.slice xa (l.length + 1) xc)) (.cells (meC (qok s (l.length + 1)) none 0) 31)
  rw [show (w'.setCell ⟨g, 3, none⟩ (.slice xa (l.length + 1) xc)).heap.size = w'.heap.size by simp] at h9
  have hb : Below (w'.setCell ⟨g, 3, none⟩ (.slice xa (l.length + 1) xc)).heap.size (w'.setCell ⟨g, 3, none⟩ (.slice xa (l.length + 1) xc)) ((w'.setCell ⟨g, 3, none⟩ (.slice xa (l.length + 1) xc)).alloc (.cells (meC (qok s (l.length + 1)) none 0) 31)) := (Below.refl _ _).alloc (Nat.le_refl _) _
  exact ⟨_, _, rfl, h9, HCH.out.below hb, OwnE.below1 HOW.out hb, HKE.out.alloc _, HLA.out⟩

end Go.Proofs.YtiobcgolcoocnaaGreatDoor.Ch
