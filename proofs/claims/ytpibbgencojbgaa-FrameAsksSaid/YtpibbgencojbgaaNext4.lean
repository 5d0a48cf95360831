/-
  Next, walked.
-/
import Derived.Test.YtpibbgencojbgaaPut4
namespace Go.Proofs.Ytpibbgencojbgaa
open Go.RowKit
set_option linter.unusedVariables false
variable {B : Nat}

/-- what a call of Next holds on its way. -/
structure St (B : Nat) (w W : World) (l : List UInt8) (b : Bool) : Prop where
  rd : Rd 72 B W (w.heap.size + 1) l b
  res : W.heap[w.heap.size]? = some (.cells #[.int .i64 0, .int .i64 0, .slice none 0 0] 48 (0, 0))
  bel : Below w.heap.size w W
theorem St.next {w W W' : World} {l l' : List UInt8} {b b' : Bool} (h : St B w W l b) (hr : Rd 72 B W' (w.heap.size + 1) l' b') (hg : W.grownBy W' (some (w.heap.size + 1))) : St B w W' l' b' := by
  have hlt := (Array.getElem?_eq_some_iff.1 h.res).1
  exact ⟨hr, (hg.block _ hlt (by simp)).trans h.res, h.bel.grown hg h.bel.size (fun k e => by cases e; omega)⟩
def NextR (l : List UInt8) (w : World) (e : Ending) (w' : World) : Prop :=
  Below w.heap.size w w' ∧ ((nextP l = .cut ∧ e = .returned (.tuple #[.agg #[.int .i64 0, .int .i64 0, .slice none 0 0], .int .i64 0, .int .i64 3])) ∨
    (nextP l = .never ∧ e = .returned (.tuple #[.agg #[.int .i64 0, .int .i64 0, .slice none 0 0], .int .i64 0, .int .i64 501])) ∨
    ∃ f n a cap, nextP l = .got f n ∧ e = .returned (.tuple #[.agg #[.int .i64 f.kind, .int .i64 f.chan, .slice a f.data.length cap], .int .i64 (n : Nat), .int .i64 0]) ∧ f.data.length ≤ cap ∧ cap ≤ maxLen ∧ BytesAt w'.heap.size w' a f.data ∧ ∀ x, a = some x → w.heap.size ≤ x.block)

theorem not_said {r : Bool} {p : Prop} (hr : r = true ↔ p) (h : ¬ p) : r = false := by
  cases r
  · rfl
  · exact absurd (hr.1 rfl) h
def cellD (w : World) (g i : Nat) : Value := (w.cell? ⟨g, i, none⟩).getD undef
/-- while the answer is laid: the reader, the answer's box, what was there. -/
def RsS (w : World) (V : Value) (wx : World) : Prop :=
  wx.heap[w.heap.size + 1]? = some (.cells #[V, .bool false] 72 (0, 0)) ∧ (∃ x y z, wx.heap[w.heap.size]? = some (.cells #[x, y, z] 48 (0, 0))) ∧ Below w.heap.size w wx
def RsF (w : World) (V : Value) (wx : World) : Prop :=
  wx.cell? ⟨w.heap.size + 1, 0, none⟩ = some V ∧ (wx.cell? ⟨w.heap.size, 0, none⟩ = some (cellD wx w.heap.size 0) ∧ wx.cell? ⟨w.heap.size, 1, none⟩ = some (cellD wx w.heap.size 1) ∧ wx.cell? ⟨w.heap.size, 2, none⟩ = some (cellD wx w.heap.size 2)) ∧
    (wx.frozen? ⟨w.heap.size, 0, none⟩ = false ∧ wx.frozen? ⟨w.heap.size, 1, none⟩ = false ∧ wx.frozen? ⟨w.heap.size, 2, none⟩ = false) ∧ RsS w V wx
theorem RsS.full {w wx : World} {V : Value} (h : RsS w V wx) : RsF w V wx := by
  have hh := h
  obtain ⟨h1, ⟨x, y, z, h2⟩, h3⟩ := h
  obtain ⟨c0, c1, c2⟩ := cells3 h2
  refine ⟨?_, ⟨by simp [cellD, c0], by simp [cellD, c1], by simp [cellD, c2]⟩, ⟨?_, ?_, ?_⟩, hh⟩
  · rw [cell_of_row wx _ _ _ _ _ h1]; rfl
  all_goals simp [World.frozen?, h2]
theorem RsS.below {w wx wy : World} {V : Value} (h : RsS w V wx) (hb : Below wx.heap.size wx wy) : RsS w V wy := by
  obtain ⟨h1, ⟨x, y, z, h2⟩, h3⟩ := h
  exact ⟨(hb.block _ (Array.getElem?_eq_some_iff.1 h1).1).trans h1, ⟨x, y, z, (hb.block _ (Array.getElem?_eq_some_iff.1 h2).1).trans h2⟩, h3.trans (hb.mono h3.size)⟩
theorem RsS.set {w wx : World} {V : Value} (h : RsS w V wx) (v0 v1 v2 : Value) : RsS w V (((wx.setCell ⟨w.heap.size, 0, none⟩ v0).setCell ⟨w.heap.size, 1, none⟩ v1).setCell ⟨w.heap.size, 2, none⟩ v2) := by
  obtain ⟨h1, ⟨x, y, z, h2⟩, h3⟩ := h
  refine ⟨?_, ⟨v0, v1, v2, ?_⟩, ((h3.setCell (Nat.le_refl _) _).setCell (Nat.le_refl _) _).setCell (Nat.le_refl _) _⟩
  · rw [Below.heap_setCell _ _ _ _ (by simp), Below.heap_setCell _ _ _ _ (by simp), Below.heap_setCell _ _ _ _ (by simp)]
    exact h1
  · rw [set_heap (set_heap (set_heap h2 0 v0) 1 v1) 2 v2]
    simp
theorem RsS.row {w wx : World} {V : Value} (h : RsS w V wx) (v0 v1 v2 : Value) : (((wx.setCell ⟨w.heap.size, 0, none⟩ v0).setCell ⟨w.heap.size, 1, none⟩ v1).setCell ⟨w.heap.size, 2, none⟩ v2).heap[w.heap.size]? = some (.cells #[v0, v1, v2] 48 (0, 0)) := by
  obtain ⟨h1, ⟨x, y, z, h2⟩, h3⟩ := h
  rw [set_heap (set_heap (set_heap h2 0 v0) 1 v1) 2 v2]
  simp
/-- where a label is come to. -/
def labJ (B : Nat) (l : List UInt8) (a : Option Addr) (cap : Nat) (w : World) (m : Nat) (a' : Act) (w' : World) : Prop :=
  ((m = 0 ∧ nextP l = .cut) ∨ (m = 1 ∧ nextP l = .never)) ∧ (∃ l' b', St B w w' l' b') ∧ ∃ (u3 u4 u5 u6 u7 u8 u9 u10 u11 u12 u13 u14 u15 u16 u17 u18 u19 u20 u21 u22 u23 u24 u25 u26 u27 u28 u29 u30 u31 u32 u33 u34 u35 u36 u37 u38 u39 u40 u41 u42 u43 u44 u45 u46 u47 u48 u49 u50 u51 u52 u53 u54 u55 u56 u57 u58 u59 : Value), a' = { tmps := #[.slice a l.length cap, undef, .pointer (some ⟨w.heap.size, 0, none⟩), u3, u4, u5, u6, u7, u8, u9, u10, u11, u12, u13, u14, u15, u16, u17, u18, u19, u20, u21, u22, u23, u24, u25, u26, u27, u28, u29, u30, u31, u32, u33, u34, u35, u36, u37, u38, u39, u40, u41, u42, u43, u44, u45, u46, u47, u48, u49, u50, u51, u52, u53, u54, u55, u56, u57, u58, u59], defers := [] }

set_option maxRecDepth 100000 in
set_option maxHeartbeats 8000000 in
theorem next_any (a : Option Addr) (cap : Nat) (l : List UInt8) (hl : l.length ≤ cap) (hcap : cap ≤ maxLen) (w : World) (hB : B ≤ w.heap.size) (hat : BytesAt B w a l) :
    Calls Try.prog 33 #[.slice a l.length cap] w (NextR l w) := by
  have HAT := Lib.hid hat
  clear hat
  have hcap' := hcap
  have HCAP := Lib.hid hcap'
  unfold maxLen at hcap
  clear hcap'
  go_enter Try.func33, Try.ntmps33
  go_wp2_with fail
  refine wp_scope_ahead (labJ B l a cap w) ?_ ?_
  · have hst0 : St B w ((w.alloc (.cells #[.int .i64 0, .int .i64 0, .slice none 0 0] 48)).alloc (.cells #[.slice a l.length cap, .bool false] 72)) l false := by
      have hb : Below w.heap.size w ((w.alloc (.cells #[.int .i64 0, .int .i64 0, .slice none 0 0] 48)).alloc (.cells #[.slice a l.length cap, .bool false] 72)) := ((Below.refl _ _).alloc (Nat.le_refl _) _).alloc (by simp) _
      refine ⟨⟨.slice a l.length cap, ?_, a, cap, rfl, hl, HCAP.out, HAT.out.below hb⟩, ?_, hb⟩
      · have := heap_alloc_new (w.alloc (.cells #[.int .i64 0, .int .i64 0, .slice none 0 0] 48)) (.cells #[.slice a l.length cap, .bool false] 72)
        simpa using this
      · rw [Below.heap_alloc _ _ _ (by simp)]
        exact heap_alloc_new w _
    have HST0 := Lib.hid hst0
    clear hst0
    by_cases h1 : l.length < 1
    · have HX := Lib.hid (show nextP l = .cut by unfold nextP; rw [if_pos h1])
      go_wp2_with fail
      refine (number_short _ 1 (by decide) l _ HST0.out.rd h1).mono ?_
      rintro e w1 ⟨rfl, hr9, hg9⟩
      have HST9 := Lib.hid (HST0.out.next hr9 hg9)
      have hcb := hr9.bad
      clear hr9 hg9
      go_wp2_with fail
      go_step3
      refine ⟨.inl ⟨rfl, HX.out⟩, ⟨_, _, HST9.out⟩, ?_⟩
      repeat apply Exists.intro
      rfl
    go_wp2_with fail
    refine (number_ok _ 1 (by decide) l _ HST0.out.rd (by omega)).mono ?_
    rintro e w1 ⟨rfl, hr1, hg1⟩
    rw [show de (l.take 1) = kd l from rfl]
    have hwk : IntKind.i64.wrap ((kd l : Nat) : Int) = ((kd l : Nat) : Int) := IntWalk.i64_in _ (by have := de_lt1 l; unfold kd; omega)
    have hcb := hr1.bad
    have HST1 := Lib.hid (HST0.out.next hr1 hg1)
    clear hr1 hg1 HST0
    go_wp2_with fail
    clear hcb
    refine (kind_any (kd l : Nat) _).mono ?_
    rintro e w' ⟨r, hr, rfl, rfl⟩
    by_cases h2 : KindOk (kd l : Nat)
    rotate_left
    · have HX := Lib.hid (show nextP l = .never by unfold nextP; rw [if_neg h1, if_pos h2])
      obtain rfl : r = false := not_said hr h2
      clear hr h2
      go_wp2_with fail
      go_step3
      refine ⟨.inr ⟨rfl, HX.out⟩, ⟨_, _, HST1.out⟩, ?_⟩
      repeat apply Exists.intro
      rfl
    obtain rfl : r = true := hr.2 h2
    have H2 := Lib.hid h2
    clear hr h2
    by_cases h3 : l.length < 3
    · have HX := Lib.hid (show nextP l = .cut by unfold nextP; rw [if_neg h1, if_neg (Classical.not_not.2 H2.out), if_pos h3])
      go_wp2_with fail
      refine (number_short _ 2 (by decide) (l.drop 1) _ HST1.out.rd (by simp; omega)).mono ?_
      rintro e w2 ⟨rfl, hr9, hg9⟩
      have HST9 := Lib.hid (HST1.out.next hr9 hg9)
      have hcb := hr9.bad
      clear hr9 hg9
      go_wp2_with fail
      go_step3
      refine ⟨.inl ⟨rfl, HX.out⟩, ⟨_, _, HST9.out⟩, ?_⟩
      repeat apply Exists.intro
      rfl
    go_wp2_with fail
    refine (number_ok _ 2 (by decide) (l.drop 1) _ HST1.out.rd (by simp; omega)).mono ?_
    rintro e w2 ⟨rfl, hr2, hg2⟩
    rw [show (l.drop 1).drop 2 = l.drop 3 by rw [List.drop_drop]] at hr2
    rw [show de ((l.drop 1).take 2) = cn l from rfl]
    have hwc : IntKind.i64.wrap ((cn l : Nat) : Int) = ((cn l : Nat) : Int) := IntWalk.i64_in _ (by have := de_lt2 (l.drop 1); unfold cn; omega)
    have hcb := hr2.bad
    have HST2 := Lib.hid (HST1.out.next hr2 hg2)
    clear hr2 hg2 HST1
    go_wp2_with fail
    clear hcb
    refine (chan_any (kd l : Nat) (cn l : Nat) _).mono ?_
    rintro e w' ⟨r, hr, rfl, rfl⟩
    by_cases h4 : FitsN (kd l : Nat) (cn l : Nat) 65535
    rotate_left
    · have HX := Lib.hid (show nextP l = .never by unfold nextP; rw [if_neg h1, if_neg (Classical.not_not.2 H2.out), if_neg h3, if_pos h4])
      obtain rfl : r = false := not_said hr h4
      clear hr h4
      go_wp2_with fail
      go_step3
      refine ⟨.inr ⟨rfl, HX.out⟩, ⟨_, _, HST2.out⟩, ?_⟩
      repeat apply Exists.intro
      rfl
    obtain rfl : r = true := hr.2 h4
    have H4 := Lib.hid h4
    clear hr h4
    by_cases h5 : l.length < 7
    · have HX := Lib.hid (show nextP l = .cut by unfold nextP; rw [if_neg h1, if_neg (Classical.not_not.2 H2.out), if_neg h3, if_neg (Classical.not_not.2 H4.out), if_pos h5])
      go_wp2_with fail
      refine (number_short _ 4 (by decide) (l.drop 3) _ HST2.out.rd (by simp; omega)).mono ?_
      rintro e w2 ⟨rfl, hr9, hg9⟩
      have HST9 := Lib.hid (HST2.out.next hr9 hg9)
      have hcb := hr9.bad
      clear hr9 hg9
      go_wp2_with fail
      go_step3
      refine ⟨.inl ⟨rfl, HX.out⟩, ⟨_, _, HST9.out⟩, ?_⟩
      repeat apply Exists.intro
      rfl
    go_wp2_with fail
    refine (number_ok _ 4 (by decide) (l.drop 3) _ HST2.out.rd (by simp; omega)).mono ?_
    rintro e w3 ⟨rfl, hr2, hg2⟩
    rw [show (l.drop 3).drop 4 = l.drop 7 by rw [List.drop_drop]] at hr2
    rw [show de ((l.drop 3).take 4) = ln l from rfl]
    have hwl : IntKind.i64.wrap ((ln l : Nat) : Int) = ((ln l : Nat) : Int) := IntWalk.i64_in _ (by have := de_lt4 (l.drop 3); unfold ln; omega)
    have hwu : IntKind.u64.wrap ((ln l : Nat) : Int) = ((ln l : Nat) : Int) := by have := de_lt4 (l.drop 3); rw [IntKind.wrap_u64]; unfold ln; omega
    have hcb := hr2.bad
    have HST3 := Lib.hid (HST2.out.next hr2 hg2)
    clear hr2 hg2 HST2
    go_wp2_with fail
    clear hcb
    refine (length_any (kd l : Nat) (ln l : Nat) _).mono ?_
    rintro e w' ⟨r, hr, rfl, rfl⟩
    by_cases h6 : FitsN (kd l : Nat) (ln l : Nat) 4096
    rotate_left
    · have HX := Lib.hid (show nextP l = .never by unfold nextP; rw [if_neg h1, if_neg (Classical.not_not.2 H2.out), if_neg h3, if_neg (Classical.not_not.2 H4.out), if_neg h5, if_pos h6])
      obtain rfl : r = false := not_said hr h6
      clear hr h6
      go_wp2_with fail
      go_step3
      refine ⟨.inr ⟨rfl, HX.out⟩, ⟨_, _, HST3.out⟩, ?_⟩
      repeat apply Exists.intro
      rfl
    obtain rfl : r = true := hr.2 h6
    have hlr := len_range h6
    have H6 := Lib.hid h6
    clear hr h6
    by_cases h7 : l.length < 7 + ln l
    · have HX := Lib.hid (show nextP l = .cut by unfold nextP; rw [if_neg h1, if_neg (Classical.not_not.2 H2.out), if_neg h3, if_neg (Classical.not_not.2 H4.out), if_neg h5, if_neg (Classical.not_not.2 H6.out), if_pos h7])
      go_wp2_with fail
      refine (take_short _ (ln l) (by omega) (l.drop 7) _ HST3.out.rd (by simp; omega)).mono ?_
      rintro e w2 ⟨v9, rfl, ⟨a9, c9, rfl, -, -, -⟩, hr9, hg9⟩
      have HST9 := Lib.hid (HST3.out.next hr9 hg9)
      have hcb := hr9.bad
      clear hr9 hg9
      go_wp2_with fail
      go_step3
      refine ⟨.inl ⟨rfl, HX.out⟩, ⟨_, _, HST9.out⟩, ?_⟩
      repeat apply Exists.intro
      rfl
    go_wp2_with fail
    refine (take_ok _ (ln l) (by omega) (l.drop 7) _ HST3.out.rd (by simp; omega)).mono ?_
    rintro e w4 ⟨v4, rfl, hv4, hr2, hg2⟩
    rw [List.drop_drop] at hr2
    have hcb4 := hr2.bad
    have HST4 := Lib.hid (HST3.out.next hr2 hg2)
    obtain ⟨a4, c4, rfl, hlc4, hcm4, hat4⟩ := hv4
    have hl4 : ((l.drop 7).take (ln l)).length = ln l := by simp; omega
    rw [hl4] at hlc4 ⊢
    have HAT4 := Lib.hid hat4
    have HL4 := Lib.hid hl4
    clear hr2 hg2 HST3 hat4 hl4
    by_cases h8 : l.length < 8 + ln l
    · have HX := Lib.hid (show nextP l = .cut by unfold nextP; rw [if_neg h1, if_neg (Classical.not_not.2 H2.out), if_neg h3, if_neg (Classical.not_not.2 H4.out), if_neg h5, if_neg (Classical.not_not.2 H6.out), if_neg h7, if_pos h8])
      go_wp2_with fail
      refine (number_short _ 1 (by decide) (l.drop (7 + ln l)) _ HST4.out.rd (by simp; omega)).mono ?_
      rintro e w2 ⟨rfl, hr9, hg9⟩
      have HST9 := Lib.hid (HST4.out.next hr9 hg9)
      have hcb := hr9.bad
      clear hr9 hg9
      go_wp2_with fail
      go_step3
      refine ⟨.inl ⟨rfl, HX.out⟩, ⟨_, _, HST9.out⟩, ?_⟩
      repeat apply Exists.intro
      rfl
    go_wp2_with fail
    refine (number_ok _ 1 (by decide) (l.drop (7 + ln l)) _ HST4.out.rd (by simp; omega)).mono ?_
    rintro e w5 ⟨rfl, hr2, hg2⟩
    rw [List.drop_drop] at hr2
    rw [show de ((l.drop (7 + ln l)).take 1) = lst l from rfl]
    have hwt : IntKind.i64.wrap ((lst l : Nat) : Int) = ((lst l : Nat) : Int) := IntWalk.i64_in _ (by have := de_lt1 (l.drop (7 + ln l)); unfold lst; omega)
    have hcb := hr2.bad
    clear hcb4
    have HST5 := Lib.hid (HST4.out.next hr2 hg2)
    have hat5 : BytesAt B w5 a4 ((l.drop 7).take (ln l)) := HAT4.out.under ((Below.refl B w4).grown hg2 (Nat.le_trans hB HST4.out.bel.size) (fun k e => by cases e; omega))
    have HAT5 := Lib.hid hat5
    clear hr2 hg2 HST4 hat5 HAT4
    by_cases h9 : lst l = 206
    rotate_left
    · have HX := Lib.hid (show nextP l = .never by unfold nextP; rw [if_neg h1, if_neg (Classical.not_not.2 H2.out), if_neg h3, if_neg (Classical.not_not.2 H4.out), if_neg h5, if_neg (Classical.not_not.2 H6.out), if_neg h7, if_neg h8, if_pos h9])
      have hb9 : ((lst l : Int) == 206) = false := by rw [beq_eq_false_iff_ne]; omega
      clear h9
      go_wp2_with fail
      go_step3
      refine ⟨.inr ⟨rfl, HX.out⟩, ⟨_, _, HST5.out⟩, ?_⟩
      repeat apply Exists.intro
      rfl
    have HX := Lib.hid (show nextP l = .got (frm l) (8 + ln l) by unfold nextP; rw [if_neg h1, if_neg (Classical.not_not.2 H2.out), if_neg h3, if_neg (Classical.not_not.2 H4.out), if_neg h5, if_neg (Classical.not_not.2 H6.out), if_neg h7, if_neg h8, if_neg (Classical.not_not.2 h9)])
    have hb9 : ((lst l : Int) == 206) = true := by rw [h9]; rfl
    clear h9
    obtain ⟨V, hV, a5, c5, hV2, hlc5, hcm5, hat5⟩ := HST5.out.rd
    obtain ⟨n5, hn5⟩ : ∃ n5, n5 = (l.drop (7 + ln l + 1)).length := ⟨_, rfl⟩
    rw [← hn5] at hV2
    subst hV2
    have hd5 : n5 = l.length - (8 + ln l) := by rw [hn5, List.length_drop]; omega
    have hs1 : IntKind.i64.wrap ((l.length : Int) - (n5 : Int)) = ((8 + ln l : Nat) : Int) := by rw [IntWalk.i64_in _ (by omega)]; omega
    have hrs : RsS w (.slice a5 n5 c5) w5 := ⟨hV, ⟨_, _, _, HST5.out.res⟩, HST5.out.bel⟩
    have HRS := Lib.hid hrs
    have hatw : BytesAt B w a4 ((l.drop 7).take (ln l)) := by
      intro h0
      obtain ⟨b, o, ha, hbB, hc⟩ := HAT5.out h0
      exact ⟨b, o, ha, hbB, fun i hi => ((HST5.out.bel.mono hB).cell (p := ⟨b, o + i, none⟩) hbB).symm.trans (hc i hi)⟩
    have HATW := Lib.hid hatw
    clear hV hlc5 hcm5 hat5 hn5 hd5 hrs hatw HAT5 HST5
    have hl100 : ((l.drop 7).take (ln l)).length ≤ 100000 := by rw [HL4.out]; omega
    go_wp2_with fail
    go_region_held3 (fun wx => wx.cell? ⟨w.heap.size + 1, 0, none⟩ = some (.slice a5 n5 c5) ∧ (wx.cell? ⟨w.heap.size, 0, none⟩ = some (cellD wx w.heap.size 0) ∧ wx.cell? ⟨w.heap.size, 1, none⟩ = some (cellD wx w.heap.size 1) ∧ wx.cell? ⟨w.heap.size, 2, none⟩ = some (cellD wx w.heap.size 2)) ∧
      (wx.frozen? ⟨w.heap.size, 0, none⟩ = false ∧ wx.frozen? ⟨w.heap.size, 1, none⟩ = false ∧ wx.frozen? ⟨w.heap.size, 2, none⟩ = false) ∧ RsS w (.slice a5 n5 c5) wx)
      (first | exact (HRS.out.below (Below.refl _ _).drew).full | exact HRS.out.full | exact RsS.full (by assumption) | exact (RsS.set (by assumption) _ _ _).full)
      ((go_at_call 61; have hcp := (by assumption : _ ∧ _ ∧ _ ∧ RsS _ _ _).2.2.2; have hown := own_any a4 c4 B ((l.drop 7).take (ln l)) hl100 _ (HATW.out.under (hcp.2.2.mono hB)); rw [HL4.out] at hown; refine hown.mono ?_; clear hown; rintro e w6 ⟨v6, rfl, hbuf6, hb6⟩; obtain ⟨a6, c6, rfl, hl6, hm6⟩ := hbuf6.form; rw [HL4.out] at hl6 hbuf6 ⊢; have hcq := hcp.below hb6; have HBUF6 := Lib.hid hbuf6; clear hbuf6 hb6 hcp))
    rename_i hHeld
    clear hHeld
    have hrow := hcq.row (.int .i64 (kd l)) (.int .i64 (cn l)) (.slice a6 (ln l) c6)
    have hset := (hcq.set (.int .i64 (kd l)) (.int .i64 (cn l)) (.slice a6 (ln l) c6)).2.2
    have hb6 := HBUF6.out.bytes
    have hsz : (((w6.setCell ⟨w.heap.size, 0, none⟩ (.int .i64 (kd l))).setCell ⟨w.heap.size, 1, none⟩ (.int .i64 (cn l))).setCell ⟨w.heap.size, 2, none⟩ (.slice a6 (ln l) c6)).heap.size = w6.heap.size := by simp [World.setCell]
    have hdat : BytesAt w6.heap.size (((w6.setCell ⟨w.heap.size, 0, none⟩ (.int .i64 (kd l))).setCell ⟨w.heap.size, 1, none⟩ (.int .i64 (cn l))).setCell ⟨w.heap.size, 2, none⟩ (.slice a6 (ln l) c6)) a6 ((l.drop 7).take (ln l)) := by
      obtain ⟨a', c', he, _, _, hat⟩ := hb6
      obtain ⟨rfl, -, rfl⟩ := Value.slice.inj he
      intro h0
      obtain ⟨b, o, ha, hbB, hc⟩ := hat h0
      have hne : b ≠ w.heap.size := by
        have hlt5 := HRS.out.2.2.size
        have h5 := (Array.getElem?_eq_some_iff.1 HRS.out.1).1
        have := World.ownsRow.lt HBUF6.out b (by rw [ha]; rfl)
        simp at this
        omega
      exact ⟨b, o, ha, hbB, fun i hi => by rw [World.cell?_setCell_other _ _ _ _ (fun e => hne (congrArg Addr.block e).symm), World.cell?_setCell_other _ _ _ _ (fun e => hne (congrArg Addr.block e).symm), World.cell?_setCell_other _ _ _ _ (fun e => hne (congrArg Addr.block e).symm)]; exact hc i hi⟩
    have hlow : ∀ x, a6 = some x → w.heap.size ≤ x.block := by
      intro x hx
      have hlt5 := HRS.out.2.2.size
      have := (World.ownsRow.lt HBUF6.out x.block (by rw [hx]; rfl)).1
      simp at this
      omega
    have HLOW := Lib.hid hlow
    clear hlow
    obtain ⟨c0, c1, c2⟩ := cells3 hrow
    have HSET := Lib.hid hset
    have HSZ := Lib.hid hsz
    have HDAT := Lib.hid hdat
    generalize ((w6.setCell ⟨w.heap.size, 0, none⟩ (.int .i64 (kd l))).setCell ⟨w.heap.size, 1, none⟩ (.int .i64 (cn l))).setCell ⟨w.heap.size, 2, none⟩ (.slice a6 (ln l) c6) = wz at *
    clear hrow hset hsz hdat hb6 HRS HBUF6 hcq hs1
    go_wp2_with fail
    refine ahead_ret ?_
    refine bodyPost_ret (v := .tuple #[.agg #[.int .i64 (kd l), .int .i64 (cn l), .slice a6 (ln l) c6], .int .i64 ((8 + ln l : Nat) : Int), .int .i64 0]) (by simp [results, Try.results33, go_sem, *]) rfl ?_
    refine ⟨HSET.out, .inr (.inr ⟨_, _, a6, c6, HX.out, ?_, ?_, hm6, ?_, HLOW.out⟩)⟩
    · show _ = Ending.returned (.tuple #[Value.agg #[_, _, .slice a6 ((l.drop 7).take (ln l)).length c6], _, _])
      rw [HL4.out]
      rfl
    · show ((l.drop 7).take (ln l)).length ≤ c6
      rw [HL4.out]; exact hl6
    · rw [HSZ.out]; exact HDAT.out
  · rintro m a' w' ⟨hm, ⟨l', b', hr, hres, hbel⟩, u3, u4, u5, u6, u7, u8, u9, u10, u11, u12, u13, u14, u15, u16, u17, u18, u19, u20, u21, u22, u23, u24, u25, u26, u27, u28, u29, u30, u31, u32, u33, u34, u35, u36, u37, u38, u39, u40, u41, u42, u43, u44, u45, u46, u47, u48, u49, u50, u51, u52, u53, u54, u55, u56, u57, u58, u59, rfl⟩
    have f0 : w'.frozen? ⟨w.heap.size, 0, none⟩ = false := by simp [World.frozen?, hres]
    have f1 : w'.frozen? ⟨w.heap.size, 1, none⟩ = false := by simp [World.frozen?, hres]
    have f2 : w'.frozen? ⟨w.heap.size, 2, none⟩ = false := by simp [World.frozen?, hres]
    obtain ⟨c0, c1, c2⟩ := cells3 hres
    have hlt := (Array.getElem?_eq_some_iff.1 hres).1
    have HBEL := Lib.hid hbel
    rcases hm with ⟨rfl, hn⟩ | ⟨rfl, hn⟩
    · have HN := Lib.hid hn
      clear hn hr hres hbel
      refine ⟨_, rfl, ?_⟩
      go_wp2_with fail
      rw [Exit.noGoto_ret]
      refine bodyPost_ret (v := .tuple #[.agg #[.int .i64 0, .int .i64 0, .slice none 0 0], .int .i64 0, .int .i64 3]) (by simp [results, Try.results33, go_sem, *]) rfl ?_
      exact ⟨((HBEL.out.setCell (Nat.le_refl _) _).setCell (Nat.le_refl _) _).setCell (Nat.le_refl _) _, .inl ⟨HN.out, rfl⟩⟩
    · have HN := Lib.hid hn
      clear hn hr hres hbel
      refine ⟨_, rfl, ?_⟩
      go_wp2_with fail
      rw [Exit.noGoto_ret]
      refine bodyPost_ret (v := .tuple #[.agg #[.int .i64 0, .int .i64 0, .slice none 0 0], .int .i64 0, .int .i64 501]) (by simp [results, Try.results33, go_sem, *]) rfl ?_
      exact ⟨((HBEL.out.setCell (Nat.le_refl _) _).setCell (Nat.le_refl _) _).setCell (Nat.le_refl _) _, .inr (.inl ⟨HN.out, rfl⟩)⟩

end Go.Proofs.Ytpibbgencojbgaa
