/-
  package method's mayPart, takeAway, Same, May, walked.
-/
import Derived.Test.YtenpcadgelpbgaaMLeaf
import Derived.Test.YtenpcadgelpbgaaMParts
import Derived.Test.YtenpcadgelpbgaaMayT
namespace Go.Proofs.Ytenpcadgelpbgaa
open Go.RowKit
set_option linter.unusedVariables false

/-- a call in block g, its table in blocks below B. -/
structure MBox (B : Nat) (w : World) (g : Nat) (m : Me) (a : Option Addr) (cap : Nat) : Prop where
  at_ : MeAt w g m a cap
  tab : TbU w B a cap m.args
  wf : m.Wf
theorem MBox.keep {B : Nat} {w w' : World} {g : Nat} {m : Me} {a : Option Addr} {cap : Nat} (h : MBox B w g m a cap) (hk : ∀ b, b < B → w'.heap[b]? = w.heap[b]?) (hg : w'.heap[g]? = w.heap[g]?) : MBox B w' g m a cap :=
  ⟨h.at_.keep hg, h.tab.keep hk, h.wf⟩
theorem MBox.below {B : Nat} {w w' : World} {g : Nat} {m : Me} {a : Option Addr} {cap : Nat} (h : MBox B w g m a cap) (hB : B ≤ w.heap.size) (hb : Below w.heap.size w w') : MBox B w' g m a cap :=
  h.keep (fun b hb' => hb.block b (by omega)) (hb.block g h.at_.lt)
theorem MBox.lt {B : Nat} {w : World} {g : Nat} {m : Me} {a : Option Addr} {cap : Nat} (h : MBox B w g m a cap) : g < w.heap.size := h.at_.lt

theorem beq_le {n : Nat} {k : Int} : decide ((n : Int) ≤ k) = true ↔ (n : Int) ≤ k := by simp

set_option maxRecDepth 100000 in
set_option maxHeartbeats 4000000 in
theorem mayPart_any {B : Nat} {w : World} {g : Nat} {m : Me} {a : Option Addr} {cap : Nat} (h : MBox B w g m a cap) (p : Pt) :
    Calls Try.prog 35 #[.pointer (some ⟨g, 0, none⟩), .int .u8 p.byte.toNat] w (SaysB (m.MayP p) w) := by
  have hlen := h.tab.tb.len
  have HT := Lib.hid h.tab.tb
  have HA := Lib.hid h.at_
  have s1 := h.wf.s1
  have s2 := h.wf.s2
  have s3 := h.wf.s3
  have s4 := h.wf.s4
  have s5 := h.wf.s5
  have ht := h.wf.tag
  have hu1 := u64_lt m.code
  have hu2 := u64_lt m.count
  have hb1 := bitN_le m.flag
  have hb2 := bitN_le m.back
  obtain ⟨⟨c0, c1, c2, c3, c4, c5⟩, c6, c7, c8, c9, c10, c11⟩ := h.at_.cells
  unfold maxLen at hlen s1 s2 s3 s4 s5
  clear h
  cases p
  case a =>
    show Calls Try.prog _ #[.pointer (some ⟨g, 0, none⟩), .int .u8 97] w _
    go_enter Try.func35, Try.ntmps35
    go_wp2_with fail
    refine (mayTable_any _ HT.out).mono ?_
    rintro e w1 ⟨r, hr, rfl, hb⟩
    have HR := Lib.hid hr
    clear hr
    go_wp2_with fail
    go_ret
    exact ⟨r, HR.out, rfl, hb⟩
  case n =>
    show Calls Try.prog _ #[.pointer (some ⟨g, 0, none⟩), .int .u8 110] w _
    go_enter Try.func35, Try.ntmps35
    go_wp2_with fail
    refine (text_yes g .n rfl _).mono ?_
    rintro e w1 ⟨rfl, rfl⟩
    simp only [Pt.off]
    by_cases hl : m.name.size ≤ 255
    · have hi : (m.name.size : Int) ≤ 255 := by omega
      go_wp2_with fail
      go_ret
      exact ⟨true, by simpa [Me.MayP] using hl, by first | rfl | (simp [*]; done) | (simp; omega), Below.refl _ _⟩
    · have hi : ¬ (m.name.size : Int) ≤ 255 := by omega
      go_wp2_with fail
      go_ret
      exact ⟨false, by simpa [Me.MayP] using hl, by first | rfl | (simp [*]; done) | (simp; omega), Below.refl _ _⟩
  case y =>
    show Calls Try.prog _ #[.pointer (some ⟨g, 0, none⟩), .int .u8 121] w _
    go_enter Try.func35, Try.ntmps35
    go_wp2_with fail
    refine (text_yes g .y rfl _).mono ?_
    rintro e w1 ⟨rfl, rfl⟩
    simp only [Pt.off]
    by_cases hl : m.typ.size ≤ 255
    · have hi : (m.typ.size : Int) ≤ 255 := by omega
      go_wp2_with fail
      go_ret
      exact ⟨true, by simpa [Me.MayP] using hl, by first | rfl | (simp [*]; done) | (simp; omega), Below.refl _ _⟩
    · have hi : ¬ (m.typ.size : Int) ≤ 255 := by omega
      go_wp2_with fail
      go_ret
      exact ⟨false, by simpa [Me.MayP] using hl, by first | rfl | (simp [*]; done) | (simp; omega), Below.refl _ _⟩
  case e =>
    show Calls Try.prog _ #[.pointer (some ⟨g, 0, none⟩), .int .u8 101] w _
    go_enter Try.func35, Try.ntmps35
    go_wp2_with fail
    refine (text_yes g .e rfl _).mono ?_
    rintro e w1 ⟨rfl, rfl⟩
    simp only [Pt.off]
    by_cases hl : m.ex.size ≤ 255
    · have hi : (m.ex.size : Int) ≤ 255 := by omega
      go_wp2_with fail
      go_ret
      exact ⟨true, by simpa [Me.MayP] using hl, by first | rfl | (simp [*]; done) | (simp; omega), Below.refl _ _⟩
    · have hi : ¬ (m.ex.size : Int) ≤ 255 := by omega
      go_wp2_with fail
      go_ret
      exact ⟨false, by simpa [Me.MayP] using hl, by first | rfl | (simp [*]; done) | (simp; omega), Below.refl _ _⟩
  case k =>
    show Calls Try.prog _ #[.pointer (some ⟨g, 0, none⟩), .int .u8 107] w _
    go_enter Try.func35, Try.ntmps35
    go_wp2_with fail
    refine (text_yes g .k rfl _).mono ?_
    rintro e w1 ⟨rfl, rfl⟩
    simp only [Pt.off]
    by_cases hl : m.key.size ≤ 255
    · have hi : (m.key.size : Int) ≤ 255 := by omega
      go_wp2_with fail
      go_ret
      exact ⟨true, by simpa [Me.MayP] using hl, by first | rfl | (simp [*]; done) | (simp; omega), Below.refl _ _⟩
    · have hi : ¬ (m.key.size : Int) ≤ 255 := by omega
      go_wp2_with fail
      go_ret
      exact ⟨false, by simpa [Me.MayP] using hl, by first | rfl | (simp [*]; done) | (simp; omega), Below.refl _ _⟩
  case x =>
    show Calls Try.prog _ #[.pointer (some ⟨g, 0, none⟩), .int .u8 120] w _
    go_enter Try.func35, Try.ntmps35
    go_wp2_with fail
    refine (text_yes g .x rfl _).mono ?_
    rintro e w1 ⟨rfl, rfl⟩
    simp only [Pt.off]
    by_cases hl : m.text.size ≤ 255
    · have hi : (m.text.size : Int) ≤ 255 := by omega
      go_wp2_with fail
      go_ret
      exact ⟨true, by simpa [Me.MayP] using hl, by first | rfl | (simp [*]; done) | (simp; omega), Below.refl _ _⟩
    · have hi : ¬ (m.text.size : Int) ≤ 255 := by omega
      go_wp2_with fail
      go_ret
      exact ⟨false, by simpa [Me.MayP] using hl, by first | rfl | (simp [*]; done) | (simp; omega), Below.refl _ _⟩
  case c =>
    show Calls Try.prog _ #[.pointer (some ⟨g, 0, none⟩), .int .u8 99] w _
    go_enter Try.func35, Try.ntmps35
    go_wp2_with fail
    refine (text_no g .c rfl _).mono ?_
    rintro e w1 ⟨rfl, rfl⟩
    go_wp2_with fail
    refine (num_any HA.out .c rfl (by decide)).mono ?_
    rintro e w1 ⟨he, rfl⟩
    replace he : e = .returned (.tuple #[.int .u64 (u64 m.code : Nat), .int .i64 2]) := he
    subst he
    go_wp2_with fail
    go_ret
    refine ⟨_, ?_, rfl, Below.refl _ _⟩
    simp only [Me.MayP]
    first | (simp; done) | (simp; omega) | (rw [beq_iff_eq]; omega)
  case u =>
    show Calls Try.prog _ #[.pointer (some ⟨g, 0, none⟩), .int .u8 117] w _
    go_enter Try.func35, Try.ntmps35
    go_wp2_with fail
    refine (text_no g .u rfl _).mono ?_
    rintro e w1 ⟨rfl, rfl⟩
    go_wp2_with fail
    refine (num_any HA.out .u rfl (by decide)).mono ?_
    rintro e w1 ⟨he, rfl⟩
    replace he : e = .returned (.tuple #[.int .u64 (u64 m.count : Nat), .int .i64 4]) := he
    subst he
    go_wp2_with fail
    go_ret
    refine ⟨_, ?_, rfl, Below.refl _ _⟩
    simp only [Me.MayP]
    first | (simp; done) | (simp; omega) | (rw [beq_iff_eq]; omega)
  case t =>
    show Calls Try.prog _ #[.pointer (some ⟨g, 0, none⟩), .int .u8 116] w _
    go_enter Try.func35, Try.ntmps35
    go_wp2_with fail
    refine (text_no g .t rfl _).mono ?_
    rintro e w1 ⟨rfl, rfl⟩
    go_wp2_with fail
    refine (num_any HA.out .t rfl (by decide)).mono ?_
    rintro e w1 ⟨he, rfl⟩
    replace he : e = .returned (.tuple #[.int .u64 (m.tag : Nat), .int .i64 8]) := he
    subst he
    go_wp2_with fail
    go_ret
    refine ⟨_, ?_, rfl, Below.refl _ _⟩
    simp only [Me.MayP]
    first | (simp; done) | (simp; omega) | (rw [beq_iff_eq]; omega)
  case f =>
    show Calls Try.prog _ #[.pointer (some ⟨g, 0, none⟩), .int .u8 102] w _
    go_enter Try.func35, Try.ntmps35
    go_wp2_with fail
    refine (text_no g .f rfl _).mono ?_
    rintro e w1 ⟨rfl, rfl⟩
    go_wp2_with fail
    refine (num_any HA.out .f rfl (by decide)).mono ?_
    rintro e w1 ⟨he, rfl⟩
    replace he : e = .returned (.tuple #[.int .u64 (bitN m.flag : Nat), .int .i64 1]) := he
    subst he
    go_wp2_with fail
    go_ret
    refine ⟨_, ?_, rfl, Below.refl _ _⟩
    simp only [Me.MayP]
    first | (simp; done) | (simp; omega) | (rw [beq_iff_eq]; omega)
  case b =>
    show Calls Try.prog _ #[.pointer (some ⟨g, 0, none⟩), .int .u8 98] w _
    go_enter Try.func35, Try.ntmps35
    go_wp2_with fail
    refine (text_no g .b rfl _).mono ?_
    rintro e w1 ⟨rfl, rfl⟩
    go_wp2_with fail
    refine (num_any HA.out .b rfl (by decide)).mono ?_
    rintro e w1 ⟨he, rfl⟩
    replace he : e = .returned (.tuple #[.int .u64 (bitN m.back : Nat), .int .i64 1]) := he
    subst he
    go_wp2_with fail
    go_ret
    refine ⟨_, ?_, rfl, Below.refl _ _⟩
    simp only [Me.MayP]
    first | (simp; done) | (simp; omega) | (rw [beq_iff_eq]; omega)

def TakeQ (B g : Nat) (m : Me) (p : Pt) (w : World) (e : Ending) (w' : World) : Prop :=
  e = .returned (.tuple #[]) ∧ (∃ a cap, MBox B w' g (m.cut p) a cap) ∧ w.grownBy w' (some g)
theorem Me.cut_wf {m : Me} (h : m.Wf) (p : Pt) : (m.cut p).Wf := by
  obtain ⟨h0, h1, h2, h3, h4, h5, h6, h7, h8, h9⟩ := h
  have e0 : (ByteArray.empty).size ≤ maxLen := by decide
  have f0 : Fits [] := ⟨fun x hx => by simp at hx, fun x hx => by simp at hx⟩
  cases p <;> exact ⟨by first | exact h0 | exact e0, by first | exact h1 | exact e0, by first | exact h2 | exact e0, by first | exact h3 | exact e0, by first | exact h4 | exact e0, by first | exact h5 | exact e0,
    by first | exact h6 | exact (by decide : (-9223372036854775808 : Int) ≤ 0 ∧ (0 : Int) ≤ 9223372036854775807), by first | exact h7 | exact (by decide : (-9223372036854775808 : Int) ≤ 0 ∧ (0 : Int) ≤ 9223372036854775807), by first | exact h8 | exact (by decide : (0 : Nat) < 18446744073709551616), by first | exact h9 | exact f0⟩
set_option maxRecDepth 100000 in
set_option maxHeartbeats 4000000 in
theorem takeAway_any {B : Nat} {w : World} {g : Nat} {m : Me} {a : Option Addr} {cap : Nat} (h : MBox B w g m a cap) (hB : B ≤ g) (p : Pt) :
    Calls Try.prog 36 #[.pointer (some ⟨g, 0, none⟩), .int .u8 p.byte.toNat] w (TakeQ B g m p w) := by
  obtain ⟨⟨c0, c1, c2, c3, c4, c5⟩, c6, c7, c8, c9, c10, c11⟩ := h.at_.cells
  have hf := h.at_.frozen
  have f1 := hf 1
  have f2 := hf 2
  have f3 := hf 3
  have f4 := hf 4
  have f5 := hf 5
  have f11 := hf 11
  have H := Lib.hid h
  clear hf h
  have hk : ∀ (w' : World), w.grownBy w' (some g) → ∀ b, b < B → w'.heap[b]? = w.heap[b]? := fun w' hg b hb => hg.block b (Nat.lt_of_lt_of_le hb (Nat.le_trans hB (Nat.le_of_lt H.out.lt))) (by simp; omega)
  have HK := Lib.hid hk
  clear hk
  have hwf := Me.cut_wf H.out.wf p
  have HW := Lib.hid hwf
  clear hwf
  cases p
  case a =>
    show Calls Try.prog _ #[.pointer (some ⟨g, 0, none⟩), .int .u8 97] w _
    go_enter Try.func36, Try.ntmps36
    go_wp2_with fail
    go_returns
    exact ⟨rfl, ⟨none, 0, by unfold MeAt; rw [set_heap H.out.at_]; rfl, ⟨[], SlAt.nil _ _ (by decide), by simp⟩, HW.out⟩, set_grown _ _ _ _⟩
  case n =>
    show Calls Try.prog _ #[.pointer (some ⟨g, 0, none⟩), .int .u8 110] w _
    go_enter Try.func36, Try.ntmps36
    go_wp2_with fail
    refine (text_yes g .n rfl _).mono ?_
    rintro e w1 ⟨rfl, rfl⟩
    simp only [Pt.off]
    go_wp2_with fail
    go_returns
    exact ⟨rfl, ⟨a, cap, by unfold MeAt; rw [set_heap H.out.at_]; rfl, H.out.tab.keep (HK.out _ (set_grown _ _ _ _)), HW.out⟩, set_grown _ _ _ _⟩
  case y =>
    show Calls Try.prog _ #[.pointer (some ⟨g, 0, none⟩), .int .u8 121] w _
    go_enter Try.func36, Try.ntmps36
    go_wp2_with fail
    refine (text_yes g .y rfl _).mono ?_
    rintro e w1 ⟨rfl, rfl⟩
    simp only [Pt.off]
    go_wp2_with fail
    go_returns
    exact ⟨rfl, ⟨a, cap, by unfold MeAt; rw [set_heap H.out.at_]; rfl, H.out.tab.keep (HK.out _ (set_grown _ _ _ _)), HW.out⟩, set_grown _ _ _ _⟩
  case e =>
    show Calls Try.prog _ #[.pointer (some ⟨g, 0, none⟩), .int .u8 101] w _
    go_enter Try.func36, Try.ntmps36
    go_wp2_with fail
    refine (text_yes g .e rfl _).mono ?_
    rintro e w1 ⟨rfl, rfl⟩
    simp only [Pt.off]
    go_wp2_with fail
    go_returns
    exact ⟨rfl, ⟨a, cap, by unfold MeAt; rw [set_heap H.out.at_]; rfl, H.out.tab.keep (HK.out _ (set_grown _ _ _ _)), HW.out⟩, set_grown _ _ _ _⟩
  case k =>
    show Calls Try.prog _ #[.pointer (some ⟨g, 0, none⟩), .int .u8 107] w _
    go_enter Try.func36, Try.ntmps36
    go_wp2_with fail
    refine (text_yes g .k rfl _).mono ?_
    rintro e w1 ⟨rfl, rfl⟩
    simp only [Pt.off]
    go_wp2_with fail
    go_returns
    exact ⟨rfl, ⟨a, cap, by unfold MeAt; rw [set_heap H.out.at_]; rfl, H.out.tab.keep (HK.out _ (set_grown _ _ _ _)), HW.out⟩, set_grown _ _ _ _⟩
  case x =>
    show Calls Try.prog _ #[.pointer (some ⟨g, 0, none⟩), .int .u8 120] w _
    go_enter Try.func36, Try.ntmps36
    go_wp2_with fail
    refine (text_yes g .x rfl _).mono ?_
    rintro e w1 ⟨rfl, rfl⟩
    simp only [Pt.off]
    go_wp2_with fail
    go_returns
    exact ⟨rfl, ⟨a, cap, by unfold MeAt; rw [set_heap H.out.at_]; rfl, H.out.tab.keep (HK.out _ (set_grown _ _ _ _)), HW.out⟩, set_grown _ _ _ _⟩
  case c =>
    show Calls Try.prog _ #[.pointer (some ⟨g, 0, none⟩), .int .u8 99] w _
    go_enter Try.func36, Try.ntmps36
    go_wp2_with fail
    refine (text_no g .c rfl _).mono ?_
    rintro e w1 ⟨rfl, rfl⟩
    go_wp2_with fail
    refine (setNum_any H.out.at_ .c rfl (by decide) 0 (by decide)).mono ?_
    rintro e w1 ⟨rfl, hm, hg, hz⟩
    go_wp2_with fail
    go_returns
    exact ⟨rfl, ⟨a, cap, hm, H.out.tab.keep (HK.out _ hg), HW.out⟩, hg⟩
  case u =>
    show Calls Try.prog _ #[.pointer (some ⟨g, 0, none⟩), .int .u8 117] w _
    go_enter Try.func36, Try.ntmps36
    go_wp2_with fail
    refine (text_no g .u rfl _).mono ?_
    rintro e w1 ⟨rfl, rfl⟩
    go_wp2_with fail
    refine (setNum_any H.out.at_ .u rfl (by decide) 0 (by decide)).mono ?_
    rintro e w1 ⟨rfl, hm, hg, hz⟩
    go_wp2_with fail
    go_returns
    exact ⟨rfl, ⟨a, cap, hm, H.out.tab.keep (HK.out _ hg), HW.out⟩, hg⟩
  case t =>
    show Calls Try.prog _ #[.pointer (some ⟨g, 0, none⟩), .int .u8 116] w _
    go_enter Try.func36, Try.ntmps36
    go_wp2_with fail
    refine (text_no g .t rfl _).mono ?_
    rintro e w1 ⟨rfl, rfl⟩
    go_wp2_with fail
    refine (setNum_any H.out.at_ .t rfl (by decide) 0 (by decide)).mono ?_
    rintro e w1 ⟨rfl, hm, hg, hz⟩
    go_wp2_with fail
    go_returns
    exact ⟨rfl, ⟨a, cap, hm, H.out.tab.keep (HK.out _ hg), HW.out⟩, hg⟩
  case f =>
    show Calls Try.prog _ #[.pointer (some ⟨g, 0, none⟩), .int .u8 102] w _
    go_enter Try.func36, Try.ntmps36
    go_wp2_with fail
    refine (text_no g .f rfl _).mono ?_
    rintro e w1 ⟨rfl, rfl⟩
    go_wp2_with fail
    refine (setNum_any H.out.at_ .f rfl (by decide) 0 (by decide)).mono ?_
    rintro e w1 ⟨rfl, hm, hg, hz⟩
    go_wp2_with fail
    go_returns
    exact ⟨rfl, ⟨a, cap, hm, H.out.tab.keep (HK.out _ hg), HW.out⟩, hg⟩
  case b =>
    show Calls Try.prog _ #[.pointer (some ⟨g, 0, none⟩), .int .u8 98] w _
    go_enter Try.func36, Try.ntmps36
    go_wp2_with fail
    refine (text_no g .b rfl _).mono ?_
    rintro e w1 ⟨rfl, rfl⟩
    go_wp2_with fail
    refine (setNum_any H.out.at_ .b rfl (by decide) 0 (by decide)).mono ?_
    rintro e w1 ⟨rfl, hm, hg, hz⟩
    go_wp2_with fail
    go_returns
    exact ⟨rfl, ⟨a, cap, hm, H.out.tab.keep (HK.out _ hg), HW.out⟩, hg⟩

end Go.Proofs.Ytenpcadgelpbgaa
