/-
  package method's mayPart, takeAway, Same, May, walked.
  package method's Same: what it answers, whatever the tables' Same is.
  package method's Same, walked, where some part is another one.
  package method's Same, walked, where some part is another one.
  package method's Same, walked, where some part is another one.
  package method's Same, walked, where some part is another one.
  package method's Same, walked.
  letters as a text: what stands first, and the rest.
  package value's reader: take, number, counted, kind, walked.
  package value's reader: value, table; Get; walked.
-/
import Derived.Test.YtjnnpgmgjdhfjaaQMPartsxffdf
import Derived.Test.YtjnnpgmgjdhfjaaQMDatxdcef
import Derived.Test.YtjnnpgmgjdhfjaaQOctDxbefc
import Derived.Laws.Strings3
import Derived.Test.YtjnnpgmgjdhfjaaQCLeafxefbf
import Derived.Test.YtjnnpgmgjdhfjaaQLeafsxafcc
import Derived.Lib.Bytealg
import Derived.IntWalk
import Derived.Laws.Externs
import Derived.Laws.Bits64b
import Derived.Laws.BytesString
namespace Go.Proofs.Ytjnnpgmgjdhfjaa
open Go.RowKit
set_option linter.unusedVariables false

/-- a call in block g, its table in blocks below B. -/
structure MBox (B : Nat) (w : World) (g : Nat) (m : Me) (a : Option Addr) (cap : Nat) : Prop where
  at_ : MeAt w g m a cap
  tab : TbU w B a cap m.args
  wf : m.Wf
theorem MBox.keep {B : Nat} {w w' : World} {g : Nat} {m : Me} {a : Option Addr} {cap : Nat} (h : MBox B w g m a cap) (hk : ∀ b, b < B → w'.heap[b]? = w.heap[b]?) (hg : w'.heap[g]? = w.heap[g]?) : MBox B w' g m a cap :=
  ⟨h.at_.keep hg, h.tab.keep hk, h.wf⟩
theorem MBox.below {B : Nat} {w w' : World} {g : Nat} {m : Me} {a : Option Addr} {cap : Nat} (h : MBox B w g m a cap) (hB : B ≤ w.heap.size) (hb : Below w.heap.size w w') : MBox B w' g m a cap :=
  h.keep (fun b hb' => hb.block b (by omega)) (hb.block g h.at_.lt)
theorem MBox.lt {B : Nat} {w : World} {g : Nat} {m : Me} {a : Option Addr} {cap : Nat} (h : MBox B w g m a cap) : g < w.heap.size := h.at_.lt

theorem beq_le {n : Nat} {k : Int} : decide ((n : Int) ≤ k) = true ↔ (n : Int) ≤ k := by simp

set_option maxRecDepth 100000 in
set_option maxHeartbeats 4000000 in
theorem mayPart_any {B : Nat} {w : World} {g : Nat} {m : Me} {a : Option Addr} {cap : Nat} (h : MBox B w g m a cap) (p : Pt) :
    Calls Try.prog 52 #[.pointer (some ⟨g, 0, none⟩), .int .u8 p.byte.toNat] w (SaysB (m.MayP p) w) := by
  have hlen := h.tab.tb.len
  have HT := Lib.hid h.tab.tb
  have HA := Lib.hid h.at_
  have s1 := h.wf.s1
  have s2 := h.wf.s2
  have s3 := h.wf.s3
  have s4 := h.wf.s4
  have s5 := h.wf.s5
  have ht := h.wf.tag
  have hu1 := u64_lt m.code
  have hu2 := u64_lt m.count
  have hb1 := bitN_le m.flag
  have hb2 := bitN_le m.back
  obtain ⟨⟨c0, c1, c2, c3, c4, c5⟩, c6, c7, c8, c9, c10, c11⟩ := h.at_.cells
  unfold maxLen at hlen s1 s2 s3 s4 s5
  clear h
  cases p
  case a =>
    show Calls Try.prog _ #[.pointer (some ⟨g, 0, none⟩), .int .u8 97] w _
    go_enter Try.func52, Try.ntmps52
    go_wp2_with fail
    refine (mayTable_any _ HT.out).mono ?_
    rintro e w1 ⟨r, hr, rfl, hb⟩
    have HR := Lib.hid hr
    clear hr
    go_wp2_with fail
    go_ret
    exact ⟨r, HR.out, rfl, hb⟩
  case n =>
    show Calls Try.prog _ #[.pointer (some ⟨g, 0, none⟩), .int .u8 110] w _
    go_enter Try.func52, Try.ntmps52
    go_wp2_with fail
    refine (text_yes g .n rfl _).mono ?_
    rintro e w1 ⟨rfl, rfl⟩
    simp only [Pt.off]
    by_cases hl : m.name.size ≤ 255
    · have hi : (m.name.size : Int) ≤ 255 := by omega
      go_wp2_with fail
      go_ret
      exact ⟨true, by simpa [Me.MayP] using hl, by first | rfl | (simp [*]; done) | (simp; omega), Below.refl _ _⟩
    · have hi : ¬ (m.name.size : Int) ≤ 255 := by omega
      go_wp2_with fail
      go_ret
      exact ⟨false, by simpa [Me.MayP] using hl, by first | rfl | (simp [*]; done) | (simp; omega), Below.refl _ _⟩
  case y =>
    show Calls Try.prog _ #[.pointer (some ⟨g, 0, none⟩), .int .u8 121] w _
    go_enter Try.func52, Try.ntmps52
    go_wp2_with fail
    refine (text_yes g .y rfl _).mono ?_
    rintro e w1 ⟨rfl, rfl⟩
    simp only [Pt.off]
    by_cases hl : m.typ.size ≤ 255
    · have hi : (m.typ.size : Int) ≤ 255 := by omega
      go_wp2_with fail
      go_ret
      exact ⟨true, by simpa [Me.MayP] using hl, by first | rfl | (simp [*]; done) | (simp; omega), Below.refl _ _⟩
    · have hi : ¬ (m.typ.size : Int) ≤ 255 := by omega
      go_wp2_with fail
      go_ret
      exact ⟨false, by simpa [Me.MayP] using hl, by first | rfl | (simp [*]; done) | (simp; omega), Below.refl _ _⟩
  case e =>
    show Calls Try.prog _ #[.pointer (some ⟨g, 0, none⟩), .int .u8 101] w _
    go_enter Try.func52, Try.ntmps52
    go_wp2_with fail
    refine (text_yes g .e rfl _).mono ?_
    rintro e w1 ⟨rfl, rfl⟩
    simp only [Pt.off]
    by_cases hl : m.ex.size ≤ 255
    · have hi : (m.ex.size : Int) ≤ 255 := by omega
      go_wp2_with fail
      go_ret
      exact ⟨true, by simpa [Me.MayP] using hl, by first | rfl | (simp [*]; done) | (simp; omega), Below.refl _ _⟩
    · have hi : ¬ (m.ex.size : Int) ≤ 255 := by omega
      go_wp2_with fail
      go_ret
      exact ⟨false, by simpa [Me.MayP] using hl, by first | rfl | (simp [*]; done) | (simp; omega), Below.refl _ _⟩
  case k =>
    show Calls Try.prog _ #[.pointer (some ⟨g, 0, none⟩), .int .u8 107] w _
    go_enter Try.func52, Try.ntmps52
    go_wp2_with fail
    refine (text_yes g .k rfl _).mono ?_
    rintro e w1 ⟨rfl, rfl⟩
    simp only [Pt.off]
    by_cases hl : m.key.size ≤ 255
    · have hi : (m.key.size : Int) ≤ 255 := by omega
      go_wp2_with fail
      go_ret
      exact ⟨true, by simpa [Me.MayP] using hl, by first | rfl | (simp [*]; done) | (simp; omega), Below.refl _ _⟩
    · have hi : ¬ (m.key.size : Int) ≤ 255 := by omega
      go_wp2_with fail
      go_ret
      exact ⟨false, by simpa [Me.MayP] using hl, by first | rfl | (simp [*]; done) | (simp; omega), Below.refl _ _⟩
  case x =>
    show Calls Try.prog _ #[.pointer (some ⟨g, 0, none⟩), .int .u8 120] w _
    go_enter Try.func52, Try.ntmps52
    go_wp2_with fail
    refine (text_yes g .x rfl _).mono ?_
    rintro e w1 ⟨rfl, rfl⟩
    simp only [Pt.off]
    by_cases hl : m.text.size ≤ 255
    · have hi : (m.text.size : Int) ≤ 255 := by omega
      go_wp2_with fail
      go_ret
      exact ⟨true, by simpa [Me.MayP] using hl, by first | rfl | (simp [*]; done) | (simp; omega), Below.refl _ _⟩
    · have hi : ¬ (m.text.size : Int) ≤ 255 := by omega
      go_wp2_with fail
      go_ret
      exact ⟨false, by simpa [Me.MayP] using hl, by first | rfl | (simp [*]; done) | (simp; omega), Below.refl _ _⟩
  case c =>
    show Calls Try.prog _ #[.pointer (some ⟨g, 0, none⟩), .int .u8 99] w _
    go_enter Try.func52, Try.ntmps52
    go_wp2_with fail
    refine (text_no g .c rfl _).mono ?_
    rintro e w1 ⟨rfl, rfl⟩
    go_wp2_with fail
    refine (num_any HA.out .c rfl (by decide)).mono ?_
    rintro e w1 ⟨he, rfl⟩
    replace he : e = .returned (.tuple #[.int .u64 (u64 m.code : Nat), .int .i64 2]) := he
    subst he
    go_wp2_with fail
    go_ret
    refine ⟨_, ?_, rfl, Below.refl _ _⟩
    simp only [Me.MayP]
    first | (simp; done) | (simp; omega) | (rw [beq_iff_eq]; omega)
  case u =>
    show Calls Try.prog _ #[.pointer (some ⟨g, 0, none⟩), .int .u8 117] w _
    go_enter Try.func52, Try.ntmps52
    go_wp2_with fail
    refine (text_no g .u rfl _).mono ?_
    rintro e w1 ⟨rfl, rfl⟩
    go_wp2_with fail
    refine (num_any HA.out .u rfl (by decide)).mono ?_
    rintro e w1 ⟨he, rfl⟩
    replace he : e = .returned (.tuple #[.int .u64 (u64 m.count : Nat), .int .i64 4]) := he
    subst he
    go_wp2_with fail
    go_ret
    refine ⟨_, ?_, rfl, Below.refl _ _⟩
    simp only [Me.MayP]
    first | (simp; done) | (simp; omega) | (rw [beq_iff_eq]; omega)
  case t =>
    show Calls Try.prog _ #[.pointer (some ⟨g, 0, none⟩), .int .u8 116] w _
    go_enter Try.func52, Try.ntmps52
    go_wp2_with fail
    refine (text_no g .t rfl _).mono ?_
    rintro e w1 ⟨rfl, rfl⟩
    go_wp2_with fail
    refine (num_any HA.out .t rfl (by decide)).mono ?_
    rintro e w1 ⟨he, rfl⟩
    replace he : e = .returned (.tuple #[.int .u64 (m.tag : Nat), .int .i64 8]) := he
    subst he
    go_wp2_with fail
    go_ret
    refine ⟨_, ?_, rfl, Below.refl _ _⟩
    simp only [Me.MayP]
    first | (simp; done) | (simp; omega) | (rw [beq_iff_eq]; omega)
  case f =>
    show Calls Try.prog _ #[.pointer (some ⟨g, 0, none⟩), .int .u8 102] w _
    go_enter Try.func52, Try.ntmps52
    go_wp2_with fail
    refine (text_no g .f rfl _).mono ?_
    rintro e w1 ⟨rfl, rfl⟩
    go_wp2_with fail
    refine (num_any HA.out .f rfl (by decide)).mono ?_
    rintro e w1 ⟨he, rfl⟩
    replace he : e = .returned (.tuple #[.int .u64 (bitN m.flag : Nat), .int .i64 1]) := he
    subst he
    go_wp2_with fail
    go_ret
    refine ⟨_, ?_, rfl, Below.refl _ _⟩
    simp only [Me.MayP]
    first | (simp; done) | (simp; omega) | (rw [beq_iff_eq]; omega)
  case b =>
    show Calls Try.prog _ #[.pointer (some ⟨g, 0, none⟩), .int .u8 98] w _
    go_enter Try.func52, Try.ntmps52
    go_wp2_with fail
    refine (text_no g .b rfl _).mono ?_
    rintro e w1 ⟨rfl, rfl⟩
    go_wp2_with fail
    refine (num_any HA.out .b rfl (by decide)).mono ?_
    rintro e w1 ⟨he, rfl⟩
    replace he : e = .returned (.tuple #[.int .u64 (bitN m.back : Nat), .int .i64 1]) := he
    subst he
    go_wp2_with fail
    go_ret
    refine ⟨_, ?_, rfl, Below.refl _ _⟩
    simp only [Me.MayP]
    first | (simp; done) | (simp; omega) | (rw [beq_iff_eq]; omega)

def TakeQ (B g : Nat) (m : Me) (p : Pt) (w : World) (e : Ending) (w' : World) : Prop :=
  e = .returned (.tuple #[]) ∧ (∃ a cap, MBox B w' g (m.cut p) a cap) ∧ w.grownBy w' (some g)
theorem Me.cut_wf {m : Me} (h : m.Wf) (p : Pt) : (m.cut p).Wf := by
  obtain ⟨h0, h1, h2, h3, h4, h5, h6, h7, h8, h9⟩ := h
  have e0 : (ByteArray.empty).size ≤ maxLen := by decide
  have f0 : Fits [] := ⟨fun x hx => by simp at hx, fun x hx => by simp at hx⟩
  cases p <;> exact ⟨by first | exact h0 | exact e0, by first | exact h1 | exact e0, by first | exact h2 | exact e0, by first | exact h3 | exact e0, by first | exact h4 | exact e0, by first | exact h5 | exact e0,
    by first | exact h6 | exact (by decide : (-9223372036854775808 : Int) ≤ 0 ∧ (0 : Int) ≤ 9223372036854775807), by first | exact h7 | exact (by decide : (-9223372036854775808 : Int) ≤ 0 ∧ (0 : Int) ≤ 9223372036854775807), by first | exact h8 | exact (by decide : (0 : Nat) < 18446744073709551616), by first | exact h9 | exact f0⟩
set_option maxRecDepth 100000 in
set_option maxHeartbeats 4000000 in
theorem takeAway_any {B : Nat} {w : World} {g : Nat} {m : Me} {a : Option Addr} {cap : Nat} (h : MBox B w g m a cap) (hB : B ≤ g) (p : Pt) :
    Calls Try.prog 53 #[.pointer (some ⟨g, 0, none⟩), .int .u8 p.byte.toNat] w (TakeQ B g m p w) := by
  obtain ⟨⟨c0, c1, c2, c3, c4, c5⟩, c6, c7, c8, c9, c10, c11⟩ := h.at_.cells
  have hf := h.at_.frozen
  have f1 := hf 1
  have f2 := hf 2
  have f3 := hf 3
  have f4 := hf 4
  have f5 := hf 5
  have f11 := hf 11
  have H := Lib.hid h
  clear hf h
  have hk : ∀ (w' : World), w.grownBy w' (some g) → ∀ b, b < B → w'.heap[b]? = w.heap[b]? := fun w' hg b hb => hg.block b (Nat.lt_of_lt_of_le hb (Nat.le_trans hB (Nat.le_of_lt H.out.lt))) (by simp; omega)
  have HK := Lib.hid hk
  clear hk
  have hwf := Me.cut_wf H.out.wf p
  have HW := Lib.hid hwf
  clear hwf
  cases p
  case a =>
    show Calls Try.prog _ #[.pointer (some ⟨g, 0, none⟩), .int .u8 97] w _
    go_enter Try.func53, Try.ntmps53
    go_wp2_with fail
    go_returns
    exact ⟨rfl, ⟨none, 0, by unfold MeAt; rw [set_heap H.out.at_]; rfl, ⟨[], SlAt.nil _ _ (by decide), by simp⟩, HW.out⟩, set_grown _ _ _ _⟩
  case n =>
    show Calls Try.prog _ #[.pointer (some ⟨g, 0, none⟩), .int .u8 110] w _
    go_enter Try.func53, Try.ntmps53
    go_wp2_with fail
    refine (text_yes g .n rfl _).mono ?_
    rintro e w1 ⟨rfl, rfl⟩
    simp only [Pt.off]
    go_wp2_with fail
    go_returns
    exact ⟨rfl, ⟨a, cap, by unfold MeAt; rw [set_heap H.out.at_]; rfl, H.out.tab.keep (HK.out _ (set_grown _ _ _ _)), HW.out⟩, set_grown _ _ _ _⟩
  case y =>
    show Calls Try.prog _ #[.pointer (some ⟨g, 0, none⟩), .int .u8 121] w _
    go_enter Try.func53, Try.ntmps53
    go_wp2_with fail
    refine (text_yes g .y rfl _).mono ?_
    rintro e w1 ⟨rfl, rfl⟩
    simp only [Pt.off]
    go_wp2_with fail
    go_returns
    exact ⟨rfl, ⟨a, cap, by unfold MeAt; rw [set_heap H.out.at_]; rfl, H.out.tab.keep (HK.out _ (set_grown _ _ _ _)), HW.out⟩, set_grown _ _ _ _⟩
  case e =>
    show Calls Try.prog _ #[.pointer (some ⟨g, 0, none⟩), .int .u8 101] w _
    go_enter Try.func53, Try.ntmps53
    go_wp2_with fail
    refine (text_yes g .e rfl _).mono ?_
    rintro e w1 ⟨rfl, rfl⟩
    simp only [Pt.off]
    go_wp2_with fail
    go_returns
    exact ⟨rfl, ⟨a, cap, by unfold MeAt; rw [set_heap H.out.at_]; rfl, H.out.tab.keep (HK.out _ (set_grown _ _ _ _)), HW.out⟩, set_grown _ _ _ _⟩
  case k =>
    show Calls Try.prog _ #[.pointer (some ⟨g, 0, none⟩), .int .u8 107] w _
    go_enter Try.func53, Try.ntmps53
    go_wp2_with fail
    refine (text_yes g .k rfl _).mono ?_
    rintro e w1 ⟨rfl, rfl⟩
    simp only [Pt.off]
    go_wp2_with fail
    go_returns
    exact ⟨rfl, ⟨a, cap, by unfold MeAt; rw [set_heap H.out.at_]; rfl, H.out.tab.keep (HK.out _ (set_grown _ _ _ _)), HW.out⟩, set_grown _ _ _ _⟩
  case x =>
    show Calls Try.prog _ #[.pointer (some ⟨g, 0, none⟩), .int .u8 120] w _
    go_enter Try.func53, Try.ntmps53
    go_wp2_with fail
    refine (text_yes g .x rfl _).mono ?_
    rintro e w1 ⟨rfl, rfl⟩
    simp only [Pt.off]
    go_wp2_with fail
    go_returns
    exact ⟨rfl, ⟨a, cap, by unfold MeAt; rw [set_heap H.out.at_]; rfl, H.out.tab.keep (HK.out _ (set_grown _ _ _ _)), HW.out⟩, set_grown _ _ _ _⟩
  case c =>
    show Calls Try.prog _ #[.pointer (some ⟨g, 0, none⟩), .int .u8 99] w _
    go_enter Try.func53, Try.ntmps53
    go_wp2_with fail
    refine (text_no g .c rfl _).mono ?_
    rintro e w1 ⟨rfl, rfl⟩
    go_wp2_with fail
    refine (setNum_any H.out.at_ .c rfl (by decide) 0 (by decide)).mono ?_
    rintro e w1 ⟨rfl, hm, hg, hz⟩
    go_wp2_with fail
    go_returns
    exact ⟨rfl, ⟨a, cap, hm, H.out.tab.keep (HK.out _ hg), HW.out⟩, hg⟩
  case u =>
    show Calls Try.prog _ #[.pointer (some ⟨g, 0, none⟩), .int .u8 117] w _
    go_enter Try.func53, Try.ntmps53
    go_wp2_with fail
    refine (text_no g .u rfl _).mono ?_
    rintro e w1 ⟨rfl, rfl⟩
    go_wp2_with fail
    refine (setNum_any H.out.at_ .u rfl (by decide) 0 (by decide)).mono ?_
    rintro e w1 ⟨rfl, hm, hg, hz⟩
    go_wp2_with fail
    go_returns
    exact ⟨rfl, ⟨a, cap, hm, H.out.tab.keep (HK.out _ hg), HW.out⟩, hg⟩
  case t =>
    show Calls Try.prog _ #[.pointer (some ⟨g, 0, none⟩), .int .u8 116] w _
    go_enter Try.func53, Try.ntmps53
    go_wp2_with fail
    refine (text_no g .t rfl _).mono ?_
    rintro e w1 ⟨rfl, rfl⟩
    go_wp2_with fail
    refine (setNum_any H.out.at_ .t rfl (by decide) 0 (by decide)).mono ?_
    rintro e w1 ⟨rfl, hm, hg, hz⟩
    go_wp2_with fail
    go_returns
    exact ⟨rfl, ⟨a, cap, hm, H.out.tab.keep (HK.out _ hg), HW.out⟩, hg⟩
  case f =>
    show Calls Try.prog _ #[.pointer (some ⟨g, 0, none⟩), .int .u8 102] w _
    go_enter Try.func53, Try.ntmps53
    go_wp2_with fail
    refine (text_no g .f rfl _).mono ?_
    rintro e w1 ⟨rfl, rfl⟩
    go_wp2_with fail
    refine (setNum_any H.out.at_ .f rfl (by decide) 0 (by decide)).mono ?_
    rintro e w1 ⟨rfl, hm, hg, hz⟩
    go_wp2_with fail
    go_returns
    exact ⟨rfl, ⟨a, cap, hm, H.out.tab.keep (HK.out _ hg), HW.out⟩, hg⟩
  case b =>
    show Calls Try.prog _ #[.pointer (some ⟨g, 0, none⟩), .int .u8 98] w _
    go_enter Try.func53, Try.ntmps53
    go_wp2_with fail
    refine (text_no g .b rfl _).mono ?_
    rintro e w1 ⟨rfl, rfl⟩
    go_wp2_with fail
    refine (setNum_any H.out.at_ .b rfl (by decide) 0 (by decide)).mono ?_
    rintro e w1 ⟨rfl, hm, hg, hz⟩
    go_wp2_with fail
    go_returns
    exact ⟨rfl, ⟨a, cap, hm, H.out.tab.keep (HK.out _ hg), HW.out⟩, hg⟩

end Go.Proofs.Ytjnnpgmgjdhfjaa

namespace Go.Proofs.Ytjnnpgmgjdhfjaa
open Go.RowKit
set_option linter.unusedVariables false

/-- all but the tables are the same. -/
def HeadEq (m s : Me) : Prop := m.id = s.id ∧ m.name = s.name ∧ m.typ = s.typ ∧ m.ex = s.ex ∧ m.key = s.key ∧ m.text = s.text ∧ m.code = s.code ∧ m.count = s.count ∧ m.tag = s.tag ∧ m.flag = s.flag ∧ m.back = s.back
theorem HeadEq.eq {m s : Me} (h : HeadEq m s) (ha : m.args = s.args) : m = s := by
  obtain ⟨h0, h1, h2, h3, h4, h5, h6, h7, h8, h9, h10⟩ := h
  cases m; cases s
  simp only at *
  simp_all
theorem HeadEq.refl (m : Me) : HeadEq m m := ⟨rfl, rfl, rfl, rfl, rfl, rfl, rfl, rfl, rfl, rfl, rfl⟩

/-- Same's answer, Q being that of the tables. -/
def SameM (m s : Me) (Q : Bool → Prop) (w : World) (e : Ending) (w' : World) : Prop :=
  ∃ r : Bool, e = .returned (.bool r) ∧ Below w.heap.size w w' ∧ ((HeadEq m s ∧ Q r) ∨ (¬ HeadEq m s ∧ r = false))
theorem same_boxes (w : World) (c d : Array Value) : Below w.heap.size w ((w.alloc (.cells c 25)).alloc (.cells d 25)) := ((Below.refl _ _).alloc (Nat.le_refl _) _).alloc (by simp) _

end Go.Proofs.Ytjnnpgmgjdhfjaa

namespace Go.Proofs.Ytjnnpgmgjdhfjaa
open Go.RowKit
set_option linter.unusedVariables false

set_option maxRecDepth 100000 in
set_option maxHeartbeats 4000000 in
theorem same_no0 {w : World} {m s : Me} {a b : Option Addr} {cap cap' : Nat}  (q0 : (m.id == s.id) = false) :
    Calls Try.prog 54 #[.agg (meC m a cap), .agg (meC s b cap')] w (fun e w' => e = .returned (.bool false) ∧ Below w.heap.size w w') := by
  have HB := Lib.hid (same_boxes w (meC m a cap) (meC s b cap'))
  unfold meC at *
  go_enter Try.func54, Try.ntmps54
  go_wp2_with fail
  go_ret
  exact ⟨by first | rfl | (simp [*]; done), HB.out⟩
set_option maxRecDepth 100000 in
set_option maxHeartbeats 4000000 in
theorem same_no1 {w : World} {m s : Me} {a b : Option Addr} {cap cap' : Nat} (q0 : (m.id == s.id) = true) (q1 : (m.name.toList == s.name.toList) = false) :
    Calls Try.prog 54 #[.agg (meC m a cap), .agg (meC s b cap')] w (fun e w' => e = .returned (.bool false) ∧ Below w.heap.size w w') := by
  have HB := Lib.hid (same_boxes w (meC m a cap) (meC s b cap'))
  unfold meC at *
  go_enter Try.func54, Try.ntmps54
  go_wp2_with fail
  go_ret
  exact ⟨by first | rfl | (simp [*]; done), HB.out⟩
set_option maxRecDepth 100000 in
set_option maxHeartbeats 4000000 in
theorem same_no2 {w : World} {m s : Me} {a b : Option Addr} {cap cap' : Nat} (q0 : (m.id == s.id) = true) (q1 : (m.name.toList == s.name.toList) = true) (q2 : (m.typ.toList == s.typ.toList) = false) :
    Calls Try.prog 54 #[.agg (meC m a cap), .agg (meC s b cap')] w (fun e w' => e = .returned (.bool false) ∧ Below w.heap.size w w') := by
  have HB := Lib.hid (same_boxes w (meC m a cap) (meC s b cap'))
  unfold meC at *
  go_enter Try.func54, Try.ntmps54
  go_wp2_with fail
  go_ret
  exact ⟨by first | rfl | (simp [*]; done), HB.out⟩

end Go.Proofs.Ytjnnpgmgjdhfjaa

namespace Go.Proofs.Ytjnnpgmgjdhfjaa
open Go.RowKit
set_option linter.unusedVariables false

set_option maxRecDepth 100000 in
set_option maxHeartbeats 4000000 in
theorem same_no3 {w : World} {m s : Me} {a b : Option Addr} {cap cap' : Nat} (q0 : (m.id == s.id) = true) (q1 : (m.name.toList == s.name.toList) = true) (q2 : (m.typ.toList == s.typ.toList) = true) (q3 : (m.ex.toList == s.ex.toList) = false) :
    Calls Try.prog 54 #[.agg (meC m a cap), .agg (meC s b cap')] w (fun e w' => e = .returned (.bool false) ∧ Below w.heap.size w w') := by
  have HB := Lib.hid (same_boxes w (meC m a cap) (meC s b cap'))
  unfold meC at *
  go_enter Try.func54, Try.ntmps54
  go_wp2_with fail
  go_ret
  exact ⟨by first | rfl | (simp [*]; done), HB.out⟩
set_option maxRecDepth 100000 in
set_option maxHeartbeats 4000000 in
theorem same_no4 {w : World} {m s : Me} {a b : Option Addr} {cap cap' : Nat} (q0 : (m.id == s.id) = true) (q1 : (m.name.toList == s.name.toList) = true) (q2 : (m.typ.toList == s.typ.toList) = true) (q3 : (m.ex.toList == s.ex.toList) = true) (q4 : (m.key.toList == s.key.toList) = false) :
    Calls Try.prog 54 #[.agg (meC m a cap), .agg (meC s b cap')] w (fun e w' => e = .returned (.bool false) ∧ Below w.heap.size w w') := by
  have HB := Lib.hid (same_boxes w (meC m a cap) (meC s b cap'))
  unfold meC at *
  go_enter Try.func54, Try.ntmps54
  go_wp2_with fail
  go_ret
  exact ⟨by first | rfl | (simp [*]; done), HB.out⟩
set_option maxRecDepth 100000 in
set_option maxHeartbeats 4000000 in
theorem same_no5 {w : World} {m s : Me} {a b : Option Addr} {cap cap' : Nat} (q0 : (m.id == s.id) = true) (q1 : (m.name.toList == s.name.toList) = true) (q2 : (m.typ.toList == s.typ.toList) = true) (q3 : (m.ex.toList == s.ex.toList) = true) (q4 : (m.key.toList == s.key.toList) = true) (q5 : (m.text.toList == s.text.toList) = false) :
    Calls Try.prog 54 #[.agg (meC m a cap), .agg (meC s b cap')] w (fun e w' => e = .returned (.bool false) ∧ Below w.heap.size w w') := by
  have HB := Lib.hid (same_boxes w (meC m a cap) (meC s b cap'))
  unfold meC at *
  go_enter Try.func54, Try.ntmps54
  go_wp2_with fail
  go_ret
  exact ⟨by first | rfl | (simp [*]; done), HB.out⟩

end Go.Proofs.Ytjnnpgmgjdhfjaa

namespace Go.Proofs.Ytjnnpgmgjdhfjaa
open Go.RowKit
set_option linter.unusedVariables false

set_option maxRecDepth 100000 in
set_option maxHeartbeats 4000000 in
theorem same_no6 {w : World} {m s : Me} {a b : Option Addr} {cap cap' : Nat} (q0 : (m.id == s.id) = true) (q1 : (m.name.toList == s.name.toList) = true) (q2 : (m.typ.toList == s.typ.toList) = true) (q3 : (m.ex.toList == s.ex.toList) = true) (q4 : (m.key.toList == s.key.toList) = true) (q5 : (m.text.toList == s.text.toList) = true) (q6 : (m.code == s.code) = false) :
    Calls Try.prog 54 #[.agg (meC m a cap), .agg (meC s b cap')] w (fun e w' => e = .returned (.bool false) ∧ Below w.heap.size w w') := by
  have HB := Lib.hid (same_boxes w (meC m a cap) (meC s b cap'))
  unfold meC at *
  go_enter Try.func54, Try.ntmps54
  go_wp2_with fail
  go_ret
  exact ⟨by first | rfl | (simp [*]; done), HB.out⟩
set_option maxRecDepth 100000 in
set_option maxHeartbeats 4000000 in
theorem same_no7 {w : World} {m s : Me} {a b : Option Addr} {cap cap' : Nat} (q0 : (m.id == s.id) = true) (q1 : (m.name.toList == s.name.toList) = true) (q2 : (m.typ.toList == s.typ.toList) = true) (q3 : (m.ex.toList == s.ex.toList) = true) (q4 : (m.key.toList == s.key.toList) = true) (q5 : (m.text.toList == s.text.toList) = true) (q6 : (m.code == s.code) = true) (q7 : (m.count == s.count) = false) :
    Calls Try.prog 54 #[.agg (meC m a cap), .agg (meC s b cap')] w (fun e w' => e = .returned (.bool false) ∧ Below w.heap.size w w') := by
  have HB := Lib.hid (same_boxes w (meC m a cap) (meC s b cap'))
  unfold meC at *
  go_enter Try.func54, Try.ntmps54
  go_wp2_with fail
  go_ret
  exact ⟨by first | rfl | (simp [*]; done), HB.out⟩
set_option maxRecDepth 100000 in
set_option maxHeartbeats 4000000 in
theorem same_no8 {w : World} {m s : Me} {a b : Option Addr} {cap cap' : Nat} (q0 : (m.id == s.id) = true) (q1 : (m.name.toList == s.name.toList) = true) (q2 : (m.typ.toList == s.typ.toList) = true) (q3 : (m.ex.toList == s.ex.toList) = true) (q4 : (m.key.toList == s.key.toList) = true) (q5 : (m.text.toList == s.text.toList) = true) (q6 : (m.code == s.code) = true) (q7 : (m.count == s.count) = true) (q8 : ((m.tag : Int) == (s.tag : Int)) = false) :
    Calls Try.prog 54 #[.agg (meC m a cap), .agg (meC s b cap')] w (fun e w' => e = .returned (.bool false) ∧ Below w.heap.size w w') := by
  have HB := Lib.hid (same_boxes w (meC m a cap) (meC s b cap'))
  unfold meC at *
  go_enter Try.func54, Try.ntmps54
  go_wp2_with fail
  go_ret
  exact ⟨by first | rfl | (simp [*]; done), HB.out⟩

end Go.Proofs.Ytjnnpgmgjdhfjaa

namespace Go.Proofs.Ytjnnpgmgjdhfjaa
open Go.RowKit
set_option linter.unusedVariables false

set_option maxRecDepth 100000 in
set_option maxHeartbeats 4000000 in
theorem same_no9 {w : World} {m s : Me} {a b : Option Addr} {cap cap' : Nat} (q0 : (m.id == s.id) = true) (q1 : (m.name.toList == s.name.toList) = true) (q2 : (m.typ.toList == s.typ.toList) = true) (q3 : (m.ex.toList == s.ex.toList) = true) (q4 : (m.key.toList == s.key.toList) = true) (q5 : (m.text.toList == s.text.toList) = true) (q6 : (m.code == s.code) = true) (q7 : (m.count == s.count) = true) (q8 : ((m.tag : Int) == (s.tag : Int)) = true) (q9 : (m.flag == s.flag) = false) :
    Calls Try.prog 54 #[.agg (meC m a cap), .agg (meC s b cap')] w (fun e w' => e = .returned (.bool false) ∧ Below w.heap.size w w') := by
  have HB := Lib.hid (same_boxes w (meC m a cap) (meC s b cap'))
  unfold meC at *
  go_enter Try.func54, Try.ntmps54
  go_wp2_with fail
  go_ret
  exact ⟨by first | rfl | (simp [*]; done), HB.out⟩
set_option maxRecDepth 100000 in
set_option maxHeartbeats 4000000 in
theorem same_no10 {w : World} {m s : Me} {a b : Option Addr} {cap cap' : Nat} (q0 : (m.id == s.id) = true) (q1 : (m.name.toList == s.name.toList) = true) (q2 : (m.typ.toList == s.typ.toList) = true) (q3 : (m.ex.toList == s.ex.toList) = true) (q4 : (m.key.toList == s.key.toList) = true) (q5 : (m.text.toList == s.text.toList) = true) (q6 : (m.code == s.code) = true) (q7 : (m.count == s.count) = true) (q8 : ((m.tag : Int) == (s.tag : Int)) = true) (q9 : (m.flag == s.flag) = true) (q10 : (m.back == s.back) = false) :
    Calls Try.prog 54 #[.agg (meC m a cap), .agg (meC s b cap')] w (fun e w' => e = .returned (.bool false) ∧ Below w.heap.size w w') := by
  have HB := Lib.hid (same_boxes w (meC m a cap) (meC s b cap'))
  unfold meC at *
  go_enter Try.func54, Try.ntmps54
  go_wp2_with fail
  go_ret
  exact ⟨by first | rfl | (simp [*]; done), HB.out⟩
set_option maxRecDepth 100000 in
set_option maxHeartbeats 4000000 in
theorem same_yes {w : World} {m s : Me} {a b : Option Addr} {cap cap' : Nat} (Q : Bool → Prop) (q0 : (m.id == s.id) = true) (q1 : (m.name.toList == s.name.toList) = true) (q2 : (m.typ.toList == s.typ.toList) = true) (q3 : (m.ex.toList == s.ex.toList) = true) (q4 : (m.key.toList == s.key.toList) = true) (q5 : (m.text.toList == s.text.toList) = true) (q6 : (m.code == s.code) = true) (q7 : (m.count == s.count) = true) (q8 : ((m.tag : Int) == (s.tag : Int)) = true) (q9 : (m.flag == s.flag) = true) (q10 : (m.back == s.back) = true)
    (hQ : ∀ w1, Below w.heap.size w w1 → Calls Try.prog 69 #[.slice a m.args.length cap, .slice b s.args.length cap'] w1 (fun e w' => ∃ r : Bool, e = .returned (.bool r) ∧ Below w1.heap.size w1 w' ∧ Q r)) :
    Calls Try.prog 54 #[.agg (meC m a cap), .agg (meC s b cap')] w (fun e w' => ∃ r : Bool, e = .returned (.bool r) ∧ Below w.heap.size w w' ∧ Q r) := by
  have HB := Lib.hid (same_boxes w (meC m a cap) (meC s b cap'))
  have HQ := Lib.hid hQ
  clear hQ
  unfold meC at *
  go_enter Try.func54, Try.ntmps54
  go_wp2_with fail
  refine (HQ.out _ HB.out).mono ?_
  rintro e w2 ⟨r, rfl, hb2, hr⟩
  have HR := Lib.hid hr
  have HB2 := Lib.hid (HB.out.trans (hb2.mono HB.out.size))
  clear hr hb2
  go_wp2_with fail
  go_ret
  exact ⟨r, by first | rfl | (simp [*]; done), HB2.out, HR.out⟩

end Go.Proofs.Ytjnnpgmgjdhfjaa

namespace Go.Proofs.Ytjnnpgmgjdhfjaa
open Go.RowKit
set_option linter.unusedVariables false

theorem sameM_any {w : World} {m s : Me} {a b : Option Addr} {cap cap' : Nat} (Q : Bool → Prop)
    (hQ : ∀ w1, Below w.heap.size w w1 → Calls Try.prog 69 #[.slice a m.args.length cap, .slice b s.args.length cap'] w1 (fun e w' => ∃ r : Bool, e = .returned (.bool r) ∧ Below w1.heap.size w1 w' ∧ Q r)) :
    Calls Try.prog 54 #[.agg (meC m a cap), .agg (meC s b cap')] w (SameM m s Q w) := by
  by_cases e0 : m.id = s.id
  case neg =>
    have q0 : (m.id == s.id) = false := beq_eq_false_iff_ne.2 e0
    refine (same_no0  q0).mono ?_
    rintro e w' ⟨rfl, hb⟩
    exact ⟨false, rfl, hb, .inr ⟨fun h => e0 h.1, rfl⟩⟩
  have q0 : (m.id == s.id) = true := beq_iff_eq.2 e0
  by_cases e1 : m.name = s.name
  case neg =>
    have q1 : (m.name.toList == s.name.toList) = false := bne_str e1
    refine (same_no1 q0 q1).mono ?_
    rintro e w' ⟨rfl, hb⟩
    exact ⟨false, rfl, hb, .inr ⟨fun h => e1 h.2.1, rfl⟩⟩
  have q1 : (m.name.toList == s.name.toList) = true := beq_str e1
  by_cases e2 : m.typ = s.typ
  case neg =>
    have q2 : (m.typ.toList == s.typ.toList) = false := bne_str e2
    refine (same_no2 q0 q1 q2).mono ?_
    rintro e w' ⟨rfl, hb⟩
    exact ⟨false, rfl, hb, .inr ⟨fun h => e2 h.2.2.1, rfl⟩⟩
  have q2 : (m.typ.toList == s.typ.toList) = true := beq_str e2
  by_cases e3 : m.ex = s.ex
  case neg =>
    have q3 : (m.ex.toList == s.ex.toList) = false := bne_str e3
    refine (same_no3 q0 q1 q2 q3).mono ?_
    rintro e w' ⟨rfl, hb⟩
    exact ⟨false, rfl, hb, .inr ⟨fun h => e3 h.2.2.2.1, rfl⟩⟩
  have q3 : (m.ex.toList == s.ex.toList) = true := beq_str e3
  by_cases e4 : m.key = s.key
  case neg =>
    have q4 : (m.key.toList == s.key.toList) = false := bne_str e4
    refine (same_no4 q0 q1 q2 q3 q4).mono ?_
    rintro e w' ⟨rfl, hb⟩
    exact ⟨false, rfl, hb, .inr ⟨fun h => e4 h.2.2.2.2.1, rfl⟩⟩
  have q4 : (m.key.toList == s.key.toList) = true := beq_str e4
  by_cases e5 : m.text = s.text
  case neg =>
    have q5 : (m.text.toList == s.text.toList) = false := bne_str e5
    refine (same_no5 q0 q1 q2 q3 q4 q5).mono ?_
    rintro e w' ⟨rfl, hb⟩
    exact ⟨false, rfl, hb, .inr ⟨fun h => e5 h.2.2.2.2.2.1, rfl⟩⟩
  have q5 : (m.text.toList == s.text.toList) = true := beq_str e5
  by_cases e6 : m.code = s.code
  case neg =>
    have q6 : (m.code == s.code) = false := beq_eq_false_iff_ne.2 e6
    refine (same_no6 q0 q1 q2 q3 q4 q5 q6).mono ?_
    rintro e w' ⟨rfl, hb⟩
    exact ⟨false, rfl, hb, .inr ⟨fun h => e6 h.2.2.2.2.2.2.1, rfl⟩⟩
  have q6 : (m.code == s.code) = true := beq_iff_eq.2 e6
  by_cases e7 : m.count = s.count
  case neg =>
    have q7 : (m.count == s.count) = false := beq_eq_false_iff_ne.2 e7
    refine (same_no7 q0 q1 q2 q3 q4 q5 q6 q7).mono ?_
    rintro e w' ⟨rfl, hb⟩
    exact ⟨false, rfl, hb, .inr ⟨fun h => e7 h.2.2.2.2.2.2.2.1, rfl⟩⟩
  have q7 : (m.count == s.count) = true := beq_iff_eq.2 e7
  by_cases e8 : m.tag = s.tag
  case neg =>
    have q8 : ((m.tag : Int) == (s.tag : Int)) = false := beq_eq_false_iff_ne.2 (by omega)
    refine (same_no8 q0 q1 q2 q3 q4 q5 q6 q7 q8).mono ?_
    rintro e w' ⟨rfl, hb⟩
    exact ⟨false, rfl, hb, .inr ⟨fun h => e8 h.2.2.2.2.2.2.2.2.1, rfl⟩⟩
  have q8 : ((m.tag : Int) == (s.tag : Int)) = true := beq_iff_eq.2 (by omega)
  by_cases e9 : m.flag = s.flag
  case neg =>
    have q9 : (m.flag == s.flag) = false := beq_eq_false_iff_ne.2 e9
    refine (same_no9 q0 q1 q2 q3 q4 q5 q6 q7 q8 q9).mono ?_
    rintro e w' ⟨rfl, hb⟩
    exact ⟨false, rfl, hb, .inr ⟨fun h => e9 h.2.2.2.2.2.2.2.2.2.1, rfl⟩⟩
  have q9 : (m.flag == s.flag) = true := beq_iff_eq.2 e9
  by_cases e10 : m.back = s.back
  case neg =>
    have q10 : (m.back == s.back) = false := beq_eq_false_iff_ne.2 e10
    refine (same_no10 q0 q1 q2 q3 q4 q5 q6 q7 q8 q9 q10).mono ?_
    rintro e w' ⟨rfl, hb⟩
    exact ⟨false, rfl, hb, .inr ⟨fun h => e10 h.2.2.2.2.2.2.2.2.2.2, rfl⟩⟩
  have q10 : (m.back == s.back) = true := beq_iff_eq.2 e10
  refine (same_yes Q q0 q1 q2 q3 q4 q5 q6 q7 q8 q9 q10 hQ).mono ?_
  rintro e w' ⟨r, rfl, hb, hr⟩
  exact ⟨r, rfl, hb, .inl ⟨⟨e0, e1, e2, e3, e4, e5, e6, e7, e8, e9, e10⟩, hr⟩⟩

end Go.Proofs.Ytjnnpgmgjdhfjaa

namespace Go.Proofs.Ytjnnpgmgjdhfjaa
open Go.RowKit
set_option linter.unusedVariables false

theorem ltr_index (l : List Pt) (k : Nat) (h : k < l.length) (w : World) : (Instr.index 9 (.string (ltr l)) (.int .i64 k)).run Try.prog w = .ok (.int .u8 (l[k].byte.toNat)) w := by
  rw [run_index_string w _ _ _ _ Try.underlying9, dif_pos ⟨by omega, by rw [ltr_size]; omega⟩]
  have : (ltr l)[(k : Int).toNat]'(by rw [ltr_size]; omega) = l[k].byte := by
    simp [ltr, ByteArray.getElem_eq_getElem_data]
  rw [this]
theorem ltr_slice (p : Pt) (r : List Pt) (w : World) : (Instr.slice 9 (.string (ltr (p :: r))) (some (.int .i64 1)) none none).run Try.prog w = .ok (.string (ltr r)) w := by
  rw [run_slice_string_from_if w _ _ _ _ Try.underlying9, if_pos ⟨by omega, by rw [ltr_size]; simp; omega⟩]
  have : (ltr (p :: r)).extract (1 : Int).toNat (ltr (p :: r)).size = ltr r := by
    have hz : (ltr (p :: r)).size = (r.map Pt.byte).length + 1 := by rw [ltr_size]; simp
    apply ByteArray.ext
    rw [hz]
    simp [ltr, ByteArray.data_extract]
    exact List.take_of_length_le (by simp)
  rw [this]
theorem ltr_list (l : List Pt) : (ltr l).toList = l.map Pt.byte := by unfold ltr; simp
theorem ltr_dash (l : List Pt) : ¬ (ltr l).toList = [45] ∧ ((ltr l).toList == [45]) = false := by
  have h : ¬ (ltr l).toList = [45] := by
    rw [ltr_list]
    intro h
    match l, h with
    | [p], h => cases p <;> exact absurd h (by decide)
    | p :: q :: r, h => simp at h
    | [], h => simp at h
  exact ⟨h, by rw [beq_eq_false_iff_ne]; exact h⟩

theorem ltr_nil : ltr [] = ⟨#[]⟩ := rfl
theorem ltr_cons (p : Pt) (r : List Pt) : ¬ (ltr (p :: r)).toList = [] ∧ ((ltr (p :: r)).toList == []) = false ∧ (ltr (p :: r)).toList.isEmpty = false := by
  rw [ltr_list]
  exact ⟨by simp, rfl, rfl⟩

end Go.Proofs.Ytjnnpgmgjdhfjaa

namespace Go.Proofs.Ytjnnpgmgjdhfjaa
open Go.RowKit
set_option linter.unusedVariables false

variable {B : Nat}
/-- which of the letters a byte is. -/
theorem kindOf_index (c : UInt8) : Lib.indexByte [86, 116, 73, 108, 83, 70] c = kindOf c.toNat := by
  have h : ∀ i : Fin 256, Lib.indexByte [86, 116, 73, 108, 83, 70] (UInt8.ofNat i.val) = kindOf i.val := by decide +kernel
  have := h ⟨c.toNat, c.toNat_lt⟩
  simpa using this

set_option maxRecDepth 100000 in
set_option maxHeartbeats 4000000 in
theorem index3_any (c : UInt8) (w : World) :
    Calls Try.prog 85 #[.string ⟨#[86, 116, 73, 108, 83, 70]⟩, .int .u8 c.toNat] w fun e w' => e = .returned (.int .i64 (kindOf c.toNat)) ∧ w = w' := by
  go_enter Try.func85, Try.ntmps85
  go_wp2_with fail
  rw [run_callFunc_extern Try.func86 (by kernel_rfl) (by kernel_rfl) (by kernel_rfl) (e := Extern.BytealgIndexByte.indexByte) (by kernel_rfl), Lib.run_indexByteString]
  simp only [Result.andThen]
  rw [Oper.upon_value]
  go_wp2_with fail
  go_ret
  refine ⟨?_, rfl⟩
  have h := kindOf_index c
  rw [← h]
  simp

set_option maxHeartbeats 1000000 in
theorem index2_any (c : UInt8) (w : World) :
    Calls Try.prog 81 #[.string ⟨#[86, 116, 73, 108, 83, 70]⟩, .int .u8 c.toNat] w fun e w' => e = .returned (.int .i64 (kindOf c.toNat)) ∧ w = w' := by
  go_enter Try.func81, Try.ntmps81
  go_wp2_with fail
  refine (index3_any c _).mono ?_
  rintro e w1 ⟨rfl, rfl⟩
  go_wp2_with fail
  go_ret
  exact ⟨rfl, rfl⟩

set_option maxRecDepth 100000 in
set_option maxHeartbeats 4000000 in
theorem kind_any (g : Nat) (l : List UInt8) (bad : Bool) (w : World) (hr : Rd 88 B w g l bad) :
    Calls Try.prog 76 #[.pointer (some ⟨g, 0, none⟩)] w fun e w' => e = .returned (.int .i64 (kindOf (numP 1 l).1)) ∧ Rd 88 B w' g (numP 1 l).2.1 (bad || (numP 1 l).2.2) ∧ w.grownBy w' (some g) := by
  have HR := Lib.hid hr
  clear hr
  have h256 := num1_lt l
  have hw : IntKind.u8.wrap ((numP 1 l).1 : Int) = (((UInt8.ofNat (numP 1 l).1).toNat : Nat) : Int) := by
    rw [IntKind.wrap_u8, UInt8.toNat_ofNat']; omega
  have he : (UInt8.ofNat (numP 1 l).1).toNat = (numP 1 l).1 := by rw [UInt8.toNat_ofNat']; omega
  have H256 := Lib.hid h256
  clear he h256
  go_enter Try.func76, Try.ntmps76
  go_wp2_with fail
  refine (number_any g 1 (by decide) l bad _ HR.out).mono ?_
  rintro e w1 ⟨rfl, hr1, hg1⟩
  have HR1 := Lib.hid hr1
  have HG1 := Lib.hid hg1
  clear hr1 hg1
  go_wp2_with fail
  refine (index2_any (UInt8.ofNat (numP 1 l).1) _).mono ?_
  rintro e w2 ⟨rfl, rfl⟩
  go_wp2_with fail
  go_ret
  exact ⟨by rw [Nat.mod_eq_of_lt H256.out]; rfl, HR1.out, HG1.out⟩

end Go.Proofs.Ytjnnpgmgjdhfjaa

namespace Go.Proofs.Ytjnnpgmgjdhfjaa
open Go.RowKit
set_option linter.unusedVariables false

variable {B : Nat}
/-- a reader of these bytes: a box that is left behind. -/
theorem readerOf_any (a : Option Addr) (n c : Nat) (w : World) :
    Calls Try.prog 49 #[.slice a n c] w fun e w' => e = .returned (.agg #[.slice a n c, .bool false]) ∧ w.grownBy w' none := by
  go_enter Try.func49, Try.ntmps49
  go_wp2_with fail
  refine bodyPost_ret (v := .agg #[.slice a n c, .bool false]) (by simp [results, Try.results49, go_sem, *]) rfl ⟨rfl, ?_⟩
  refine ⟨rfl, rfl, rfl, by simp, fun k hk _ => ?_⟩
  repeat rw [Below.heap_setCell _ _ _ _ (by simp; omega)]
  exact Below.heap_alloc w _ k hk

/-- these blocks are the call's own, each once, none frozen. -/
def Own (w : World) (base : Nat) (bs : List Nat) : Prop := bs.Nodup ∧ ∀ b ∈ bs, base ≤ b ∧ b < w.heap.size ∧ ∃ c t, w.heap[b]? = some (.cells c t (0, 0))
theorem Own.nil (w : World) (base : Nat) : Own w base [] := ⟨List.nodup_nil, fun b h => by simp at h⟩

def ValP (B : Nat) (f : List UInt8 → List It × Bool) (nm : ByteArray) (g : Nat) (l : List UInt8) (bad : Bool) (w : World) (e : Ending) (w' : World) : Prop :=
  ∃ (a : Option Addr) (cap : Nat) (bs : List Nat), e = .returned (.agg #[.int .i64 (valP f nm l).1.kind, .int .i64 (valP f nm l).1.n, .string (valP f nm l).1.s, .slice a (valP f nm l).1.sub.length cap]) ∧
    SlAt w' bs a cap (valP f nm l).1.sub ∧ Own w' w.heap.size bs ∧ Rd 88 B w' g (valP f nm l).2.1 (bad || (valP f nm l).2.2) ∧ w.grownBy w' (some g)

theorem not_u8 {a b : Int} {s : ByteArray} {p : Option Addr} {m c : Nat} : ∀ (i : Nat) (n : Int), (#[.int .i64 a, .int .i64 b, .string s, .slice p m c] : Array Value)[i]? ≠ some (.int .u8 n) := by
  intro i n
  match i with
  | 0 => simp
  | 1 => simp
  | 2 => simp
  | 3 => simp
  | i + 4 => simp
theorem valP_1 {f : List UInt8 → List It × Bool} {nm : ByteArray} {l : List UInt8} (h : kindOf (numP 1 l).1 = 1) :
    valP f nm l = (.mk nm 1 (numP 1 (numP 1 l).2.1).1 ByteArray.empty [], (numP 1 (numP 1 l).2.1).2.1, (numP 1 l).2.2 || (numP 1 (numP 1 l).2.1).2.2) := by unfold valP; simp [h]
theorem valP_2 {f : List UInt8 → List It × Bool} {nm : ByteArray} {l : List UInt8} (h : kindOf (numP 1 l).1 = 2) :
    valP f nm l = (.mk nm 2 (sgn32 (numP 4 (numP 1 l).2.1).1) ByteArray.empty [], (numP 4 (numP 1 l).2.1).2.1, (numP 1 l).2.2 || (numP 4 (numP 1 l).2.1).2.2) := by unfold valP; simp [h]
theorem valP_3 {f : List UInt8 → List It × Bool} {nm : ByteArray} {l : List UInt8} (h : kindOf (numP 1 l).1 = 3) :
    valP f nm l = (.mk nm 3 (sgn64 (numP 8 (numP 1 l).2.1).1) ByteArray.empty [], (numP 8 (numP 1 l).2.1).2.1, (numP 1 l).2.2 || (numP 8 (numP 1 l).2.1).2.2) := by unfold valP; simp [h]
theorem valP_4 {f : List UInt8 → List It × Bool} {nm : ByteArray} {l : List UInt8} (h : kindOf (numP 1 l).1 = 4) :
    valP f nm l = (.mk nm 4 0 ⟨(cntP 4 (numP 1 l).2.1).1.toArray⟩ [], (cntP 4 (numP 1 l).2.1).2.1, (numP 1 l).2.2 || (cntP 4 (numP 1 l).2.1).2.2) := by unfold valP; simp [h]
theorem valP_5 {f : List UInt8 → List It × Bool} {nm : ByteArray} {l : List UInt8} (h : kindOf (numP 1 l).1 = 5) :
    valP f nm l = (.mk nm 5 0 ByteArray.empty (tabP f (numP 1 l).2.1).1, (tabP f (numP 1 l).2.1).2.1, (numP 1 l).2.2 || (tabP f (numP 1 l).2.1).2.2) := by unfold valP; simp [h]
theorem valP_0 {f : List UInt8 → List It × Bool} {nm : ByteArray} {l : List UInt8} {k : Int} (h : kindOf (numP 1 l).1 = k) (h0 : k = 0 ∨ k = -1) :
    valP f nm l = (.mk nm k 0 ByteArray.empty [], (numP 1 l).2.1, (numP 1 l).2.2) := by unfold valP; rcases h0 with rfl | rfl <;> simp [h]
set_option maxRecDepth 100000 in
set_option maxHeartbeats 4000000 in
theorem value1_any (f : List UInt8 → List It × Bool) (nm : ByteArray) (g : Nat) (l : List UInt8) (bad : Bool) (w : World) (hr : Rd 88 B w g l bad) (hk : kindOf (numP 1 l).1 = 1) :
    Calls Try.prog 67 #[.pointer (some ⟨g, 0, none⟩)] w (ValP B f nm g l bad w) := by
  have HR := Lib.hid hr
  have hgl : g < w.heap.size := hr.lt
  clear hr
  have HRA := Lib.hid (HR.out.alloc (.cells #[.int .i64 0, .int .i64 0, .string ByteArray.empty, .slice none 0 0] 72))
  go_enter Try.func67, Try.ntmps67
  go_wp2_with fail
  refine (kind_any g l bad _ HRA.out).mono ?_
  rintro e w1 ⟨rfl, hr1, hg1⟩
  rw [hk]
  have HR1 := Lib.hid (hr1.alloc (.cells #[.int .i64 1, .int .i64 0, .string ByteArray.empty, .slice none 0 0] 72))
  have HG1 := Lib.hid hg1
  clear hr1 hg1
  go_wp2_with fail
  refine (number_any g 1 (by decide) _ _ _ HR1.out).mono ?_
  rintro e w2 ⟨rfl, hr2, hg2⟩
  obtain ⟨hA, hB, hs1, hs2, hgr⟩ := two_boxes hgl HG1.out hg2
  obtain ⟨⟨a0, a1, a2, a3⟩, fa0, fa1, fa2, fa3⟩ := cells4 hA
  obtain ⟨⟨b0, b1, b2, b3⟩, fb0, fb1, fb2, fb3⟩ := cells4 hB
  have hne : w1.heap.size ≠ w.heap.size := by omega
  have hne2 : w.heap.size ≠ w1.heap.size := by omega
  have HR2 := Lib.hid hr2
  have HGR := Lib.hid hgr
  have HA := Lib.hid hA
  have HB := Lib.hid hB
  clear hr2 hA hB hgr hg2
  have hm := num1_lt (numP 1 l).2.1
  have hw : IntKind.i64.wrap ((numP 1 (numP 1 l).2.1).1 : Int) = (((numP 1 (numP 1 l).2.1).1 : Nat) : Int) := by rw [IntWalk.i64_in _ (by omega)]
  clear hm
  go_wp2_with fail
  refine bodyPost_ret (v := .agg #[.int .i64 1, .int .i64 (numP 1 (numP 1 l).2.1).1, .string ByteArray.empty, .slice none 0 0]) (by simp [results, Try.results67, go_sem, *]) rfl ?_
  unfold ValP
  rw [valP_1 hk]
  refine ⟨none, 0, [], rfl, SlAt.nil _ _ (by simp [maxLen]), Own.nil _ _, ?_, ?_⟩
  · have hr := HR2.out
    try simp only [Bool.or_assoc] at hr
    refine hr.stores HA.out HB.out not_u8 not_u8 (fun b h1 h2 => ?_) (by omega) (by omega)
    repeat rw [Below.heap_setCell _ _ _ _ (by first | exact h1 | exact h2)]
  · repeat refine set_later ?_ (by first | exact Nat.le_refl _ | exact Nat.le_of_lt hs1)
    exact HGR.out

set_option maxRecDepth 100000 in
set_option maxHeartbeats 4000000 in
theorem value2_any (f : List UInt8 → List It × Bool) (nm : ByteArray) (g : Nat) (l : List UInt8) (bad : Bool) (w : World) (hr : Rd 88 B w g l bad) (hk : kindOf (numP 1 l).1 = 2) :
    Calls Try.prog 67 #[.pointer (some ⟨g, 0, none⟩)] w (ValP B f nm g l bad w) := by
  have HR := Lib.hid hr
  have hgl : g < w.heap.size := hr.lt
  clear hr
  have HRA := Lib.hid (HR.out.alloc (.cells #[.int .i64 0, .int .i64 0, .string ByteArray.empty, .slice none 0 0] 72))
  go_enter Try.func67, Try.ntmps67
  go_wp2_with fail
  refine (kind_any g l bad _ HRA.out).mono ?_
  rintro e w1 ⟨rfl, hr1, hg1⟩
  rw [hk]
  have HR1 := Lib.hid (hr1.alloc (.cells #[.int .i64 2, .int .i64 0, .string ByteArray.empty, .slice none 0 0] 72))
  have HG1 := Lib.hid hg1
  clear hr1 hg1
  go_wp2_with fail
  refine (number_any g 4 (by decide) _ _ _ HR1.out).mono ?_
  rintro e w2 ⟨rfl, hr2, hg2⟩
  obtain ⟨hA, hB, hs1, hs2, hgr⟩ := two_boxes hgl HG1.out hg2
  obtain ⟨⟨a0, a1, a2, a3⟩, fa0, fa1, fa2, fa3⟩ := cells4 hA
  obtain ⟨⟨b0, b1, b2, b3⟩, fb0, fb1, fb2, fb3⟩ := cells4 hB
  have hne : w1.heap.size ≠ w.heap.size := by omega
  have hne2 : w.heap.size ≠ w1.heap.size := by omega
  have HR2 := Lib.hid hr2
  have HGR := Lib.hid hgr
  have HA := Lib.hid hA
  have HB := Lib.hid hB
  clear hr2 hA hB hgr hg2
  have hm : (numP 4 (numP 1 l).2.1).1 < 4294967296 := num_lt 4 (numP 1 l).2.1
  have hw : IntKind.i32.wrap ((numP 4 (numP 1 l).2.1).1 : Int) = sgn32 (numP 4 (numP 1 l).2.1).1 := by rw [IntKind.wrap_i32]; unfold sgn32; split <;> omega
  have hw2 : IntKind.i64.wrap (sgn32 (numP 4 (numP 1 l).2.1).1) = sgn32 (numP 4 (numP 1 l).2.1).1 := by rw [IntWalk.i64_in _ (by unfold sgn32; split <;> omega)]
  clear hm
  go_wp2_with fail
  refine bodyPost_ret (v := .agg #[.int .i64 2, .int .i64 (sgn32 (numP 4 (numP 1 l).2.1).1), .string ByteArray.empty, .slice none 0 0]) (by simp [results, Try.results67, go_sem, *]) rfl ?_
  unfold ValP
  rw [valP_2 hk]
  refine ⟨none, 0, [], rfl, SlAt.nil _ _ (by simp [maxLen]), Own.nil _ _, ?_, ?_⟩
  · have hr := HR2.out
    try simp only [Bool.or_assoc] at hr
    refine hr.stores HA.out HB.out not_u8 not_u8 (fun b h1 h2 => ?_) (by omega) (by omega)
    repeat rw [Below.heap_setCell _ _ _ _ (by first | exact h1 | exact h2)]
  · repeat refine set_later ?_ (by first | exact Nat.le_refl _ | exact Nat.le_of_lt hs1)
    exact HGR.out

set_option maxRecDepth 100000 in
set_option maxHeartbeats 4000000 in
theorem value3_any (f : List UInt8 → List It × Bool) (nm : ByteArray) (g : Nat) (l : List UInt8) (bad : Bool) (w : World) (hr : Rd 88 B w g l bad) (hk : kindOf (numP 1 l).1 = 3) :
    Calls Try.prog 67 #[.pointer (some ⟨g, 0, none⟩)] w (ValP B f nm g l bad w) := by
  have HR := Lib.hid hr
  have hgl : g < w.heap.size := hr.lt
  clear hr
  have HRA := Lib.hid (HR.out.alloc (.cells #[.int .i64 0, .int .i64 0, .string ByteArray.empty, .slice none 0 0] 72))
  go_enter Try.func67, Try.ntmps67
  go_wp2_with fail
  refine (kind_any g l bad _ HRA.out).mono ?_
  rintro e w1 ⟨rfl, hr1, hg1⟩
  rw [hk]
  have HR1 := Lib.hid (hr1.alloc (.cells #[.int .i64 3, .int .i64 0, .string ByteArray.empty, .slice none 0 0] 72))
  have HG1 := Lib.hid hg1
  clear hr1 hg1
  go_wp2_with fail
  refine (number_any g 8 (by decide) _ _ _ HR1.out).mono ?_
  rintro e w2 ⟨rfl, hr2, hg2⟩
  obtain ⟨hA, hB, hs1, hs2, hgr⟩ := two_boxes hgl HG1.out hg2
  obtain ⟨⟨a0, a1, a2, a3⟩, fa0, fa1, fa2, fa3⟩ := cells4 hA
  obtain ⟨⟨b0, b1, b2, b3⟩, fb0, fb1, fb2, fb3⟩ := cells4 hB
  have hne : w1.heap.size ≠ w.heap.size := by omega
  have hne2 : w.heap.size ≠ w1.heap.size := by omega
  have HR2 := Lib.hid hr2
  have HGR := Lib.hid hgr
  have HA := Lib.hid hA
  have HB := Lib.hid hB
  clear hr2 hA hB hgr hg2
  have hm : (numP 8 (numP 1 l).2.1).1 < 18446744073709551616 := num_lt 8 (numP 1 l).2.1
  have hw : IntKind.i64.wrap ((numP 8 (numP 1 l).2.1).1 : Int) = sgn64 (numP 8 (numP 1 l).2.1).1 := by rw [IntKind.wrap_i64]; unfold sgn64; split <;> omega
  clear hm
  go_wp2_with fail
  refine bodyPost_ret (v := .agg #[.int .i64 3, .int .i64 (sgn64 (numP 8 (numP 1 l).2.1).1), .string ByteArray.empty, .slice none 0 0]) (by simp [results, Try.results67, go_sem, *]) rfl ?_
  unfold ValP
  rw [valP_3 hk]
  refine ⟨none, 0, [], rfl, SlAt.nil _ _ (by simp [maxLen]), Own.nil _ _, ?_, ?_⟩
  · have hr := HR2.out
    try simp only [Bool.or_assoc] at hr
    refine hr.stores HA.out HB.out not_u8 not_u8 (fun b h1 h2 => ?_) (by omega) (by omega)
    repeat rw [Below.heap_setCell _ _ _ _ (by first | exact h1 | exact h2)]
  · repeat refine set_later ?_ (by first | exact Nat.le_refl _ | exact Nat.le_of_lt hs1)
    exact HGR.out
set_option maxRecDepth 100000 in
set_option maxHeartbeats 4000000 in
theorem value4_any (f : List UInt8 → List It × Bool) (nm : ByteArray) (g : Nat) (l : List UInt8) (bad : Bool) (w : World) (hr : Rd 88 B w g l bad) (hk : kindOf (numP 1 l).1 = 4) :
    Calls Try.prog 67 #[.pointer (some ⟨g, 0, none⟩)] w (ValP B f nm g l bad w) := by
  have HR := Lib.hid hr
  have hgl : g < w.heap.size := hr.lt
  clear hr
  have HRA := Lib.hid (HR.out.alloc (.cells #[.int .i64 0, .int .i64 0, .string ByteArray.empty, .slice none 0 0] 72))
  go_enter Try.func67, Try.ntmps67
  go_wp2_with fail
  refine (kind_any g l bad _ HRA.out).mono ?_
  rintro e w1 ⟨rfl, hr1, hg1⟩
  rw [hk]
  have HR1 := Lib.hid (hr1.alloc (.cells #[.int .i64 4, .int .i64 0, .string ByteArray.empty, .slice none 0 0] 72))
  have HG1 := Lib.hid hg1
  clear hr1 hg1
  go_wp2_with fail
  refine (counted_any g 4 (by decide) _ _ _ HR1.out).mono ?_
  rintro e w2 ⟨v2, rfl, ⟨sa, cs, rfl, hlc, hcm, hat⟩, hr2, hg2⟩
  have hcv := conv_str cs hat
  obtain ⟨hA, hB, hs1, hs2, hgr⟩ := two_boxes hgl HG1.out hg2
  obtain ⟨⟨a0, a1, a2, a3⟩, fa0, fa1, fa2, fa3⟩ := cells4 hA
  obtain ⟨⟨b0, b1, b2, b3⟩, fb0, fb1, fb2, fb3⟩ := cells4 hB
  have hne : w1.heap.size ≠ w.heap.size := by omega
  have hne2 : w.heap.size ≠ w1.heap.size := by omega
  have HR2 := Lib.hid hr2
  have HGR := Lib.hid hgr
  have HA := Lib.hid hA
  have HB := Lib.hid hB
  clear hr2 hA hB hgr hg2 hat
  go_wp2_with fail
  refine bodyPost_ret (v := .agg #[.int .i64 4, .int .i64 0, .string ⟨(cntP 4 (numP 1 l).2.1).1.toArray⟩, .slice none 0 0]) (by simp [results, Try.results67, go_sem, *]) rfl ?_
  unfold ValP
  rw [valP_4 hk]
  refine ⟨none, 0, [], rfl, SlAt.nil _ _ (by simp [maxLen]), Own.nil _ _, ?_, ?_⟩
  · have hr := HR2.out
    try simp only [Bool.or_assoc] at hr
    refine hr.stores HA.out HB.out not_u8 not_u8 (fun b h1 h2 => ?_) (by omega) (by omega)
    repeat rw [Below.heap_setCell _ _ _ _ (by first | exact h1 | exact h2)]
  · repeat refine set_later ?_ (by first | exact Nat.le_refl _ | exact Nat.le_of_lt hs1)
    exact HGR.out

set_option maxRecDepth 100000 in
set_option maxHeartbeats 4000000 in
theorem value0_any (f : List UInt8 → List It × Bool) (nm : ByteArray) (g : Nat) (l : List UInt8) (bad : Bool) (w : World) (hr : Rd 88 B w g l bad) (hk : kindOf (numP 1 l).1 = 0) :
    Calls Try.prog 67 #[.pointer (some ⟨g, 0, none⟩)] w (ValP B f nm g l bad w) := by
  have HR := Lib.hid hr
  have hgl : g < w.heap.size := hr.lt
  clear hr
  have HRA := Lib.hid (HR.out.alloc (.cells #[.int .i64 0, .int .i64 0, .string ByteArray.empty, .slice none 0 0] 72))
  go_enter Try.func67, Try.ntmps67
  go_wp2_with fail
  refine (kind_any g l bad _ HRA.out).mono ?_
  rintro e w1 ⟨rfl, hr1, hg1⟩
  rw [hk]
  have HR1 := Lib.hid (hr1.alloc (.cells #[.int .i64 0, .int .i64 0, .string ByteArray.empty, .slice none 0 0] 72))
  have HG1 := Lib.hid hg1
  clear hr1 hg1
  obtain ⟨hA, hB, hs1, hs2, hgr⟩ := two_boxes hgl HG1.out (GrownBy.refl (w1.alloc (.cells #[.int .i64 0, .int .i64 0, .string ByteArray.empty, .slice none 0 0] 72)) (some g))
  have hA1 : w1.heap[w.heap.size]? = some (.cells #[.int .i64 0, .int .i64 0, .string ByteArray.empty, .slice none 0 0] 72 (0, 0)) := (Below.heap_alloc w1 _ _ hs1).symm.trans hA
  obtain ⟨⟨a0, a1, a2, a3⟩, fa0, fa1, fa2, fa3⟩ := cells4 hA1
  have hne : w1.heap.size ≠ w.heap.size := by omega
  have hne2 : w.heap.size ≠ w1.heap.size := by omega
  have HGR := Lib.hid hgr
  have HA := Lib.hid hA
  have HB := Lib.hid hB
  clear hA hB hgr hA1
  go_wp2_with fail
  refine bodyPost_ret (v := .agg #[.int .i64 0, .int .i64 0, .string ⟨#[]⟩, .slice none 0 0]) (by simp [results, Try.results67, go_sem, *]) rfl ?_
  unfold ValP
  rw [valP_0 hk (by simp)]
  refine ⟨none, 0, [], rfl, SlAt.nil _ _ (by simp [maxLen]), Own.nil _ _, ?_, ?_⟩
  · have hr := HR1.out
    try simp only [Bool.or_assoc] at hr
    refine hr.stores HA.out HB.out not_u8 not_u8 (fun b h1 h2 => ?_) (by omega) (by omega)
    rw [alloc_get _ _ (by simpa [World.setCell] using h2), alloc_get w1 _ h2]
    repeat rw [Below.heap_setCell _ _ _ _ (by first | exact h1 | exact h2)]
  · refine alloc_later ?_ _
    repeat refine set_later ?_ (by first | exact Nat.le_refl _ | exact Nat.le_of_lt hs1)
    exact alloc_before HG1.out

set_option maxRecDepth 100000 in
set_option maxHeartbeats 4000000 in
theorem valuem_any (f : List UInt8 → List It × Bool) (nm : ByteArray) (g : Nat) (l : List UInt8) (bad : Bool) (w : World) (hr : Rd 88 B w g l bad) (hk : kindOf (numP 1 l).1 = (-1)) :
    Calls Try.prog 67 #[.pointer (some ⟨g, 0, none⟩)] w (ValP B f nm g l bad w) := by
  have HR := Lib.hid hr
  have hgl : g < w.heap.size := hr.lt
  clear hr
  have HRA := Lib.hid (HR.out.alloc (.cells #[.int .i64 0, .int .i64 0, .string ByteArray.empty, .slice none 0 0] 72))
  go_enter Try.func67, Try.ntmps67
  go_wp2_with fail
  refine (kind_any g l bad _ HRA.out).mono ?_
  rintro e w1 ⟨rfl, hr1, hg1⟩
  rw [hk]
  have HR1 := Lib.hid (hr1.alloc (.cells #[.int .i64 (-1), .int .i64 0, .string ByteArray.empty, .slice none 0 0] 72))
  have HG1 := Lib.hid hg1
  clear hr1 hg1
  obtain ⟨hA, hB, hs1, hs2, hgr⟩ := two_boxes hgl HG1.out (GrownBy.refl (w1.alloc (.cells #[.int .i64 (-1), .int .i64 0, .string ByteArray.empty, .slice none 0 0] 72)) (some g))
  have hA1 : w1.heap[w.heap.size]? = some (.cells #[.int .i64 0, .int .i64 0, .string ByteArray.empty, .slice none 0 0] 72 (0, 0)) := (Below.heap_alloc w1 _ _ hs1).symm.trans hA
  obtain ⟨⟨a0, a1, a2, a3⟩, fa0, fa1, fa2, fa3⟩ := cells4 hA1
  have hne : w1.heap.size ≠ w.heap.size := by omega
  have hne2 : w.heap.size ≠ w1.heap.size := by omega
  have HGR := Lib.hid hgr
  have HA := Lib.hid hA
  have HB := Lib.hid hB
  clear hA hB hgr hA1
  go_wp2_with fail
  refine bodyPost_ret (v := .agg #[.int .i64 (-1), .int .i64 0, .string ⟨#[]⟩, .slice none 0 0]) (by simp [results, Try.results67, go_sem, *]) rfl ?_
  unfold ValP
  rw [valP_0 hk (by simp)]
  refine ⟨none, 0, [], rfl, SlAt.nil _ _ (by simp [maxLen]), Own.nil _ _, ?_, ?_⟩
  · have hr := HR1.out
    try simp only [Bool.or_assoc] at hr
    refine hr.stores HA.out HB.out not_u8 not_u8 (fun b h1 h2 => ?_) (by omega) (by omega)
    rw [alloc_get _ _ (by simpa [World.setCell] using h2), alloc_get w1 _ h2]
    repeat rw [Below.heap_setCell _ _ _ _ (by first | exact h1 | exact h2)]
  · refine alloc_later ?_ _
    repeat refine set_later ?_ (by first | exact Nat.le_refl _ | exact Nat.le_of_lt hs1)
    exact alloc_before HG1.out

def TabP (B : Nat) (f : List UInt8 → List It × Bool) (g : Nat) (l : List UInt8) (bad : Bool) (w : World) (e : Ending) (w' : World) : Prop :=
  ∃ (a : Option Addr) (cap : Nat) (bs : List Nat), e = .returned (.slice a (tabP f l).1.length cap) ∧ SlAt w' bs a cap (tabP f l).1 ∧ Own w' w.heap.size bs ∧ Rd 88 B w' g (tabP f l).2.1 (bad || (tabP f l).2.2) ∧ w.grownBy w' (some g)
theorem Own.keep {w w' : World} {base : Nat} {bs : List Nat} (h : Own w base bs) (hk : ∀ b ∈ bs, w'.heap[b]? = w.heap[b]?) (hs : w.heap.size ≤ w'.heap.size) : Own w' base bs :=
  ⟨h.1, fun b hb => by
    obtain ⟨h1, h2, c, t, h3⟩ := h.2 b hb
    exact ⟨h1, by omega, c, t, (hk b hb).trans h3⟩⟩
theorem Own.mono {w : World} {base base' : Nat} {bs : List Nat} (h : Own w base bs) (hb : base' ≤ base) : Own w base' bs :=
  ⟨h.1, fun b hb' => by
    obtain ⟨h1, h2⟩ := h.2 b hb'
    exact ⟨by omega, h2⟩⟩


set_option maxRecDepth 100000 in
set_option maxHeartbeats 4000000 in
theorem value5_any (f : List UInt8 → List It × Bool) (nm : ByteArray) (g : Nat) (l : List UInt8) (bad : Bool) (w : World) (hr : Rd 88 B w g l bad) (hk : kindOf (numP 1 l).1 = 5) (ih : ∀ w1 bad1, Rd 88 B w1 g (numP 1 l).2.1 bad1 → Calls Try.prog 50 #[.pointer (some ⟨g, 0, none⟩)] w1 (TabP B f g (numP 1 l).2.1 bad1 w1)) :
    Calls Try.prog 67 #[.pointer (some ⟨g, 0, none⟩)] w (ValP B f nm g l bad w) := by
  have HR := Lib.hid hr
  have hgl : g < w.heap.size := hr.lt
  clear hr
  have HRA := Lib.hid (HR.out.alloc (.cells #[.int .i64 0, .int .i64 0, .string ByteArray.empty, .slice none 0 0] 72))
  go_enter Try.func67, Try.ntmps67
  go_wp2_with fail
  refine (kind_any g l bad _ HRA.out).mono ?_
  rintro e w1 ⟨rfl, hr1, hg1⟩
  rw [hk]
  have HR1 := Lib.hid (hr1.alloc (.cells #[.int .i64 5, .int .i64 0, .string ByteArray.empty, .slice none 0 0] 72))
  have HG1 := Lib.hid hg1
  clear hr1 hg1
  go_wp2_with fail
  refine (ih _ _ HR1.out).mono ?_
  rintro e w2 ⟨sa, cs, bs, rfl, hsl, how, hr2, hg2⟩
  obtain ⟨hA, hB, hs1, hs2, hgr⟩ := two_boxes hgl HG1.out hg2
  obtain ⟨⟨a0, a1, a2, a3⟩, fa0, fa1, fa2, fa3⟩ := cells4 hA
  obtain ⟨⟨b0, b1, b2, b3⟩, fb0, fb1, fb2, fb3⟩ := cells4 hB
  have hne : w1.heap.size ≠ w.heap.size := by omega
  have hne2 : w.heap.size ≠ w1.heap.size := by omega
  have HR2 := Lib.hid hr2
  have HGR := Lib.hid hgr
  have HA := Lib.hid hA
  have HB := Lib.hid hB
  have HSL := Lib.hid hsl
  have HOW := Lib.hid how
  clear hr2 hA hB hgr hg2 hsl how
  go_wp2_with fail
  refine bodyPost_ret (v := .agg #[.int .i64 5, .int .i64 0, .string ByteArray.empty, .slice sa (tabP f (numP 1 l).2.1).1.length cs]) (by simp [results, Try.results67, go_sem, *]) rfl ?_
  unfold ValP
  rw [valP_5 hk]
  have hbs : ∀ b ∈ bs, b ≠ w.heap.size ∧ b ≠ w1.heap.size := fun b hb => by
    have := (HOW.out.2 b hb).1
    simp at this
    omega
  refine ⟨sa, cs, bs, rfl, HSL.out.keep (fun b hb => ?_), (HOW.out.mono (by simp; omega)).keep (fun b hb => ?_) (by simp [World.setCell]), ?_, ?_⟩
  · obtain ⟨h1, h2⟩ := hbs b hb
    repeat rw [Below.heap_setCell _ _ _ _ (by first | exact h1 | exact h2)]
  · obtain ⟨h1, h2⟩ := hbs b hb
    repeat rw [Below.heap_setCell _ _ _ _ (by first | exact h1 | exact h2)]
  · have hr := HR2.out
    try simp only [Bool.or_assoc] at hr
    refine hr.stores HA.out HB.out not_u8 not_u8 (fun b h1 h2 => ?_) (by omega) (by omega)
    repeat rw [Below.heap_setCell _ _ _ _ (by first | exact h1 | exact h2)]
  · repeat refine set_later ?_ (by first | exact Nat.le_refl _ | exact Nat.le_of_lt hs1)
    exact HGR.out

theorem value_any (f : List UInt8 → List It × Bool) (nm : ByteArray) (g : Nat) (l : List UInt8) (bad : Bool) (w : World) (hr : Rd 88 B w g l bad)
    (ih : ∀ w1 bad1, Rd 88 B w1 g (numP 1 l).2.1 bad1 → Calls Try.prog 50 #[.pointer (some ⟨g, 0, none⟩)] w1 (TabP B f g (numP 1 l).2.1 bad1 w1)) :
    Calls Try.prog 67 #[.pointer (some ⟨g, 0, none⟩)] w (ValP B f nm g l bad w) := by
  rcases (kindOf_one (num1_lt l) rfl).2.2.2.2.2.2 with h | h | h | h | h | h | h
  · exact value0_any f nm g l bad w hr h
  · exact value1_any f nm g l bad w hr h
  · exact value2_any f nm g l bad w hr h
  · exact value3_any f nm g l bad w hr h
  · exact value4_any f nm g l bad w hr h
  · exact value5_any f nm g l bad w hr h ih
  · exact valuem_any f nm g l bad w hr h

end Go.Proofs.Ytjnnpgmgjdhfjaa
