/-
  package method's Parts, walked.
  package method's mayPart, takeAway, Same, May, walked.
-/
import Derived.Test.YtiobcgolcoocnaaGreatDoorMDat
import Derived.Test.YtiobcgolcoocnaaGreatDoorMLeaf
import Derived.Test.YtiobcgolcoocnaaGreatDoorMayT

namespace Go.Proofs.YtiobcgolcoocnaaGreatDoor
open Go.RowKit
set_option linter.unusedVariables false

def PartsP (id : Int) (w : World) (e : Ending) (w' : World) : Prop := e = .returned (.string (partsStr id)) ∧ w = w'

set_option maxHeartbeats 1000000 in
theorem parts_2010 (w : World) : Calls Tryz.prog 26 #[.int .i64 2010] w (PartsP 2010 w) := by
  go_enter Tryz.func26, Tryz.ntmps26
  go_wp2_with fail
  go_ret
  exact ⟨rfl, rfl⟩
set_option maxHeartbeats 1000000 in
theorem parts_2011 (w : World) : Calls Tryz.prog 26 #[.int .i64 2011] w (PartsP 2011 w) := by
  go_enter Tryz.func26, Tryz.ntmps26
  go_wp2_with fail
  go_ret
  exact ⟨rfl, rfl⟩
set_option maxHeartbeats 1000000 in
theorem parts_2041 (w : World) : Calls Tryz.prog 26 #[.int .i64 2041] w (PartsP 2041 w) := by
  go_enter Tryz.func26, Tryz.ntmps26
  go_wp2_with fail
  go_ret
  exact ⟨rfl, rfl⟩
set_option maxHeartbeats 1000000 in
theorem parts_4011 (w : World) : Calls Tryz.prog 26 #[.int .i64 4011] w (PartsP 4011 w) := by
  go_enter Tryz.func26, Tryz.ntmps26
  go_wp2_with fail
  go_ret
  exact ⟨rfl, rfl⟩
set_option maxHeartbeats 1000000 in
theorem parts_5021 (w : World) : Calls Tryz.prog 26 #[.int .i64 5021] w (PartsP 5021 w) := by
  go_enter Tryz.func26, Tryz.ntmps26
  go_wp2_with fail
  go_ret
  exact ⟨rfl, rfl⟩
set_option maxHeartbeats 1000000 in
theorem parts_6011 (w : World) : Calls Tryz.prog 26 #[.int .i64 6011] w (PartsP 6011 w) := by
  go_enter Tryz.func26, Tryz.ntmps26
  go_wp2_with fail
  go_ret
  exact ⟨rfl, rfl⟩
set_option maxHeartbeats 1000000 in
theorem parts_6072 (w : World) : Calls Tryz.prog 26 #[.int .i64 6072] w (PartsP 6072 w) := by
  go_enter Tryz.func26, Tryz.ntmps26
  go_wp2_with fail
  go_ret
  exact ⟨rfl, rfl⟩
set_option maxHeartbeats 1000000 in
theorem parts_8510 (w : World) : Calls Tryz.prog 26 #[.int .i64 8510] w (PartsP 8510 w) := by
  go_enter Tryz.func26, Tryz.ntmps26
  go_wp2_with fail
  go_ret
  exact ⟨rfl, rfl⟩
set_option maxHeartbeats 1000000 in
theorem parts_8511 (w : World) : Calls Tryz.prog 26 #[.int .i64 8511] w (PartsP 8511 w) := by
  go_enter Tryz.func26, Tryz.ntmps26
  go_wp2_with fail
  go_ret
  exact ⟨rfl, rfl⟩
set_option maxHeartbeats 1000000 in
theorem parts_9010 (w : World) : Calls Tryz.prog 26 #[.int .i64 9010] w (PartsP 9010 w) := by
  go_enter Tryz.func26, Tryz.ntmps26
  go_wp2_with fail
  go_ret
  exact ⟨rfl, rfl⟩
set_option maxHeartbeats 1000000 in
theorem parts_9011 (w : World) : Calls Tryz.prog 26 #[.int .i64 9011] w (PartsP 9011 w) := by
  go_enter Tryz.func26, Tryz.ntmps26
  go_wp2_with fail
  go_ret
  exact ⟨rfl, rfl⟩
set_option maxHeartbeats 1000000 in
theorem parts_9020 (w : World) : Calls Tryz.prog 26 #[.int .i64 9020] w (PartsP 9020 w) := by
  go_enter Tryz.func26, Tryz.ntmps26
  go_wp2_with fail
  go_ret
  exact ⟨rfl, rfl⟩
set_option maxHeartbeats 1000000 in
theorem parts_9021 (w : World) : Calls Tryz.prog 26 #[.int .i64 9021] w (PartsP 9021 w) := by
  go_enter Tryz.func26, Tryz.ntmps26
  go_wp2_with fail
  go_ret
  exact ⟨rfl, rfl⟩
set_option maxHeartbeats 1000000 in
theorem parts_9030 (w : World) : Calls Tryz.prog 26 #[.int .i64 9030] w (PartsP 9030 w) := by
  go_enter Tryz.func26, Tryz.ntmps26
  go_wp2_with fail
  go_ret
  exact ⟨rfl, rfl⟩
set_option maxHeartbeats 1000000 in
theorem parts_9031 (w : World) : Calls Tryz.prog 26 #[.int .i64 9031] w (PartsP 9031 w) := by
  go_enter Tryz.func26, Tryz.ntmps26
  go_wp2_with fail
  go_ret
  exact ⟨rfl, rfl⟩
set_option maxHeartbeats 1000000 in
theorem parts_2040 (w : World) : Calls Tryz.prog 26 #[.int .i64 2040] w (PartsP 2040 w) := by
  go_enter Tryz.func26, Tryz.ntmps26
  go_wp2_with fail
  go_ret
  exact ⟨rfl, rfl⟩
set_option maxHeartbeats 1000000 in
theorem parts_4010 (w : World) : Calls Tryz.prog 26 #[.int .i64 4010] w (PartsP 4010 w) := by
  go_enter Tryz.func26, Tryz.ntmps26
  go_wp2_with fail
  go_ret
  exact ⟨rfl, rfl⟩
set_option maxHeartbeats 1000000 in
theorem parts_5010 (w : World) : Calls Tryz.prog 26 #[.int .i64 5010] w (PartsP 5010 w) := by
  go_enter Tryz.func26, Tryz.ntmps26
  go_wp2_with fail
  go_ret
  exact ⟨rfl, rfl⟩
set_option maxHeartbeats 1000000 in
theorem parts_6070 (w : World) : Calls Tryz.prog 26 #[.int .i64 6070] w (PartsP 6070 w) := by
  go_enter Tryz.func26, Tryz.ntmps26
  go_wp2_with fail
  go_ret
  exact ⟨rfl, rfl⟩
set_option maxHeartbeats 1000000 in
theorem parts_5011 (w : World) : Calls Tryz.prog 26 #[.int .i64 5011] w (PartsP 5011 w) := by
  go_enter Tryz.func26, Tryz.ntmps26
  go_wp2_with fail
  go_ret
  exact ⟨rfl, rfl⟩
set_option maxHeartbeats 1000000 in
theorem parts_5020 (w : World) : Calls Tryz.prog 26 #[.int .i64 5020] w (PartsP 5020 w) := by
  go_enter Tryz.func26, Tryz.ntmps26
  go_wp2_with fail
  go_ret
  exact ⟨rfl, rfl⟩
set_option maxHeartbeats 1000000 in
theorem parts_6010 (w : World) : Calls Tryz.prog 26 #[.int .i64 6010] w (PartsP 6010 w) := by
  go_enter Tryz.func26, Tryz.ntmps26
  go_wp2_with fail
  go_ret
  exact ⟨rfl, rfl⟩
set_option maxHeartbeats 1000000 in
theorem parts_6020 (w : World) : Calls Tryz.prog 26 #[.int .i64 6020] w (PartsP 6020 w) := by
  go_enter Tryz.func26, Tryz.ntmps26
  go_wp2_with fail
  go_ret
  exact ⟨rfl, rfl⟩
set_option maxHeartbeats 1000000 in
theorem parts_6021 (w : World) : Calls Tryz.prog 26 #[.int .i64 6021] w (PartsP 6021 w) := by
  go_enter Tryz.func26, Tryz.ntmps26
  go_wp2_with fail
  go_ret
  exact ⟨rfl, rfl⟩
set_option maxHeartbeats 1000000 in
theorem parts_6040 (w : World) : Calls Tryz.prog 26 #[.int .i64 6040] w (PartsP 6040 w) := by
  go_enter Tryz.func26, Tryz.ntmps26
  go_wp2_with fail
  go_ret
  exact ⟨rfl, rfl⟩
set_option maxHeartbeats 1000000 in
theorem parts_6050 (w : World) : Calls Tryz.prog 26 #[.int .i64 6050] w (PartsP 6050 w) := by
  go_enter Tryz.func26, Tryz.ntmps26
  go_wp2_with fail
  go_ret
  exact ⟨rfl, rfl⟩
set_option maxHeartbeats 1000000 in
theorem parts_6060 (w : World) : Calls Tryz.prog 26 #[.int .i64 6060] w (PartsP 6060 w) := by
  go_enter Tryz.func26, Tryz.ntmps26
  go_wp2_with fail
  go_ret
  exact ⟨rfl, rfl⟩
set_option maxHeartbeats 1000000 in
theorem parts_6071 (w : World) : Calls Tryz.prog 26 #[.int .i64 6071] w (PartsP 6071 w) := by
  go_enter Tryz.func26, Tryz.ntmps26
  go_wp2_with fail
  go_ret
  exact ⟨rfl, rfl⟩
set_option maxHeartbeats 1000000 in
theorem parts_6080 (w : World) : Calls Tryz.prog 26 #[.int .i64 6080] w (PartsP 6080 w) := by
  go_enter Tryz.func26, Tryz.ntmps26
  go_wp2_with fail
  go_ret
  exact ⟨rfl, rfl⟩
set_option maxHeartbeats 1000000 in
theorem parts_6090 (w : World) : Calls Tryz.prog 26 #[.int .i64 6090] w (PartsP 6090 w) := by
  go_enter Tryz.func26, Tryz.ntmps26
  go_wp2_with fail
  go_ret
  exact ⟨rfl, rfl⟩
set_option maxHeartbeats 1000000 in
theorem parts_6120 (w : World) : Calls Tryz.prog 26 #[.int .i64 6120] w (PartsP 6120 w) := by
  go_enter Tryz.func26, Tryz.ntmps26
  go_wp2_with fail
  go_ret
  exact ⟨rfl, rfl⟩

set_option maxHeartbeats 4000000 in
theorem parts_not (id : Int) (h : ∀ e ∈ partsTab, ¬ id = e.1) (w : World) : Calls Tryz.prog 26 #[.int .i64 id] w (PartsP id w) := by
  have hp := partsOf_none h
  have n2010 : ¬ id = 2010 := fun e => by subst e; revert hp; decide
  have n2011 : ¬ id = 2011 := fun e => by subst e; revert hp; decide
  have n2041 : ¬ id = 2041 := fun e => by subst e; revert hp; decide
  have n4011 : ¬ id = 4011 := fun e => by subst e; revert hp; decide
  have n5021 : ¬ id = 5021 := fun e => by subst e; revert hp; decide
  have n6011 : ¬ id = 6011 := fun e => by subst e; revert hp; decide
  have n6072 : ¬ id = 6072 := fun e => by subst e; revert hp; decide
  have n8510 : ¬ id = 8510 := fun e => by subst e; revert hp; decide
  have n8511 : ¬ id = 8511 := fun e => by subst e; revert hp; decide
  have n9010 : ¬ id = 9010 := fun e => by subst e; revert hp; decide
  have n9011 : ¬ id = 9011 := fun e => by subst e; revert hp; decide
  have n9020 : ¬ id = 9020 := fun e => by subst e; revert hp; decide
  have n9021 : ¬ id = 9021 := fun e => by subst e; revert hp; decide
  have n9030 : ¬ id = 9030 := fun e => by subst e; revert hp; decide
  have n9031 : ¬ id = 9031 := fun e => by subst e; revert hp; decide
  have n2040 : ¬ id = 2040 := fun e => by subst e; revert hp; decide
  have n4010 : ¬ id = 4010 := fun e => by subst e; revert hp; decide
  have n5010 : ¬ id = 5010 := fun e => by subst e; revert hp; decide
  have n6070 : ¬ id = 6070 := fun e => by subst e; revert hp; decide
  have n5011 : ¬ id = 5011 := fun e => by subst e; revert hp; decide
  have n5020 : ¬ id = 5020 := fun e => by subst e; revert hp; decide
  have n6010 : ¬ id = 6010 := fun e => by subst e; revert hp; decide
  have n6020 : ¬ id = 6020 := fun e => by subst e; revert hp; decide
  have n6021 : ¬ id = 6021 := fun e => by subst e; revert hp; decide
  have n6040 : ¬ id = 6040 := fun e => by subst e; revert hp; decide
  have n6050 : ¬ id = 6050 := fun e => by subst e; revert hp; decide
  have n6060 : ¬ id = 6060 := fun e => by subst e; revert hp; decide
  have n6071 : ¬ id = 6071 := fun e => by subst e; revert hp; decide
  have n6080 : ¬ id = 6080 := fun e => by subst e; revert hp; decide
  have n6090 : ¬ id = 6090 := fun e => by subst e; revert hp; decide
  have n6120 : ¬ id = 6120 := fun e => by subst e; revert hp; decide
  have HP := Lib.hid hp
  clear hp h
  go_enter Tryz.func26, Tryz.ntmps26
  go_wp2_with fail
  go_ret
  refine ⟨?_, rfl⟩
  unfold partsStr
  rw [HP.out]
  rfl

theorem parts_any (id : Int) (w : World) : Calls Tryz.prog 26 #[.int .i64 id] w fun e w' => e = .returned (.string (partsStr id)) ∧ w = w' := by
  by_cases h : ∀ e ∈ partsTab, ¬ id = e.1
  · exact parts_not id h w
  · have h0 := h
    clear h
    by_cases e2010 : id = 2010
    · subst e2010; exact parts_2010 w
    by_cases e2011 : id = 2011
    · subst e2011; exact parts_2011 w
    by_cases e2041 : id = 2041
    · subst e2041; exact parts_2041 w
    by_cases e4011 : id = 4011
    · subst e4011; exact parts_4011 w
    by_cases e5021 : id = 5021
    · subst e5021; exact parts_5021 w
    by_cases e6011 : id = 6011
    · subst e6011; exact parts_6011 w
    by_cases e6072 : id = 6072
    · subst e6072; exact parts_6072 w
    by_cases e8510 : id = 8510
    · subst e8510; exact parts_8510 w
    by_cases e8511 : id = 8511
    · subst e8511; exact parts_8511 w
    by_cases e9010 : id = 9010
    · subst e9010; exact parts_9010 w
    by_cases e9011 : id = 9011
    · subst e9011; exact parts_9011 w
    by_cases e9020 : id = 9020
    · subst e9020; exact parts_9020 w
    by_cases e9021 : id = 9021
    · subst e9021; exact parts_9021 w
    by_cases e9030 : id = 9030
    · subst e9030; exact parts_9030 w
    by_cases e9031 : id = 9031
    · subst e9031; exact parts_9031 w
    by_cases e2040 : id = 2040
    · subst e2040; exact parts_2040 w
    by_cases e4010 : id = 4010
    · subst e4010; exact parts_4010 w
    by_cases e5010 : id = 5010
    · subst e5010; exact parts_5010 w
    by_cases e6070 : id = 6070
    · subst e6070; exact parts_6070 w
    by_cases e5011 : id = 5011
    · subst e5011; exact parts_5011 w
    by_cases e5020 : id = 5020
    · subst e5020; exact parts_5020 w
    by_cases e6010 : id = 6010
    · subst e6010; exact parts_6010 w
    by_cases e6020 : id = 6020
    · subst e6020; exact parts_6020 w
    by_cases e6021 : id = 6021
    · subst e6021; exact parts_6021 w
    by_cases e6040 : id = 6040
    · subst e6040; exact parts_6040 w
    by_cases e6050 : id = 6050
    · subst e6050; exact parts_6050 w
    by_cases e6060 : id = 6060
    · subst e6060; exact parts_6060 w
    by_cases e6071 : id = 6071
    · subst e6071; exact parts_6071 w
    by_cases e6080 : id = 6080
    · subst e6080; exact parts_6080 w
    by_cases e6090 : id = 6090
    · subst e6090; exact parts_6090 w
    by_cases e6120 : id = 6120
    · subst e6120; exact parts_6120 w
    exact absurd (fun e he => by simp [partsTab] at he; rcases he with rfl | rfl | rfl | rfl | rfl | rfl | rfl | rfl | rfl | rfl | rfl | rfl | rfl | rfl | rfl | rfl | rfl | rfl | rfl | rfl | rfl | rfl | rfl | rfl | rfl | rfl | rfl | rfl | rfl | rfl | rfl <;> assumption) h0

end Go.Proofs.YtiobcgolcoocnaaGreatDoor

namespace Go.Proofs.YtiobcgolcoocnaaGreatDoor
open Go.RowKit
set_option linter.unusedVariables false

/-- a call in block g, its table in blocks below B. -/
structure MBox (B : Nat) (w : World) (g : Nat) (m : Me) (a : Option Addr) (cap : Nat) : Prop where
  at_ : MeAt w g m a cap
  tab : TbU w B a cap m.args
  wf : m.Wf
theorem MBox.keep {B : Nat} {w w' : World} {g : Nat} {m : Me} {a : Option Addr} {cap : Nat} (h : MBox B w g m a cap) (hk : ∀ b, b < B → w'.heap[b]? = w.heap[b]?) (hg : w'.heap[g]? = w.heap[g]?) : MBox B w' g m a cap :=
  ⟨h.at_.keep hg, h.tab.keep hk, h.wf⟩
theorem MBox.below {B : Nat} {w w' : World} {g : Nat} {m : Me} {a : Option Addr} {cap : Nat} (h : MBox B w g m a cap) (hB : B ≤ w.heap.size) (hb : Below w.heap.size w w') : MBox B w' g m a cap :=
  h.keep (fun b hb' => hb.block b (by omega)) (hb.block g h.at_.lt)
theorem MBox.lt {B : Nat} {w : World} {g : Nat} {m : Me} {a : Option Addr} {cap : Nat} (h : MBox B w g m a cap) : g < w.heap.size := h.at_.lt

theorem beq_le {n : Nat} {k : Int} : decide ((n : Int) ≤ k) = true ↔ (n : Int) ≤ k := by simp

set_option maxRecDepth 100000 in
set_option maxHeartbeats 4000000 in
theorem mayPart_any {B : Nat} {w : World} {g : Nat} {m : Me} {a : Option Addr} {cap : Nat} (h : MBox B w g m a cap) (p : Pt) :
    Calls Tryz.prog 27 #[.pointer (some ⟨g, 0, none⟩), .int .u8 p.byte.toNat] w (SaysB (m.MayP p) w) := by
  have hlen := h.tab.tb.len
  have HT := Lib.hid h.tab.tb
  have HA := Lib.hid h.at_
  have s1 := h.wf.s1
  have s2 := h.wf.s2
  have s3 := h.wf.s3
  have s4 := h.wf.s4
  have s5 := h.wf.s5
  have ht := h.wf.tag
  have hu1 := u64_lt m.code
  have hu2 := u64_lt m.count
  have hb1 := bitN_le m.flag
  have hb2 := bitN_le m.back
  obtain ⟨⟨c0, c1, c2, c3, c4, c5⟩, c6, c7, c8, c9, c10, c11⟩ := h.at_.cells
  unfold maxLen at hlen s1 s2 s3 s4 s5
  clear h
  cases p
  case a =>
    show Calls Tryz.prog _ #[.pointer (some ⟨g, 0, none⟩), .int .u8 97] w _
    go_enter Tryz.func27, Tryz.ntmps27
    go_wp2_with fail
    refine (mayTable_any _ HT.out).mono ?_
    rintro e w1 ⟨r, hr, rfl, hb⟩
    have HR := Lib.hid hr
    clear hr
    go_wp2_with fail
    go_ret
    exact ⟨r, HR.out, rfl, hb⟩
  case n =>
    show Calls Tryz.prog _ #[.pointer (some ⟨g, 0, none⟩), .int .u8 110] w _
    go_enter Tryz.func27, Tryz.ntmps27
    go_wp2_with fail
    refine (text_yes g .n rfl _).mono ?_
    rintro e w1 ⟨rfl, rfl⟩
    simp only [Pt.off]
    by_cases hl : m.name.size ≤ 255
    · have hi : (m.name.size : Int) ≤ 255 := by omega
      go_wp2_with fail
      go_ret
      exact ⟨true, by simpa [Me.MayP] using hl, by first | rfl | (simp [*]; done) | (simp; omega), Below.refl _ _⟩
    · have hi : ¬ (m.name.size : Int) ≤ 255 := by omega
      go_wp2_with fail
      go_ret
      exact ⟨false, by simpa [Me.MayP] using hl, by first | rfl | (simp [*]; done) | (simp; omega), Below.refl _ _⟩
  case y =>
    show Calls Tryz.prog _ #[.pointer (some ⟨g, 0, none⟩), .int .u8 121] w _
    go_enter Tryz.func27, Tryz.ntmps27
    go_wp2_with fail
    refine (text_yes g .y rfl _).mono ?_
    rintro e w1 ⟨rfl, rfl⟩
    simp only [Pt.off]
    by_cases hl : m.typ.size ≤ 255
    · have hi : (m.typ.size : Int) ≤ 255 := by omega
      go_wp2_with fail
      go_ret
      exact ⟨true, by simpa [Me.MayP] using hl, by first | rfl | (simp [*]; done) | (simp; omega), Below.refl _ _⟩
    · have hi : ¬ (m.typ.size : Int) ≤ 255 := by omega
      go_wp2_with fail
      go_ret
      exact ⟨false, by simpa [Me.MayP] using hl, by first | rfl | (simp [*]; done) | (simp; omega), Below.refl _ _⟩
  case e =>
    show Calls Tryz.prog _ #[.pointer (some ⟨g, 0, none⟩), .int .u8 101] w _
    go_enter Tryz.func27, Tryz.ntmps27
    go_wp2_with fail
    refine (text_yes g .e rfl _).mono ?_
    rintro e w1 ⟨rfl, rfl⟩
    simp only [Pt.off]
    by_cases hl : m.ex.size ≤ 255
    · have hi : (m.ex.size : Int) ≤ 255 := by omega
      go_wp2_with fail
      go_ret
      exact ⟨true, by simpa [Me.MayP] using hl, by first | rfl | (simp [*]; done) | (simp; omega), Below.refl _ _⟩
    · have hi : ¬ (m.ex.size : Int) ≤ 255 := by omega
      go_wp2_with fail
      go_ret
      exact ⟨false, by simpa [Me.MayP] using hl, by first | rfl | (simp [*]; done) | (simp; omega), Below.refl _ _⟩
  case k =>
    show Calls Tryz.prog _ #[.pointer (some ⟨g, 0, none⟩), .int .u8 107] w _
    go_enter Tryz.func27, Tryz.ntmps27
    go_wp2_with fail
    refine (text_yes g .k rfl _).mono ?_
    rintro e w1 ⟨rfl, rfl⟩
    simp only [Pt.off]
    by_cases hl : m.key.size ≤ 255
    · have hi : (m.key.size : Int) ≤ 255 := by omega
      go_wp2_with fail
      go_ret
      exact ⟨true, by simpa [Me.MayP] using hl, by first | rfl | (simp [*]; done) | (simp; omega), Below.refl _ _⟩
    · have hi : ¬ (m.key.size : Int) ≤ 255 := by omega
      go_wp2_with fail
      go_ret
      exact ⟨false, by simpa [Me.MayP] using hl, by first | rfl | (simp [*]; done) | (simp; omega), Below.refl _ _⟩
  case x =>
    show Calls Tryz.prog _ #[.pointer (some ⟨g, 0, none⟩), .int .u8 120] w _
    go_enter Tryz.func27, Tryz.ntmps27
    go_wp2_with fail
    refine (text_yes g .x rfl _).mono ?_
    rintro e w1 ⟨rfl, rfl⟩
    simp only [Pt.off]
    by_cases hl : m.text.size ≤ 255
    · have hi : (m.text.size : Int) ≤ 255 := by omega
      go_wp2_with fail
      go_ret
      exact ⟨true, by simpa [Me.MayP] using hl, by first | rfl | (simp [*]; done) | (simp; omega), Below.refl _ _⟩
    · have hi : ¬ (m.text.size : Int) ≤ 255 := by omega
      go_wp2_with fail
      go_ret
      exact ⟨false, by simpa [Me.MayP] using hl, by first | rfl | (simp [*]; done) | (simp; omega), Below.refl _ _⟩
  case c =>
    show Calls Tryz.prog _ #[.pointer (some ⟨g, 0, none⟩), .int .u8 99] w _
    go_enter Tryz.func27, Tryz.ntmps27
    go_wp2_with fail
    refine (text_no g .c rfl _).mono ?_
    rintro e w1 ⟨rfl, rfl⟩
    go_wp2_with fail
    refine (num_any HA.out .c rfl (by decide)).mono ?_
    rintro e w1 ⟨he, rfl⟩
    replace he : e = .returned (.tuple #[.int .u64 (u64 m.code : Nat), .int .i64 2]) := he
    subst he
    go_wp2_with fail
    go_ret
    refine ⟨_, ?_, rfl, Below.refl _ _⟩
    simp only [Me.MayP]
    first | (simp; done) | (simp; omega) | (rw [beq_iff_eq]; omega)
  case u =>
    show Calls Tryz.prog _ #[.pointer (some ⟨g, 0, none⟩), .int .u8 117] w _
    go_enter Tryz.func27, Tryz.ntmps27
    go_wp2_with fail
    refine (text_no g .u rfl _).mono ?_
    rintro e w1 ⟨rfl, rfl⟩
    go_wp2_with fail
    refine (num_any HA.out .u rfl (by decide)).mono ?_
    rintro e w1 ⟨he, rfl⟩
    replace he : e = .returned (.tuple #[.int .u64 (u64 m.count : Nat), .int .i64 4]) := he
    subst he
    go_wp2_with fail
    go_ret
    refine ⟨_, ?_, rfl, Below.refl _ _⟩
    simp only [Me.MayP]
    first | (simp; done) | (simp; omega) | (rw [beq_iff_eq]; omega)
  case t =>
    show Calls Tryz.prog _ #[.pointer (some ⟨g, 0, none⟩), .int .u8 116] w _
    go_enter Tryz.func27, Tryz.ntmps27
    go_wp2_with fail
    refine (text_no g .t rfl _).mono ?_
    rintro e w1 ⟨rfl, rfl⟩
    go_wp2_with fail
    refine (num_any HA.out .t rfl (by decide)).mono ?_
    rintro e w1 ⟨he, rfl⟩
    replace he : e = .returned (.tuple #[.int .u64 (m.tag : Nat), .int .i64 8]) := he
    subst he
    go_wp2_with fail
    go_ret
    refine ⟨_, ?_, rfl, Below.refl _ _⟩
    simp only [Me.MayP]
    first | (simp; done) | (simp; omega) | (rw [beq_iff_eq]; omega)
  case f =>
    show Calls Tryz.prog _ #[.pointer (some ⟨g, 0, none⟩), .int .u8 102] w _
    go_enter Tryz.func27, Tryz.ntmps27
    go_wp2_with fail
    refine (text_no g .f rfl _).mono ?_
    rintro e w1 ⟨rfl, rfl⟩
    go_wp2_with fail
    refine (num_any HA.out .f rfl (by decide)).mono ?_
    rintro e w1 ⟨he, rfl⟩
    replace he : e = .returned (.tuple #[.int .u64 (bitN m.flag : Nat), .int .i64 1]) := he
    subst he
    go_wp2_with fail
    go_ret
    refine ⟨_, ?_, rfl, Below.refl _ _⟩
    simp only [Me.MayP]
    first | (simp; done) | (simp; omega) | (rw [beq_iff_eq]; omega)
  case b =>
    show Calls Tryz.prog _ #[.pointer (some ⟨g, 0, none⟩), .int .u8 98] w _
    go_enter Tryz.func27, Tryz.ntmps27
    go_wp2_with fail
    refine (text_no g .b rfl _).mono ?_
    rintro e w1 ⟨rfl, rfl⟩
    go_wp2_with fail
    refine (num_any HA.out .b rfl (by decide)).mono ?_
    rintro e w1 ⟨he, rfl⟩
    replace he : e = .returned (.tuple #[.int .u64 (bitN m.back : Nat), .int .i64 1]) := he
    subst he
    go_wp2_with fail
    go_ret
    refine ⟨_, ?_, rfl, Below.refl _ _⟩
    simp only [Me.MayP]
    first | (simp; done) | (simp; omega) | (rw [beq_iff_eq]; omega)

def TakeQ (B g : Nat) (m : Me) (p : Pt) (w : World) (e : Ending) (w' : World) : Prop :=
  e = .returned (.tuple #[]) ∧ (∃ a cap, MBox B w' g (m.cut p) a cap) ∧ w.grownBy w' (some g)
theorem Me.cut_wf {m : Me} (h : m.Wf) (p : Pt) : (m.cut p).Wf := by
  obtain ⟨h0, h1, h2, h3, h4, h5, h6, h7, h8, h9⟩ := h
  have e0 : (ByteArray.empty).size ≤ maxLen := by decide
  have f0 : Fits [] := ⟨fun x hx => by simp at hx, fun x hx => by simp at hx⟩
  cases p <;> exact ⟨by first | exact h0 | exact e0, by first | exact h1 | exact e0, by first | exact h2 | exact e0, by first | exact h3 | exact e0, by first | exact h4 | exact e0, by first | exact h5 | exact e0,
    by first | exact h6 | exact (by decide : (-9223372036854775808 : Int) ≤ 0 ∧ (0 : Int) ≤ 9223372036854775807), by first | exact h7 | exact (by decide : (-9223372036854775808 : Int) ≤ 0 ∧ (0 : Int) ≤ 9223372036854775807), by first | exact h8 | exact (by decide : (0 : Nat) < 18446744073709551616), by first | exact h9 | exact f0⟩
set_option maxRecDepth 100000 in
set_option maxHeartbeats 4000000 in
theorem takeAway_any {B : Nat} {w : World} {g : Nat} {m : Me} {a : Option Addr} {cap : Nat} (h : MBox B w g m a cap) (hB : B ≤ g) (p : Pt) :
    Calls Tryz.prog 28 #[.pointer (some ⟨g, 0, none⟩), .int .u8 p.byte.toNat] w (TakeQ B g m p w) := by
  obtain ⟨⟨c0, c1, c2, c3, c4, c5⟩, c6, c7, c8, c9, c10, c11⟩ := h.at_.cells
  have hf := h.at_.frozen
  have f1 := hf 1
  have f2 := hf 2
  have f3 := hf 3
  have f4 := hf 4
  have f5 := hf 5
  have f11 := hf 11
  have H := Lib.hid h
  clear hf h
  have hk : ∀ (w' : World), w.grownBy w' (some g) → ∀ b, b < B → w'.heap[b]? = w.heap[b]? := fun w' hg b hb => hg.block b (Nat.lt_of_lt_of_le hb (Nat.le_trans hB (Nat.le_of_lt H.out.lt))) (by simp; omega)
  have HK := Lib.hid hk
  clear hk
  have hwf := Me.cut_wf H.out.wf p
  have HW := Lib.hid hwf
  clear hwf
  cases p
  case a =>
    show Calls Tryz.prog _ #[.pointer (some ⟨g, 0, none⟩), .int .u8 97] w _
    go_enter Tryz.func28, Tryz.ntmps28
    go_wp2_with fail
    go_returns
    exact ⟨rfl, ⟨none, 0, by unfold MeAt; rw [set_heap H.out.at_]; rfl, ⟨[], SlAt.nil _ _ (by decide), by simp⟩, HW.out⟩, set_grown _ _ _ _⟩
  case n =>
    show Calls Tryz.prog _ #[.pointer (some ⟨g, 0, none⟩), .int .u8 110] w _
    go_enter Tryz.func28, Tryz.ntmps28
    go_wp2_with fail
    refine (text_yes g .n rfl _).mono ?_
    rintro e w1 ⟨rfl, rfl⟩
    simp only [Pt.off]
    go_wp2_with fail
    go_returns
    exact ⟨rfl, ⟨a, cap, by unfold MeAt; rw [set_heap H.out.at_]; rfl, H.out.tab.keep (HK.out _ (set_grown _ _ _ _)), HW.out⟩, set_grown _ _ _ _⟩
  case y =>
    show Calls Tryz.prog _ #[.pointer (some ⟨g, 0, none⟩), .int .u8 121] w _
    go_enter Tryz.func28, Tryz.ntmps28
    go_wp2_with fail
    refine (text_yes g .y rfl _).mono ?_
    rintro e w1 ⟨rfl, rfl⟩
    simp only [Pt.off]
    go_wp2_with fail
    go_returns
    exact ⟨rfl, ⟨a, cap, by unfold MeAt; rw [set_heap H.out.at_]; rfl, H.out.tab.keep (HK.out _ (set_grown _ _ _ _)), HW.out⟩, set_grown _ _ _ _⟩
  case e =>
    show Calls Tryz.prog _ #[.pointer (some ⟨g, 0, none⟩), .int .u8 101] w _
    go_enter Tryz.func28, Tryz.ntmps28
    go_wp2_with fail
    refine (text_yes g .e rfl _).mono ?_
    rintro e w1 ⟨rfl, rfl⟩
    simp only [Pt.off]
    go_wp2_with fail
    go_returns
    exact ⟨rfl, ⟨a, cap, by unfold MeAt; rw [set_heap H.out.at_]; rfl, H.out.tab.keep (HK.out _ (set_grown _ _ _ _)), HW.out⟩, set_grown _ _ _ _⟩
  case k =>
    show Calls Tryz.prog _ #[.pointer (some ⟨g, 0, none⟩), .int .u8 107] w _
    go_enter Tryz.func28, Tryz.ntmps28
    go_wp2_with fail
    refine (text_yes g .k rfl _).mono ?_
    rintro e w1 ⟨rfl, rfl⟩
    simp only [Pt.off]
    go_wp2_with fail
    go_returns
    exact ⟨rfl, ⟨a, cap, by unfold MeAt; rw [set_heap H.out.at_]; rfl, H.out.tab.keep (HK.out _ (set_grown _ _ _ _)), HW.out⟩, set_grown _ _ _ _⟩
  case x =>
    show Calls Tryz.prog _ #[.pointer (some ⟨g, 0, none⟩), .int .u8 120] w _
    go_enter Tryz.func28, Tryz.ntmps28
    go_wp2_with fail
    refine (text_yes g .x rfl _).mono ?_
    rintro e w1 ⟨rfl, rfl⟩
    simp only [Pt.off]
    go_wp2_with fail
    go_returns
    exact ⟨rfl, ⟨a, cap, by unfold MeAt; rw [set_heap H.out.at_]; rfl, H.out.tab.keep (HK.out _ (set_grown _ _ _ _)), HW.out⟩, set_grown _ _ _ _⟩
  case c =>
    show Calls Tryz.prog _ #[.pointer (some ⟨g, 0, none⟩), .int .u8 99] w _
    go_enter Tryz.func28, Tryz.ntmps28
    go_wp2_with fail
    refine (text_no g .c rfl _).mono ?_
    rintro e w1 ⟨rfl, rfl⟩
    go_wp2_with fail
    refine (setNum_any H.out.at_ .c rfl (by decide) 0 (by decide)).mono ?_
    rintro e w1 ⟨rfl, hm, hg, hz⟩
    go_wp2_with fail
    go_returns
    exact ⟨rfl, ⟨a, cap, hm, H.out.tab.keep (HK.out _ hg), HW.out⟩, hg⟩
  case u =>
    show Calls Tryz.prog _ #[.pointer (some ⟨g, 0, none⟩), .int .u8 117] w _
    go_enter Tryz.func28, Tryz.ntmps28
    go_wp2_with fail
    refine (text_no g .u rfl _).mono ?_
    rintro e w1 ⟨rfl, rfl⟩
    go_wp2_with fail
    refine (setNum_any H.out.at_ .u rfl (by decide) 0 (by decide)).mono ?_
    rintro e w1 ⟨rfl, hm, hg, hz⟩
    go_wp2_with fail
    go_returns
    exact ⟨rfl, ⟨a, cap, hm, H.out.tab.keep (HK.out _ hg), HW.out⟩, hg⟩
  case t =>
    show Calls Tryz.prog _ #[.pointer (some ⟨g, 0, none⟩), .int .u8 116] w _
    go_enter Tryz.func28, Tryz.ntmps28
    go_wp2_with fail
    refine (text_no g .t rfl _).mono ?_
    rintro e w1 ⟨rfl, rfl⟩
    go_wp2_with fail
    refine (setNum_any H.out.at_ .t rfl (by decide) 0 (by decide)).mono ?_
    rintro e w1 ⟨rfl, hm, hg, hz⟩
    go_wp2_with fail
    go_returns
    exact ⟨rfl, ⟨a, cap, hm, H.out.tab.keep (HK.out _ hg), HW.out⟩, hg⟩
  case f =>
    show Calls Tryz.prog _ #[.pointer (some ⟨g, 0, none⟩), .int .u8 102] w _
    go_enter Tryz.func28, Tryz.ntmps28
    go_wp2_with fail
    refine (text_no g .f rfl _).mono ?_
    rintro e w1 ⟨rfl, rfl⟩
    go_wp2_with fail
    refine (setNum_any H.out.at_ .f rfl (by decide) 0 (by decide)).mono ?_
    rintro e w1 ⟨rfl, hm, hg, hz⟩
    go_wp2_with fail
    go_returns
    exact ⟨rfl, ⟨a, cap, hm, H.out.tab.keep (HK.out _ hg), HW.out⟩, hg⟩
  case b =>
    show Calls Tryz.prog _ #[.pointer (some ⟨g, 0, none⟩), .int .u8 98] w _
    go_enter Tryz.func28, Tryz.ntmps28
    go_wp2_with fail
    refine (text_no g .b rfl _).mono ?_
    rintro e w1 ⟨rfl, rfl⟩
    go_wp2_with fail
    refine (setNum_any H.out.at_ .b rfl (by decide) 0 (by decide)).mono ?_
    rintro e w1 ⟨rfl, hm, hg, hz⟩
    go_wp2_with fail
    go_returns
    exact ⟨rfl, ⟨a, cap, hm, H.out.tab.keep (HK.out _ hg), HW.out⟩, hg⟩

end Go.Proofs.YtiobcgolcoocnaaGreatDoor
