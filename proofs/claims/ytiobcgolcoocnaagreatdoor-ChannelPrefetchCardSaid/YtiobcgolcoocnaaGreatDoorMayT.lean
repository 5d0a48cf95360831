/-
  The small functions of package value, walked.
  Which tables may be: package value's may and mayTable, walked.
  mayTable, MayTable, May.
-/
import Derived.Test.YtiobcgolcoocnaaGreatDoorMem
import Derived.Test.YtiobcgolcoocnaaGreatDoorScope
import Derived.Lib.Hide
import Derived.Deep.RegionHeld3
import Derived.Deep.QuietTactic
import Derived.BigQuiet
import Derived.IntWalk

namespace Go.Proofs.YtiobcgolcoocnaaGreatDoor
open Go.RowKit
set_option linter.unusedVariables false

/-- where the first item of that name stands; -1. -/
def IdxOf (l : List It) (nm : ByteArray) (r : Int) : Prop :=
  (r = -1 ∧ ∀ y ∈ l, y.name ≠ nm) ∨ ∃ (i : Nat) (h : i < l.length), r = i ∧ l[i].name = nm ∧ ∀ y ∈ l.take i, y.name ≠ nm

theorem snoc_ne {l : List It} {k : Nat} {nm : ByteArray} (hk : k < l.length) (h : ∀ y ∈ l.take k, y.name ≠ nm) (hn : ¬ l[k].name = nm) : ∀ y ∈ l.take (k + 1), y.name ≠ nm := by
  intro y hy
  rw [List.take_succ_eq_append_getElem hk, List.mem_append, List.mem_singleton] at hy
  rcases hy with hy | rfl
  · exact h y hy
  · exact hn

def indexRel (a : Option Addr) (cap : Nat) (l : List It) (nm : ByteArray) (w : World) (n : Nat) (a' : Act) (w' : World) : Prop :=
  w = w' ∧ ∃ (k : Nat) (u6 u7 u8 u9 u10 u11 u12 u13 u14 u15 u16 u17 u18 u19 : Value), a' = { tmps := #[.slice a l.length cap, .string nm, undef, undef, .int .i64 0, .int .i64 k, u6, u7, u8, u9, u10, u11, u12, u13, u14, u15, u16, u17, u18, u19], defers := [] } ∧ k ≤ l.length ∧ n = l.length - k ∧ ∀ y ∈ l.take k, y.name ≠ nm

set_option maxRecDepth 100000 in
set_option maxHeartbeats 1000000 in
theorem index_any {a : Option Addr} {cap : Nat} {l : List It} (nm : ByteArray) (w : World) (hl : Tb w a cap l) :
    Calls Tryz.prog 90 #[.slice a l.length cap, .string nm] w fun e w' => ∃ r, IdxOf l nm r ∧ e = .returned (.int .i64 r) ∧ w = w' := by
  have hlen := hl.len
  unfold maxLen at hlen
  go_enter Tryz.func90, Tryz.ntmps90
  go_wp2
  refine wp_scope_ghost 0 (indexRel a cap l nm w) rfl ?_ ?_
  · intro H hb
    go_wp2
    go_step3
    rename_i hK
    refine hK _ _ (hb l.length _ _ ⟨rfl, 0, ?_⟩)
    repeat apply Exists.intro
    exact ⟨rfl, Nat.zero_le _, rfl, by simp⟩
  · rintro n a' w' ⟨rfl, k, u6, u7, u8, u9, u10, u11, u12, u13, u14, u15, u16, u17, u18, u19, rfl, hk, rfl, hn⟩ H hH
    by_cases hlt : k < l.length
    · obtain ⟨b, o, a', cap', rfl, _, hi, _⟩ := hl.get hlt
      have h0 := hi.c0
      by_cases he : l[k].name = nm
      · have hb := beq_str he
        have HE := Lib.hid he
        clear he
        go_wp2
        simp only [Exit.jump]
        go_ret
        exact ⟨k, .inr ⟨k, hlt, rfl, HE.out, hn⟩, rfl, rfl⟩
      · have hb := bne_str he
        have HE := Lib.hid he
        clear he
        go_wp2
        go_step3
        refine ⟨rfl, hH (l.length - (k + 1)) _ _ (by omega) ⟨rfl, k + 1, ?_⟩⟩
        repeat apply Exists.intro
        exact ⟨rfl, by omega, rfl, snoc_ne hlt hn HE.out⟩
    · go_wp2
      simp only [Exit.jump]
      go_ret
      have hall : l.take k = l := List.take_of_length_le (by omega)
      rw [hall] at hn
      exact ⟨-1, .inl ⟨rfl, hn⟩, rfl, rfl⟩

/-- a name may stand behind these items. -/
def NameOk (l : List It) (nm : ByteArray) : Prop := 1 ≤ nm.size ∧ nm.size ≤ 40 ∧ ∀ y ∈ l, y.name ≠ nm
theorem idx_lt {l : List It} {nm : ByteArray} {r : Int} (h : IdxOf l nm r) : r < 0 ↔ ∀ y ∈ l, y.name ≠ nm := by
  rcases h with ⟨rfl, h⟩ | ⟨i, hi, rfl, hn, _⟩
  · exact ⟨fun _ => h, fun _ => by decide⟩
  · exact ⟨fun h => by omega, fun h => absurd hn (h _ (List.getElem_mem hi))⟩
set_option maxHeartbeats 1000000 in
theorem name_any {a : Option Addr} {cap : Nat} {l : List It} (nm : ByteArray) (hs : nm.size ≤ maxLen) (w : World) (hl : Tb w a cap l) :
    Calls Tryz.prog 78 #[.string nm, .slice a l.length cap] w (SaysW (NameOk l nm) w) := by
  unfold maxLen at hs
  by_cases h0 : nm.size = 0
  · obtain ⟨e1, e2⟩ := empty_str h0
    go_enter Tryz.func78, Tryz.ntmps78
    go_wp2_with fail
    go_ret
    exact ⟨false, by unfold NameOk; simp; omega, rfl, rfl⟩
  · obtain ⟨e1, e2⟩ := full_str h0
    by_cases h4 : (nm.size : Int) ≤ 40
    · go_enter Tryz.func78, Tryz.ntmps78
      go_wp2_with fail
      refine (index_any nm _ hl).mono ?_
      rintro e w' ⟨r, hr, rfl, rfl⟩
      go_wp2_with fail
      go_ret
      refine ⟨_, ?_, rfl, rfl⟩
      rw [decide_eq_true_iff, idx_lt hr]
      exact ⟨fun h => ⟨by omega, by omega, h⟩, fun h => h.2.2⟩
    · go_enter Tryz.func78, Tryz.ntmps78
      go_wp2_with fail
      go_ret
      exact ⟨false, by unfold NameOk; simp; omega, rfl, rfl⟩

end Go.Proofs.YtiobcgolcoocnaaGreatDoor

namespace Go.Proofs.YtiobcgolcoocnaaGreatDoor
open Go.RowKit
set_option linter.unusedVariables false

theorem toList_nil (s : ByteArray) : s.toList = [] ↔ s.size = 0 := by
  rw [ByteArray.toList_eq]
  obtain ⟨⟨x⟩⟩ := s
  exact ⟨fun h => by rw [show x = [] from h]; rfl, fun h => List.eq_nil_of_length_eq_zero h⟩
theorem may_0 (d : Nat) (nm : ByteArray) (n : Int) (s : ByteArray) (sub : List It) : (It.mk nm 0 n s sub).May d ↔ n = 0 ∧ s.size = 0 ∧ sub.length = 0 := by
  rw [may_iff]; simp
theorem may_1 (d : Nat) (nm : ByteArray) (n : Int) (s : ByteArray) (sub : List It) : (It.mk nm 1 n s sub).May d ↔ (n = 0 ∨ n = 1) ∧ s.size = 0 ∧ sub.length = 0 := by
  rw [may_iff]; simp
theorem may_2 (d : Nat) (nm : ByteArray) (n : Int) (s : ByteArray) (sub : List It) : (It.mk nm 2 n s sub).May d ↔ (-2147483648 ≤ n ∧ n ≤ 2147483647) ∧ s.size = 0 ∧ sub.length = 0 := by
  rw [may_iff]; simp
theorem may_3 (d : Nat) (nm : ByteArray) (n : Int) (s : ByteArray) (sub : List It) : (It.mk nm 3 n s sub).May d ↔ s.size = 0 ∧ sub.length = 0 := by
  rw [may_iff]; simp
theorem may_4 (d : Nat) (nm : ByteArray) (n : Int) (s : ByteArray) (sub : List It) : (It.mk nm 4 n s sub).May d ↔ n = 0 ∧ s.size ≤ 200 ∧ sub.length = 0 := by
  rw [may_iff]; simp
theorem may_5 (d : Nat) (nm : ByteArray) (n : Int) (s : ByteArray) (sub : List It) : (It.mk nm 5 n s sub).May d ↔ n = 0 ∧ s.size = 0 ∧ MayT d sub := by
  rw [may_iff]; simp
theorem may_n (d : Nat) (nm : ByteArray) (k n : Int) (s : ByteArray) (sub : List It) (h0 : ¬ k = 0) (h1 : ¬ k = 1) (h2 : ¬ k = 2) (h3 : ¬ k = 3) (h4 : ¬ k = 4) (h5 : ¬ k = 5) : ¬ (It.mk nm k n s sub).May d := by
  rw [may_iff]; simp [h0, h1, h2, h3, h4, h5]
theorem len_beq {α : Type} (l : List α) : (((l.length : Nat) : Int) == 0) = decide (l.length = 0) := by
  rw [Bool.eq_iff_iff]; simp

set_option maxRecDepth 100000 in
set_option maxHeartbeats 4000000 in
theorem may0_any (d : Nat) (n : Int) (hn : -9223372036854775808 ≤ n ∧ n ≤ 9223372036854775807) (s : ByteArray) (a : Option Addr) (cap : Nat) (nm : ByteArray) (sub : List It) (hs : s.size ≤ maxLen) (hl : sub.length ≤ maxLen) (w : World) :
    Calls Tryz.prog 79 #[.agg #[.int .i64 0, .int .i64 n, .string s, .slice a sub.length cap], .int .i64 d] w (SaysB ((It.mk nm 0 n s sub).May d) w) := by
  unfold maxLen at hs hl
  go_enter Tryz.func79, Tryz.ntmps79
  go_wp2
  all_goals
    go_ret
    refine ⟨_, ?_, rfl, ?_⟩
    · try simp only [toList_nil] at *
      rw [may_0]
      first | (simp [*, len_beq]; done) | (simp [*, len_beq]; intros; omega)
    · first
        | exact (Below.refl _ _).alloc (Nat.le_refl _) _
        | exact ((Below.refl _ _).alloc (Nat.le_refl _) _).setCell (by simp) _

set_option maxRecDepth 100000 in
set_option maxHeartbeats 4000000 in
theorem may1_any (d : Nat) (n : Int) (hn : -9223372036854775808 ≤ n ∧ n ≤ 9223372036854775807) (s : ByteArray) (a : Option Addr) (cap : Nat) (nm : ByteArray) (sub : List It) (hs : s.size ≤ maxLen) (hl : sub.length ≤ maxLen) (w : World) :
    Calls Tryz.prog 79 #[.agg #[.int .i64 1, .int .i64 n, .string s, .slice a sub.length cap], .int .i64 d] w (SaysB ((It.mk nm 1 n s sub).May d) w) := by
  unfold maxLen at hs hl
  go_enter Tryz.func79, Tryz.ntmps79
  go_wp2
  all_goals
    go_ret
    refine ⟨_, ?_, rfl, ?_⟩
    · try simp only [toList_nil] at *
      rw [may_1]
      first | (simp [*, len_beq]; done) | (simp [*, len_beq]; intros; omega)
    · first
        | exact (Below.refl _ _).alloc (Nat.le_refl _) _
        | exact ((Below.refl _ _).alloc (Nat.le_refl _) _).setCell (by simp) _

set_option maxRecDepth 100000 in
set_option maxHeartbeats 4000000 in
theorem may2_any (d : Nat) (n : Int) (hn : -9223372036854775808 ≤ n ∧ n ≤ 9223372036854775807) (s : ByteArray) (a : Option Addr) (cap : Nat) (nm : ByteArray) (sub : List It) (hs : s.size ≤ maxLen) (hl : sub.length ≤ maxLen) (w : World) :
    Calls Tryz.prog 79 #[.agg #[.int .i64 2, .int .i64 n, .string s, .slice a sub.length cap], .int .i64 d] w (SaysB ((It.mk nm 2 n s sub).May d) w) := by
  unfold maxLen at hs hl
  clear hn
  obtain ⟨m, hw⟩ : ∃ m, IntKind.i32.wrap n = m := ⟨_, rfl⟩
  have hr : (n = m ↔ -2147483648 ≤ n ∧ n ≤ 2147483647) ∧ -2147483648 ≤ m ∧ m ≤ 2147483647 := by
    rw [← hw, IntKind.wrap_i32]; omega
  obtain ⟨hr, hm1, hm2⟩ := hr
  have HR := Lib.hid hr
  clear hr
  by_cases he : n = m
  · subst he
    have HIN := Lib.hid (HR.out.1 rfl)
    clear HR
    go_enter Tryz.func79, Tryz.ntmps79
    go_wp2
    all_goals
      go_ret
      refine ⟨_, ?_, rfl, ?_⟩
      · have hin := HIN.out
        clear hw
        try simp only [toList_nil] at *
        rw [may_2]
        simp [*, len_beq]
      · exact (Below.refl _ _).alloc (Nat.le_refl _) _
  · have hb : (n == m) = false := by simpa using he
    have HE := Lib.hid he
    clear he
    go_enter Tryz.func79, Tryz.ntmps79
    go_wp2
    all_goals
      go_ret
      refine ⟨_, ?_, rfl, ?_⟩
      · rw [may_2]
        have := HR.out
        have := HE.out
        constructor
        · intro h; cases h
        · rintro ⟨h, _⟩; omega
      · exact (Below.refl _ _).alloc (Nat.le_refl _) _

set_option maxRecDepth 100000 in
set_option maxHeartbeats 4000000 in
theorem may3_any (d : Nat) (n : Int) (hn : -9223372036854775808 ≤ n ∧ n ≤ 9223372036854775807) (s : ByteArray) (a : Option Addr) (cap : Nat) (nm : ByteArray) (sub : List It) (hs : s.size ≤ maxLen) (hl : sub.length ≤ maxLen) (w : World) :
    Calls Tryz.prog 79 #[.agg #[.int .i64 3, .int .i64 n, .string s, .slice a sub.length cap], .int .i64 d] w (SaysB ((It.mk nm 3 n s sub).May d) w) := by
  unfold maxLen at hs hl
  go_enter Tryz.func79, Tryz.ntmps79
  go_wp2
  all_goals
    go_ret
    refine ⟨_, ?_, rfl, ?_⟩
    · try simp only [toList_nil] at *
      rw [may_3]
      first | (simp [*, len_beq]; done) | (simp [*, len_beq]; intros; omega)
    · first
        | exact (Below.refl _ _).alloc (Nat.le_refl _) _
        | exact ((Below.refl _ _).alloc (Nat.le_refl _) _).setCell (by simp) _

set_option maxRecDepth 100000 in
set_option maxHeartbeats 4000000 in
theorem may4_any (d : Nat) (n : Int) (hn : -9223372036854775808 ≤ n ∧ n ≤ 9223372036854775807) (s : ByteArray) (a : Option Addr) (cap : Nat) (nm : ByteArray) (sub : List It) (hs : s.size ≤ maxLen) (hl : sub.length ≤ maxLen) (w : World) :
    Calls Tryz.prog 79 #[.agg #[.int .i64 4, .int .i64 n, .string s, .slice a sub.length cap], .int .i64 d] w (SaysB ((It.mk nm 4 n s sub).May d) w) := by
  unfold maxLen at hs hl
  go_enter Tryz.func79, Tryz.ntmps79
  go_wp2
  all_goals
    go_ret
    refine ⟨_, ?_, rfl, ?_⟩
    · try simp only [toList_nil] at *
      rw [may_4]
      first | (simp [*, len_beq]; done) | (simp [*, len_beq]; intros; omega)
    · first
        | exact (Below.refl _ _).alloc (Nat.le_refl _) _
        | exact ((Below.refl _ _).alloc (Nat.le_refl _) _).setCell (by simp) _

set_option maxRecDepth 100000 in
set_option maxHeartbeats 4000000 in
theorem mayn_any (d : Nat) (k n : Int) (h0 : ¬ k = 0) (h1 : ¬ k = 1) (h2 : ¬ k = 2) (h3 : ¬ k = 3) (h4 : ¬ k = 4) (h5 : ¬ k = 5) (s : ByteArray) (a : Option Addr) (cap : Nat) (nm : ByteArray) (sub : List It) (hs : s.size ≤ maxLen) (hl : sub.length ≤ maxLen) (w : World) :
    Calls Tryz.prog 79 #[.agg #[.int .i64 k, .int .i64 n, .string s, .slice a sub.length cap], .int .i64 d] w (SaysB ((It.mk nm k n s sub).May d) w) := by
  unfold maxLen at hs hl
  have b0 : (k == 0) = false := by simpa using h0
  have b1 : (k == 1) = false := by simpa using h1
  have b2 : (k == 2) = false := by simpa using h2
  have b3 : (k == 3) = false := by simpa using h3
  have b4 : (k == 4) = false := by simpa using h4
  have b5 : (k == 5) = false := by simpa using h5
  have HN := Lib.hid (may_n d nm k n s sub h0 h1 h2 h3 h4 h5)
  go_enter Tryz.func79, Tryz.ntmps79
  go_wp2
  all_goals
    go_ret
    exact ⟨false, ⟨(fun h => by cases h), fun h => absurd h HN.out⟩, rfl, (Below.refl _ _).alloc (Nat.le_refl _) _⟩

set_option maxRecDepth 100000 in
set_option maxHeartbeats 4000000 in
theorem may5_any (d : Nat) (n : Int) (s : ByteArray) (a : Option Addr) (cap : Nat) (nm : ByteArray) (sub : List It) (hs : s.size ≤ maxLen) (hl : sub.length ≤ maxLen) (w : World)
    (ih : ∀ w1, Below w.heap.size w w1 → Calls Tryz.prog 61 #[.slice a sub.length cap, .int .i64 d] w1 (SaysB (MayT d sub) w1)) :
    Calls Tryz.prog 79 #[.agg #[.int .i64 5, .int .i64 n, .string s, .slice a sub.length cap], .int .i64 d] w (SaysB ((It.mk nm 5 n s sub).May d) w) := by
  unfold maxLen at hs hl
  go_enter Tryz.func79, Tryz.ntmps79
  go_wp2_with fail
  refine (ih _ ((Below.refl _ _).alloc (Nat.le_refl _) _)).mono ?_
  rintro e w' ⟨r, hr, rfl, hb⟩
  have hz : w.heap.size + 1 ≤ w'.heap.size := by have := hb.size; simpa using this
  have hblk : w'.heap[w.heap.size]? = some (.cells #[.int .i64 5, .int .i64 n, .string s, .slice a sub.length cap] 43 (0, 0)) :=
    (hb.block w.heap.size (by simp)).trans (heap_alloc_new w _)
  have c1 : w'.cell? ⟨w.heap.size, 1, none⟩ = some (.int .i64 n) := by rw [cell_of_row w' _ _ _ _ _ hblk]; rfl
  have c2 : w'.cell? ⟨w.heap.size, 2, none⟩ = some (.string s) := by rw [cell_of_row w' _ _ _ _ _ hblk]; rfl
  have c3 : w'.cell? ⟨w.heap.size, 3, none⟩ = some (.slice a sub.length cap) := by rw [cell_of_row w' _ _ _ _ _ hblk]; rfl
  have f3 : w'.frozen? ⟨w.heap.size, 3, none⟩ = false := by simp [World.frozen?, hblk]
  have HB := Lib.hid hb
  have HZ := Lib.hid hz
  clear hblk hb hz
  have bel : ∀ u, Below w.heap.size w (w'.setCell ⟨w.heap.size, 3, none⟩ u) := fun u =>
    (((Below.refl _ _).alloc (Nat.le_refl _) _).trans (HB.out.mono (by simp))).setCell (Nat.le_refl _) u
  cases r
  · replace hr : ¬ MayT d sub := by simpa using hr
    go_wp2_with fail
    go_ret
    refine ⟨false, ⟨(fun h => by cases h), fun h => ?_⟩, rfl, bel _⟩
    rw [may_5] at h
    exact absurd h.2.2 hr
  · replace hr : MayT d sub := by simpa using hr
    have HR := Lib.hid hr
    clear hr
    go_wp2_with fail
    all_goals
      go_ret
      refine ⟨_, ?_, rfl, bel _⟩
      have hr := HR.out
      rw [may_5]
      try simp only [toList_nil] at *
      simp [*]

/-- the value of an item. -/
theorem may_any (d : Nat) (x : It) (hn : -9223372036854775808 ≤ x.n ∧ x.n ≤ 9223372036854775807) (a : Option Addr) (cap : Nat) (hs : x.s.size ≤ maxLen) (hl : x.sub.length ≤ maxLen) (w : World)
    (ih : ∀ w1, Below w.heap.size w w1 → Calls Tryz.prog 61 #[.slice a x.sub.length cap, .int .i64 d] w1 (SaysB (MayT d x.sub) w1)) :
    Calls Tryz.prog 79 #[.agg #[.int .i64 x.kind, .int .i64 x.n, .string x.s, .slice a x.sub.length cap], .int .i64 d] w (SaysB (x.May d) w) := by
  obtain ⟨nm, k, n, s, sub⟩ := x
  simp only [It.kind_mk, It.n_mk, It.s_mk, It.sub_mk] at *
  by_cases h0 : k = 0
  · subst h0; exact may0_any d n hn s a cap nm sub hs hl w
  by_cases h1 : k = 1
  · subst h1; exact may1_any d n hn s a cap nm sub hs hl w
  by_cases h2 : k = 2
  · subst h2; exact may2_any d n hn s a cap nm sub hs hl w
  by_cases h3 : k = 3
  · subst h3; exact may3_any d n hn s a cap nm sub hs hl w
  by_cases h4 : k = 4
  · subst h4; exact may4_any d n hn s a cap nm sub hs hl w
  by_cases h5 : k = 5
  · subst h5; exact may5_any d n s a cap nm sub hs hl w ih
  · exact mayn_any d k n h0 h1 h2 h3 h4 h5 s a cap nm sub hs hl w

end Go.Proofs.YtiobcgolcoocnaaGreatDoor

namespace Go.Proofs.YtiobcgolcoocnaaGreatDoor
open Go.RowKit
set_option linter.unusedVariables false

theorem name_yes {a : Option Addr} {cap : Nat} {l : List It} {k : Nat} (hk : k ≤ l.length) (nm : ByteArray) (hs : nm.size ≤ maxLen) (w : World) (hl : Tb w a cap l) (hy : NameOk (l.take k) nm) :
    Calls Tryz.prog 78 #[.string nm, .slice a k cap] w fun e w' => e = .returned (.bool true) ∧ w = w' := by
  have h := name_any nm hs w (hl.take hk)
  rw [List.length_take, Nat.min_eq_left hk] at h
  refine h.mono ?_
  rintro e w' ⟨r, hr, rfl, rfl⟩
  exact ⟨by rw [hr.2 hy], rfl⟩
theorem name_no {a : Option Addr} {cap : Nat} {l : List It} {k : Nat} (hk : k ≤ l.length) (nm : ByteArray) (hs : nm.size ≤ maxLen) (w : World) (hl : Tb w a cap l) (hy : ¬ NameOk (l.take k) nm) :
    Calls Tryz.prog 78 #[.string nm, .slice a k cap] w fun e w' => e = .returned (.bool false) ∧ w' = w := by
  have h := name_any nm hs w (hl.take hk)
  rw [List.length_take, Nat.min_eq_left hk] at h
  refine h.mono ?_
  rintro e w' ⟨r, hr, rfl, rfl⟩
  cases r
  · exact ⟨rfl, rfl⟩
  · exact absurd (hr.1 rfl) hy

theorem Below.drewN {B : Nat} {a w : World} (h : Below B a w) (n : Nat) : Below B a (w.drewN n) := ⟨h.os, h.tape, h.output, h.size, h.block⟩

def mayRel (a : Option Addr) (cap : Nat) (l : List It) (d : Nat) (w : World) (n : Nat) (a' : Act) (w' : World) : Prop :=
  Below w.heap.size w w' ∧ ∃ (k : Nat) (u6 u7 u8 u9 u10 u11 u12 u13 u14 u15 u16 u17 u18 u19 u20 u21 u22 u23 u24 u25 u26 u27 u28 u29 u30 u31 u32 u33 u34 u35 u36 u37 u38 u39 : Value), a' = { tmps := #[.slice a l.length cap, .int .i64 d, undef, undef, .bool false, .int .i64 k, u6, u7, u8, u9, u10, u11, u12, u13, u14, u15, u16, u17, u18, u19, u20, u21, u22, u23, u24, u25, u26, u27, u28, u29, u30, u31, u32, u33, u34, u35, u36, u37, u38, u39], defers := [] } ∧ k ≤ l.length ∧ n = l.length - k ∧ Upto (d + 1) k l

set_option maxRecDepth 100000 in
set_option maxHeartbeats 4000000 in
theorem mayTab_any : ∀ (n : Nat) {a : Option Addr} {cap : Nat} {l : List It} (_ : weigh l ≤ n) (d : Nat) (_ : d ≤ 5) (w : World) (_ : Tb w a cap l),
    Calls Tryz.prog 61 #[.slice a l.length cap, .int .i64 d] w (SaysB (MayT d l) w)
  | 0, a, cap, l, h, _, _, _, _ => by have := weigh_pos l; omega
  | n + 1, a, cap, l, hn, d, hd, w, hl => by
    have hlen := hl.len
    unfold maxLen at hlen
    by_cases h4 : 4 < d
    · go_enter Tryz.func61, Tryz.ntmps61
      go_wp2
      go_step3
      go_wp2
      go_ret
      exact ⟨false, ⟨(fun h => by cases h), fun h => absurd h.1 (by omega)⟩, rfl, Below.refl _ _⟩
    by_cases h32 : 32 < (l.length : Int)
    · go_enter Tryz.func61, Tryz.ntmps61
      go_wp2
      go_step3
      go_wp2
      go_ret
      exact ⟨false, ⟨(fun h => by cases h), fun h => absurd h.2.1 (by omega)⟩, rfl, Below.refl _ _⟩
    go_enter Tryz.func61, Tryz.ntmps61
    go_wp2
    refine wp_scope_ghost 0 (mayRel a cap l d w) rfl ?_ ?_
    · intro H hb
      go_wp2
      go_step3
      rename_i hK
      refine hK _ _ (hb l.length _ _ ⟨Below.refl _ _, 0, ?_⟩)
      repeat apply Exists.intro
      exact ⟨rfl, Nat.zero_le _, rfl, upto_zero _ _⟩
    · rintro m a' w' ⟨hbel, k, u6, u7, u8, u9, u10, u11, u12, u13, u14, u15, u16, u17, u18, u19, u20, u21, u22, u23, u24, u25, u26, u27, u28, u29, u30, u31, u32, u33, u34, u35, u36, u37, u38, u39, rfl, hk, rfl, hup⟩ H hH
      by_cases hlt : k < l.length
      · obtain ⟨b, o, a1, cap1, rfl, _, hi, ht⟩ := (hl.below hbel).get hlt
        have hb := hi.c0
        have hc1 := hi.c1
        have hc2 := hi.c2
        have hc3 := hi.c3
        have hc4 := hi.c4
        have k0 : (0 : Int) ≤ (k : Int) := by omega
        have k1 : (k : Int) < (l.length : Int) := by omega
        have k2 : (k : Int) ≤ (cap : Int) := by omega
        by_cases hno : NameOk (l.take k) l[k].name
        · have HN := Lib.hid hno
          clear hno
          have HT := Lib.hid ht
          have HW := Lib.hid (weigh_mem (List.getElem_mem hlt))
          have hs1 : IntKind.i64.wrap ((d : Int) + 1) = ((d + 1 : Nat) : Int) := by rw [IntWalk.i64_in _ (by omega)]; omega
          clear ht
          have KS : ∀ wx, Below w'.heap.size w' wx → wx.cell? ⟨b, o + k * 5, none⟩ = some (.string l[k].name) ∧ wx.cell? ⟨b, o + k * 5 + 1, none⟩ = some (.int .i64 l[k].kind) ∧ wx.cell? ⟨b, o + k * 5 + 2, none⟩ = some (.int .i64 l[k].n) ∧ wx.cell? ⟨b, o + k * 5 + 3, none⟩ = some (.string l[k].s) ∧ wx.cell? ⟨b, o + k * 5 + 4, none⟩ = some (.slice a1 l[k].sub.length cap1) ∧ Below w'.heap.size w' wx := by
            intro wx hx
            have hbk := lt_of_cell hb
            exact ⟨(hx.cell hbk).trans hb, (hx.cell hbk).trans hc1, (hx.cell hbk).trans hc2, (hx.cell hbk).trans hc3, (hx.cell hbk).trans hc4, hx⟩
          have KH := Lib.hid KS
          have HI := Lib.hid hi
          have HL := Lib.hid (hl.below hbel)
          clear KS hi
          go_wp2_with fail
          go_region_held3 (fun wx => wx.cell? ⟨b, o + k * 5, none⟩ = some (.string l[k].name) ∧ wx.cell? ⟨b, o + k * 5 + 1, none⟩ = some (.int .i64 l[k].kind) ∧ wx.cell? ⟨b, o + k * 5 + 2, none⟩ = some (.int .i64 l[k].n) ∧ wx.cell? ⟨b, o + k * 5 + 3, none⟩ = some (.string l[k].s) ∧ wx.cell? ⟨b, o + k * 5 + 4, none⟩ = some (.slice a1 l[k].sub.length cap1) ∧ Below w'.heap.size w' wx)
            (first | exact KH.out _ (Below.refl _ _).drew | exact KH.out _ (by assumption))
            (first
              | (go_at_call 78; have hbx := (by assumption : _ ∧ _ ∧ _ ∧ _ ∧ _ ∧ Below _ _ _).2.2.2.2.2; refine (name_yes (by omega) _ HI.out.m0 _ (HL.out.below hbx) HN.out).mono ?_; rintro e w2 ⟨rfl, rfl⟩)
              | (go_at_call 79; have hbx := (by assumption : _ ∧ _ ∧ _ ∧ _ ∧ _ ∧ Below _ _ _).2.2.2.2.2; refine (may_any (d + 1) l[k] HI.out.k2 a1 cap1 HI.out.m3 (Nat.le_trans (HT.out.len.1) HT.out.len.2) _ (fun w1 hw1 => mayTab_any n (by have := HW.out; omega) (d + 1) (by omega) w1 ((HT.out.below hbx).below hw1))).mono ?_; rintro e w2 ⟨r, hr, rfl, hb2⟩; have hbz := hbx.trans (hb2.mono hbx.size); clear hb2 hbx))
          clear hs1
          have HM := Lib.hid (hbel.trans (hbz.mono hbel.size))
          rename_i hHeld
          clear hHeld hbz hbx
          cases r
          · replace hr : ¬ It.May (d + 1) l[k] := by simpa using hr
            go_wp2_with fail
            simp only [Exit.jump]
            go_ret
            refine ⟨false, ⟨(fun h => by cases h), fun h => ?_⟩, rfl, HM.out⟩
            rw [mayT_upto] at h
            exact absurd ((upto_succ hlt).1 (upto_mono h.2.2 (by omega))).2.2 hr
          · replace hr : It.May (d + 1) l[k] := by simpa using hr
            have HR := Lib.hid hr
            clear hr
            go_wp2_with fail
            go_step3
            refine ⟨rfl, hH (l.length - (k + 1)) _ _ (by omega) ⟨HM.out, k + 1, ?_⟩⟩
            repeat apply Exists.intro
            exact ⟨rfl, by omega, rfl, (upto_succ hlt).2 ⟨hup, HN.out, HR.out⟩⟩
        · have HN := Lib.hid hno
          clear hno
          go_wp2_with fail
          go_quiet ((go_at_call 78; exact Calls.quiet_of_same (name_no (by omega) _ hi.m0 _ ((hl.below hbel).drewN _) HN.out)))
          go_wp2_with fail
          simp only [Exit.jump]
          go_ret
          refine ⟨false, ⟨(fun h => by cases h), fun h => ?_⟩, rfl, ?_⟩
          · rw [mayT_upto] at h
            exact absurd ((upto_succ hlt).1 (upto_mono h.2.2 (by omega))).2.1 HN.out
          · exact hbel.trans (Below.drewN (Below.refl _ _) _)
      · have hke : k = l.length := by omega
        go_wp2
        simp only [Exit.jump]
        go_ret
        refine ⟨true, ⟨fun _ => ?_, fun _ => rfl⟩, rfl, hbel⟩
        rw [mayT_upto, ← hke]
        exact ⟨by omega, by omega, hup⟩

set_option maxHeartbeats 1000000 in
theorem mayTable_any {a : Option Addr} {cap : Nat} {l : List It} (w : World) (hl : Tb w a cap l) :
    Calls Tryz.prog 46 #[.slice a l.length cap] w (SaysB (MayT 1 l) w) := by
  go_enter Tryz.func46, Tryz.ntmps46
  go_wp2_with fail
  refine (mayTab_any _ (Nat.le_refl _) 1 (by omega) _ hl).mono ?_
  rintro e w' ⟨r, hr, rfl, hb⟩
  have HR := Lib.hid hr
  clear hr
  go_wp2_with fail
  go_ret
  exact ⟨r, HR.out, rfl, hb⟩

end Go.Proofs.YtiobcgolcoocnaaGreatDoor
