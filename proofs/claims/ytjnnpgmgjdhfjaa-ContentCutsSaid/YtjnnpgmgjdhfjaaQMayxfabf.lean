/-
  Which tables may be: package value's may and mayTable, walked.
-/
import Derived.Test.YtjnnpgmgjdhfjaaQLeafsxafcc
namespace Go.Proofs.Ytjnnpgmgjdhfjaa
open Go.RowKit
set_option linter.unusedVariables false

theorem toList_nil (s : ByteArray) : s.toList = [] ↔ s.size = 0 := by
  rw [ByteArray.toList_eq]
  obtain ⟨⟨x⟩⟩ := s
  exact ⟨fun h => by rw [show x = [] from h]; rfl, fun h => List.eq_nil_of_length_eq_zero h⟩
theorem may_0 (d : Nat) (nm : ByteArray) (n : Int) (s : ByteArray) (sub : List It) : (It.mk nm 0 n s sub).May d ↔ n = 0 ∧ s.size = 0 ∧ sub.length = 0 := by
  rw [may_iff]; simp
theorem may_1 (d : Nat) (nm : ByteArray) (n : Int) (s : ByteArray) (sub : List It) : (It.mk nm 1 n s sub).May d ↔ (n = 0 ∨ n = 1) ∧ s.size = 0 ∧ sub.length = 0 := by
  rw [may_iff]; simp
theorem may_2 (d : Nat) (nm : ByteArray) (n : Int) (s : ByteArray) (sub : List It) : (It.mk nm 2 n s sub).May d ↔ (-2147483648 ≤ n ∧ n ≤ 2147483647) ∧ s.size = 0 ∧ sub.length = 0 := by
  rw [may_iff]; simp
theorem may_3 (d : Nat) (nm : ByteArray) (n : Int) (s : ByteArray) (sub : List It) : (It.mk nm 3 n s sub).May d ↔ s.size = 0 ∧ sub.length = 0 := by
  rw [may_iff]; simp
theorem may_4 (d : Nat) (nm : ByteArray) (n : Int) (s : ByteArray) (sub : List It) : (It.mk nm 4 n s sub).May d ↔ n = 0 ∧ s.size ≤ 200 ∧ sub.length = 0 := by
  rw [may_iff]; simp
theorem may_5 (d : Nat) (nm : ByteArray) (n : Int) (s : ByteArray) (sub : List It) : (It.mk nm 5 n s sub).May d ↔ n = 0 ∧ s.size = 0 ∧ MayT d sub := by
  rw [may_iff]; simp
theorem may_n (d : Nat) (nm : ByteArray) (k n : Int) (s : ByteArray) (sub : List It) (h0 : ¬ k = 0) (h1 : ¬ k = 1) (h2 : ¬ k = 2) (h3 : ¬ k = 3) (h4 : ¬ k = 4) (h5 : ¬ k = 5) : ¬ (It.mk nm k n s sub).May d := by
  rw [may_iff]; simp [h0, h1, h2, h3, h4, h5]
theorem len_beq {α : Type} (l : List α) : (((l.length : Nat) : Int) == 0) = decide (l.length = 0) := by
  rw [Bool.eq_iff_iff]; simp

set_option maxRecDepth 100000 in
set_option maxHeartbeats 4000000 in
theorem may0_any (d : Nat) (n : Int) (hn : -9223372036854775808 ≤ n ∧ n ≤ 9223372036854775807) (s : ByteArray) (a : Option Addr) (cap : Nat) (nm : ByteArray) (sub : List It) (hs : s.size ≤ maxLen) (hl : sub.length ≤ maxLen) (w : World) :
    Calls Try.prog 72 #[.agg #[.int .i64 0, .int .i64 n, .string s, .slice a sub.length cap], .int .i64 d] w (SaysB ((It.mk nm 0 n s sub).May d) w) := by
  unfold maxLen at hs hl
  go_enter Try.func72, Try.ntmps72
  go_wp2
  all_goals
    go_ret
    refine ⟨_, ?_, rfl, ?_⟩
    · try simp only [toList_nil] at *
      rw [may_0]
      first | (simp [*, len_beq]; done) | (simp [*, len_beq]; intros; omega)
    · first
        | exact (Below.refl _ _).alloc (Nat.le_refl _) _
        | exact ((Below.refl _ _).alloc (Nat.le_refl _) _).setCell (by simp) _

set_option maxRecDepth 100000 in
set_option maxHeartbeats 4000000 in
theorem may1_any (d : Nat) (n : Int) (hn : -9223372036854775808 ≤ n ∧ n ≤ 9223372036854775807) (s : ByteArray) (a : Option Addr) (cap : Nat) (nm : ByteArray) (sub : List It) (hs : s.size ≤ maxLen) (hl : sub.length ≤ maxLen) (w : World) :
    Calls Try.prog 72 #[.agg #[.int .i64 1, .int .i64 n, .string s, .slice a sub.length cap], .int .i64 d] w (SaysB ((It.mk nm 1 n s sub).May d) w) := by
  unfold maxLen at hs hl
  go_enter Try.func72, Try.ntmps72
  go_wp2
  all_goals
    go_ret
    refine ⟨_, ?_, rfl, ?_⟩
    · try simp only [toList_nil] at *
      rw [may_1]
      first | (simp [*, len_beq]; done) | (simp [*, len_beq]; intros; omega)
    · first
        | exact (Below.refl _ _).alloc (Nat.le_refl _) _
        | exact ((Below.refl _ _).alloc (Nat.le_refl _) _).setCell (by simp) _

set_option maxRecDepth 100000 in
set_option maxHeartbeats 4000000 in
theorem may2_any (d : Nat) (n : Int) (hn : -9223372036854775808 ≤ n ∧ n ≤ 9223372036854775807) (s : ByteArray) (a : Option Addr) (cap : Nat) (nm : ByteArray) (sub : List It) (hs : s.size ≤ maxLen) (hl : sub.length ≤ maxLen) (w : World) :
    Calls Try.prog 72 #[.agg #[.int .i64 2, .int .i64 n, .string s, .slice a sub.length cap], .int .i64 d] w (SaysB ((It.mk nm 2 n s sub).May d) w) := by
  unfold maxLen at hs hl
  clear hn
  obtain ⟨m, hw⟩ : ∃ m, IntKind.i32.wrap n = m := ⟨_, rfl⟩
  have hr : (n = m ↔ -2147483648 ≤ n ∧ n ≤ 2147483647) ∧ -2147483648 ≤ m ∧ m ≤ 2147483647 := by
    rw [← hw, IntKind.wrap_i32]; omega
  obtain ⟨hr, hm1, hm2⟩ := hr
  have HR := Lib.hid hr
  clear hr
  by_cases he : n = m
  · subst he
    have HIN := Lib.hid (HR.out.1 rfl)
    clear HR
    go_enter Try.func72, Try.ntmps72
    go_wp2
    all_goals
      go_ret
      refine ⟨_, ?_, rfl, ?_⟩
      · have hin := HIN.out
        clear hw
        try simp only [toList_nil] at *
        rw [may_2]
        simp [*, len_beq]
      · exact (Below.refl _ _).alloc (Nat.le_refl _) _
  · have hb : (n == m) = false := by simpa using he
    have HE := Lib.hid he
    clear he
    go_enter Try.func72, Try.ntmps72
    go_wp2
    all_goals
      go_ret
      refine ⟨_, ?_, rfl, ?_⟩
      · rw [may_2]
        have := HR.out
        have := HE.out
        constructor
        · intro h; cases h
        · rintro ⟨h, _⟩; omega
      · exact (Below.refl _ _).alloc (Nat.le_refl _) _

set_option maxRecDepth 100000 in
set_option maxHeartbeats 4000000 in
theorem may3_any (d : Nat) (n : Int) (hn : -9223372036854775808 ≤ n ∧ n ≤ 9223372036854775807) (s : ByteArray) (a : Option Addr) (cap : Nat) (nm : ByteArray) (sub : List It) (hs : s.size ≤ maxLen) (hl : sub.length ≤ maxLen) (w : World) :
    Calls Try.prog 72 #[.agg #[.int .i64 3, .int .i64 n, .string s, .slice a sub.length cap], .int .i64 d] w (SaysB ((It.mk nm 3 n s sub).May d) w) := by
  unfold maxLen at hs hl
  go_enter Try.func72, Try.ntmps72
  go_wp2
  all_goals
    go_ret
    refine ⟨_, ?_, rfl, ?_⟩
    · try simp only [toList_nil] at *
      rw [may_3]
      first | (simp [*, len_beq]; done) | (simp [*, len_beq]; intros; omega)
    · first
        | exact (Below.refl _ _).alloc (Nat.le_refl _) _
        | exact ((Below.refl _ _).alloc (Nat.le_refl _) _).setCell (by simp) _

set_option maxRecDepth 100000 in
set_option maxHeartbeats 4000000 in
theorem may4_any (d : Nat) (n : Int) (hn : -9223372036854775808 ≤ n ∧ n ≤ 9223372036854775807) (s : ByteArray) (a : Option Addr) (cap : Nat) (nm : ByteArray) (sub : List It) (hs : s.size ≤ maxLen) (hl : sub.length ≤ maxLen) (w : World) :
    Calls Try.prog 72 #[.agg #[.int .i64 4, .int .i64 n, .string s, .slice a sub.length cap], .int .i64 d] w (SaysB ((It.mk nm 4 n s sub).May d) w) := by
  unfold maxLen at hs hl
  go_enter Try.func72, Try.ntmps72
  go_wp2
  all_goals
    go_ret
    refine ⟨_, ?_, rfl, ?_⟩
    · try simp only [toList_nil] at *
      rw [may_4]
      first | (simp [*, len_beq]; done) | (simp [*, len_beq]; intros; omega)
    · first
        | exact (Below.refl _ _).alloc (Nat.le_refl _) _
        | exact ((Below.refl _ _).alloc (Nat.le_refl _) _).setCell (by simp) _

set_option maxRecDepth 100000 in
set_option maxHeartbeats 4000000 in
theorem mayn_any (d : Nat) (k n : Int) (h0 : ¬ k = 0) (h1 : ¬ k = 1) (h2 : ¬ k = 2) (h3 : ¬ k = 3) (h4 : ¬ k = 4) (h5 : ¬ k = 5) (s : ByteArray) (a : Option Addr) (cap : Nat) (nm : ByteArray) (sub : List It) (hs : s.size ≤ maxLen) (hl : sub.length ≤ maxLen) (w : World) :
    Calls Try.prog 72 #[.agg #[.int .i64 k, .int .i64 n, .string s, .slice a sub.length cap], .int .i64 d] w (SaysB ((It.mk nm k n s sub).May d) w) := by
  unfold maxLen at hs hl
  have b0 : (k == 0) = false := by simpa using h0
  have b1 : (k == 1) = false := by simpa using h1
  have b2 : (k == 2) = false := by simpa using h2
  have b3 : (k == 3) = false := by simpa using h3
  have b4 : (k == 4) = false := by simpa using h4
  have b5 : (k == 5) = false := by simpa using h5
  have HN := Lib.hid (may_n d nm k n s sub h0 h1 h2 h3 h4 h5)
  go_enter Try.func72, Try.ntmps72
  go_wp2
  all_goals
    go_ret
    exact ⟨false, ⟨(fun h => by cases h), fun h => absurd h HN.out⟩, rfl, (Below.refl _ _).alloc (Nat.le_refl _) _⟩

set_option maxRecDepth 100000 in
set_option maxHeartbeats 4000000 in
theorem may5_any (d : Nat) (n : Int) (s : ByteArray) (a : Option Addr) (cap : Nat) (nm : ByteArray) (sub : List It) (hs : s.size ≤ maxLen) (hl : sub.length ≤ maxLen) (w : World)
    (ih : ∀ w1, Below w.heap.size w w1 → Calls Try.prog 58 #[.slice a sub.length cap, .int .i64 d] w1 (SaysB (MayT d sub) w1)) :
    Calls Try.prog 72 #[.agg #[.int .i64 5, .int .i64 n, .string s, .slice a sub.length cap], .int .i64 d] w (SaysB ((It.mk nm 5 n s sub).May d) w) := by
  unfold maxLen at hs hl
  go_enter Try.func72, Try.ntmps72
  go_wp2_with fail
  refine (ih _ ((Below.refl _ _).alloc (Nat.le_refl _) _)).mono ?_
  rintro e w' ⟨r, hr, rfl, hb⟩
  have hz : w.heap.size + 1 ≤ w'.heap.size := by have := hb.size; simpa using this
  have hblk : w'.heap[w.heap.size]? = some (.cells #[.int .i64 5, .int .i64 n, .string s, .slice a sub.length cap] 72 (0, 0)) :=
    (hb.block w.heap.size (by simp)).trans (heap_alloc_new w _)
  have c1 : w'.cell? ⟨w.heap.size, 1, none⟩ = some (.int .i64 n) := by rw [cell_of_row w' _ _ _ _ _ hblk]; rfl
  have c2 : w'.cell? ⟨w.heap.size, 2, none⟩ = some (.string s) := by rw [cell_of_row w' _ _ _ _ _ hblk]; rfl
  have c3 : w'.cell? ⟨w.heap.size, 3, none⟩ = some (.slice a sub.length cap) := by rw [cell_of_row w' _ _ _ _ _ hblk]; rfl
  have f3 : w'.frozen? ⟨w.heap.size, 3, none⟩ = false := by simp [World.frozen?, hblk]
  have HB := Lib.hid hb
  have HZ := Lib.hid hz
  clear hblk hb hz
  have bel : ∀ u, Below w.heap.size w (w'.setCell ⟨w.heap.size, 3, none⟩ u) := fun u =>
    (((Below.refl _ _).alloc (Nat.le_refl _) _).trans (HB.out.mono (by simp))).setCell (Nat.le_refl _) u
  cases r
  · replace hr : ¬ MayT d sub := by simpa using hr
    go_wp2_with fail
    go_ret
    refine ⟨false, ⟨(fun h => by cases h), fun h => ?_⟩, rfl, bel _⟩
    rw [may_5] at h
    exact absurd h.2.2 hr
  · replace hr : MayT d sub := by simpa using hr
    have HR := Lib.hid hr
    clear hr
    go_wp2_with fail
    all_goals
      go_ret
      refine ⟨_, ?_, rfl, bel _⟩
      have hr := HR.out
      rw [may_5]
      try simp only [toList_nil] at *
      simp [*]

/-- the value of an item. -/
theorem may_any (d : Nat) (x : It) (hn : -9223372036854775808 ≤ x.n ∧ x.n ≤ 9223372036854775807) (a : Option Addr) (cap : Nat) (hs : x.s.size ≤ maxLen) (hl : x.sub.length ≤ maxLen) (w : World)
    (ih : ∀ w1, Below w.heap.size w w1 → Calls Try.prog 58 #[.slice a x.sub.length cap, .int .i64 d] w1 (SaysB (MayT d x.sub) w1)) :
    Calls Try.prog 72 #[.agg #[.int .i64 x.kind, .int .i64 x.n, .string x.s, .slice a x.sub.length cap], .int .i64 d] w (SaysB (x.May d) w) := by
  obtain ⟨nm, k, n, s, sub⟩ := x
  simp only [It.kind_mk, It.n_mk, It.s_mk, It.sub_mk] at *
  by_cases h0 : k = 0
  · subst h0; exact may0_any d n hn s a cap nm sub hs hl w
  by_cases h1 : k = 1
  · subst h1; exact may1_any d n hn s a cap nm sub hs hl w
  by_cases h2 : k = 2
  · subst h2; exact may2_any d n hn s a cap nm sub hs hl w
  by_cases h3 : k = 3
  · subst h3; exact may3_any d n hn s a cap nm sub hs hl w
  by_cases h4 : k = 4
  · subst h4; exact may4_any d n hn s a cap nm sub hs hl w
  by_cases h5 : k = 5
  · subst h5; exact may5_any d n s a cap nm sub hs hl w ih
  · exact mayn_any d k n h0 h1 h2 h3 h4 h5 s a cap nm sub hs hl w

end Go.Proofs.Ytjnnpgmgjdhfjaa
