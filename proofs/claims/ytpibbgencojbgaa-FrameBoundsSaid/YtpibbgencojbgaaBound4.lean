/-
  FrameBounds.
-/
import Derived.Test.YtpibbgencojbgaaTold4
import Derived.Test.YtpibbgencojbgaaArg4
namespace Go.Proofs.Ytpibbgencojbgaa
open Go.RowKit
set_option linter.unusedVariables false

theorem make_zeros (n : Nat) (hn : n ≤ 100000) (w : World) : (Instr.makeSlice 25 (.int .i64 n) (.int .i64 n)).run Try.prog w = .ok (.slice (some ⟨w.heap.size, 0, none⟩) n n) (w.alloc (.cells (madeCells #[.int .u8 0] n) 5)) := by
  obtain ⟨i0, hi, hz0, hz1, hz2⟩ := info_parts u8_info
  have h := run_make (P := Try.prog) w 25 5 i0 _ Try.underlying25 hi hz0 .i64 .i64 n n (by omega) (by omega) (by rw [hz2]; omega) (by omega)
  rw [hz1] at h
  simpa [Value.cells] using h
theorem made_at {w : World} {g n : Nat} (h : w.heap[g]? = some (.cells (madeCells #[.int .u8 0] n) 5 (0, 0))) : BytesAt (g + 1) w (some ⟨g, 0, none⟩) (List.replicate n 0) := by
  intro h0
  refine ⟨g, 0, rfl, by omega, fun i hi => ?_⟩
  rw [cell_of_row w _ _ _ _ _ h, Nat.zero_add]
  have e := toList_madeCells_one (.int .u8 0) n
  rw [← Array.getElem?_toList, e]
  simp only [List.length_replicate] at hi
  rw [List.getElem?_eq_getElem (by simpa using hi)]
  simp

theorem bounds_may {k c t : Nat} (hc : 65534 ≤ c) (ht : 1 ≤ t) : MayN t c k ↔ k ≤ 4096 ∧ c ≤ 65535 ∧ t ≤ 3 := by
  unfold MayN KindOk FitsN
  omega
theorem kind_may {t : Nat} (ht : 1 ≤ t) : MayN t 0 0 ↔ t ≤ 3 ∨ t = 8 := by
  unfold MayN KindOk FitsN
  omega
theorem tmod_nat {q : Int} (h : 0 ≤ q) {m : Int} (hm : 0 < m) : ∃ k : Nat, q.tmod m = (k : Int) ∧ (k : Int) < m := by
  rw [Int.tmod_eq_emod_of_nonneg h]
  have h1 := Int.emod_nonneg q (b := m) (by omega)
  have h2 := Int.emod_lt_of_pos q hm
  exact ⟨(q % m).toNat, by omega, by omega⟩

set_option maxRecDepth 100000 in
set_option maxHeartbeats 8000000 in
theorem bounds_any (p0 p1 p2 : Int) (w : World) (w0 : (Lit.int .i64 p0).wf = true) (w1 : (Lit.int .i64 p1).wf = true) (w2 : (Lit.int .i64 p2).wf = true) :
    Calls Try.prog 13 #[.int .i64 p0, .int .i64 p1, .int .i64 p2] w fun e w' => e = .returned (.bool true) ∧ Below w.heap.size w w' := by
  clear w0 w1 w2
  obtain ⟨q0, hq0⟩ : ∃ q, IntKind.u64.wrap p0 = q := ⟨_, rfl⟩
  obtain ⟨q1, hq1⟩ : ∃ q, IntKind.u64.wrap p1 = q := ⟨_, rfl⟩
  obtain ⟨q2, hq2⟩ : ∃ q, IntKind.u64.wrap p2 = q := ⟨_, rfl⟩
  obtain ⟨k0, hk0, hk5⟩ := tmod_nat (q := q0) (by rw [← hq0, IntKind.wrap_u64]; omega) (m := 5) (by decide)
  obtain ⟨c0, hc0, hc4⟩ := tmod_nat (q := q1) (by rw [← hq1, IntKind.wrap_u64]; omega) (m := 4) (by decide)
  obtain ⟨t0, ht0, ht9⟩ := tmod_nat (q := q2) (by rw [← hq2, IntKind.wrap_u64]; omega) (m := 9) (by decide)
  obtain ⟨k, hk, hkk⟩ : ∃ k : Nat, (4094 : Int) + (k0 : Int) = (k : Int) ∧ k = 4094 + k0 := ⟨4094 + k0, by omega, rfl⟩
  obtain ⟨c, hc, hcc⟩ : ∃ c : Nat, (65534 : Int) + (c0 : Int) = (c : Int) ∧ c = 65534 + c0 := ⟨65534 + c0, by omega, rfl⟩
  obtain ⟨t, ht, htt⟩ : ∃ t : Nat, (1 : Int) + (t0 : Int) = (t : Int) ∧ t = 1 + t0 := ⟨1 + t0, by omega, rfl⟩
  have hmk := make_zeros k (by omega) w
  have hkr : 4094 ≤ k ∧ k ≤ 4098 := by omega
  have hcr : 65534 ≤ c ∧ c ≤ 65537 := by omega
  have htr : 1 ≤ t ∧ t ≤ 9 := by omega
  clear hkk hcc htt
  have hM := bounds_may (k := k) (c := c) (t := t) hcr.1 htr.1
  have hbel1 : Below w.heap.size w ((w.alloc (.cells (madeCells #[.int .u8 0] k) 5)).alloc (.cells #[.int .i64 t, .int .i64 c, .slice (some ⟨w.heap.size, 0, none⟩) k k] 48)) := ((Below.refl _ _).alloc (Nat.le_refl _) _).alloc (by simp) _
  have hput := put_any (w.heap.size + 1) ⟨t, c, List.replicate k 0⟩ (some ⟨w.heap.size, 0, none⟩) k (by simp) (by unfold maxLen; omega) ((w.alloc (.cells (madeCells #[.int .u8 0] k) 5)).alloc (.cells #[.int .i64 t, .int .i64 c, .slice (some ⟨w.heap.size, 0, none⟩) k k] 48)) (by simp)
    (made_at (by rw [Below.heap_alloc _ _ _ (by simp)]; exact heap_alloc_new w _))
  simp only [List.length_replicate] at hput
  have hblk : ((w.alloc (.cells (madeCells #[.int .u8 0] k) 5)).alloc (.cells #[.int .i64 t, .int .i64 c, .slice (some ⟨w.heap.size, 0, none⟩) k k] 48)).heap[w.heap.size + 1]? = some (.cells #[.int .i64 t, .int .i64 c, .slice (some ⟨w.heap.size, 0, none⟩) k k] 48 (0, 0)) := by
    have := heap_alloc_new (w.alloc (.cells (madeCells #[.int .u8 0] k) 5)) (.cells #[.int .i64 t, .int .i64 c, .slice (some ⟨w.heap.size, 0, none⟩) k k] 48)
    simpa using this
  have HPUT := Lib.hid hput
  have HB1 := Lib.hid hbel1
  have HBLK := Lib.hid hblk
  have HM := Lib.hid hM
  have HK := Lib.hid (kind_may (t := t) htr.1)
  clear hput hbel1 hblk hM
  have hall : ((k : Int) ≤ 4096 ∧ (c : Int) ≤ 65535 ∧ (t : Int) ≤ 3) ∨ (¬ (k : Int) ≤ 4096) ∨ ((k : Int) ≤ 4096 ∧ ¬ (c : Int) ≤ 65535) ∨ ((k : Int) ≤ 4096 ∧ (c : Int) ≤ 65535 ∧ ¬ (t : Int) ≤ 3) := by omega
  rcases hall with ⟨hk1, hc1, ht1⟩ | h
  · go_enter Try.func13, Try.ntmps13
    go_wp2_with fail
    refine HPUT.out.mono ?_
    rintro e w1 ⟨hb1, h⟩
    obtain ⟨v, rfl, hbuf⟩ : ∃ v, e = .returned (.tuple #[v, .int .i64 0]) ∧ ∃ l : List UInt8, l.length = k + 8 ∧ Buf w1 ((w.alloc (.cells (madeCells #[.int .u8 0] k) 5)).alloc (.cells #[.int .i64 t, .int .i64 c, .slice (some ⟨w.heap.size, 0, none⟩) k k] 48)).heap.size v l := by
      rcases h with ⟨h, _⟩ | ⟨_, v, h1, h2⟩
      · refine absurd ?_ h
        show MayN t c (List.replicate k (0 : UInt8)).length
        rw [List.length_replicate]
        exact HM.out.2 (by omega)
      · exact ⟨v, h1, _, by rw [putF_length]; simp, h2⟩
    obtain ⟨l, hll, hbuf⟩ := hbuf
    obtain ⟨a, cp, rfl, hlc, hcm⟩ := hbuf.form
    rw [hll] at hlc ⊢
    have hp1 := (hb1.block _ (by simp)).trans HBLK.out
    have hsz1 : w.heap.size + 1 < w1.heap.size := by have := hb1.size; simp at this; omega
    have HB2 := Lib.hid (HB1.out.trans (hb1.mono HB1.out.size))
    have HP1 := Lib.hid hp1
    have hmk2 : (Instr.makeSlice 25 (.int .i64 k) (.int .i64 k)).run Try.prog w = .ok (.slice (some ⟨w.heap.size, 0, none⟩) k k) (w.alloc (.cells (madeCells #[.int .u8 0] k) 5)) := hmk
    clear h hb1 hbuf hll hp1 hmk hmk2 HPUT HB1 HBLK
    go_wp2_with fail
    have hba : Below w1.heap.size w1 (w1.alloc (.cells #[.int .i64 t, .int .i64 0, .slice none 0 0] 48)) := (Below.refl _ _).alloc (Nat.le_refl _) _
    have hpb : (w1.alloc (.cells #[.int .i64 t, .int .i64 0, .slice none 0 0] 48)).heap[w1.heap.size]? = some (.cells #[.int .i64 t, .int .i64 0, .slice none 0 0] 48 (0, 0)) := heap_alloc_new w1 _
    have HP2 := Lib.hid ((hba.block _ hsz1).trans HP1.out)
    have HB3 := Lib.hid (HB2.out.trans (hba.mono HB2.out.size))
    have HPB := Lib.hid hpb
    clear hba hpb HP1 HB2
    refine (told_any _).mono ?_
    rintro e w3 ⟨rfl, hb3⟩
    have hb4 := HB3.out.trans (hb3.mono HB3.out.size)
    obtain ⟨c0', c1', c2'⟩ := cells3 ((hb3.block _ (by simp; omega)).trans HP2.out)
    obtain ⟨d0, d1, d2⟩ := cells3 ((hb3.block _ (by simp)).trans HPB.out)
    have HB4 := Lib.hid hb4
    clear hb3 hb4 HB3 HP2 HPB
    go_wp2_with fail
    refine (may_any t c (some ⟨w.heap.size, 0, none⟩) k k _).mono ?_
    rintro e w5 ⟨r, hr, rfl, hb5⟩
    obtain rfl : r = true := hr.2 (HM.out.2 (by omega))
    have hb6 := HB4.out.trans (hb5.mono HB4.out.size)
    have e0 := (hb5.cell (p := ⟨w1.heap.size, 0, none⟩) (lt_of_cell d0)).trans d0
    have e1 := (hb5.cell (p := ⟨w1.heap.size, 1, none⟩) (lt_of_cell d1)).trans d1
    have e2 := (hb5.cell (p := ⟨w1.heap.size, 2, none⟩) (lt_of_cell d2)).trans d2
    have HB6 := Lib.hid hb6
    clear hr hb5 hb6 c0' c1' c2' d0 d1 d2 HB4
    go_wp2_with fail
    refine (may_any t 0 none 0 0 _).mono ?_
    rintro e w7 ⟨r, hr, rfl, hb7⟩
    obtain rfl : r = true := hr.2 (HK.out.2 (by omega))
    have HB7 := Lib.hid (HB6.out.trans (hb7.mono HB6.out.size))
    clear hr hb7 e0 e1 e2 HB6
    go_wp2_with fail
    go_ret
    exact ⟨by first | rfl | (simp [*]; done) | (simp [*]; omega), HB7.out⟩
  · have htt : ((t : Int) ≤ 3) ∨ (¬ (t : Int) ≤ 3 ∧ t = 8) ∨ (¬ (t : Int) ≤ 3 ∧ ¬ (t : Int) = 8) := by omega
    rcases htt with ht3 | ⟨ht3, h8⟩ | ⟨ht3, h8⟩
    · have hcs : (¬ (k : Int) ≤ 4096) ∨ ((k : Int) ≤ 4096 ∧ ¬ (c : Int) ≤ 65535) := by omega
      clear h
      rcases hcs with hk1 | ⟨hk1, hc1⟩
      · go_enter Try.func13, Try.ntmps13
        go_wp2_with fail
        refine HPUT.out.mono ?_
        rintro e w1 ⟨hb1, h⟩
        obtain rfl : e = .returned (.tuple #[.slice none 0 0, .int .i64 1]) := by
          rcases h with ⟨_, h⟩ | ⟨h, _⟩
          · exact h
          · refine absurd h ?_
            show ¬ MayN t c (List.replicate k (0 : UInt8)).length
            rw [List.length_replicate, HM.out]
            omega
        have hp1 := (hb1.block _ (by simp)).trans HBLK.out
        have hsz1 : w.heap.size + 1 < w1.heap.size := by have := hb1.size; simp at this; omega
        have HB2 := Lib.hid (HB1.out.trans (hb1.mono HB1.out.size))
        have HP1 := Lib.hid hp1
        have hmk2 : (Instr.makeSlice 25 (.int .i64 k) (.int .i64 k)).run Try.prog w = .ok (.slice (some ⟨w.heap.size, 0, none⟩) k k) (w.alloc (.cells (madeCells #[.int .u8 0] k) 5)) := hmk
        clear h hb1 hp1 hmk hmk2 HPUT HB1 HBLK
        go_wp2_with fail
        have hba : Below w1.heap.size w1 (w1.alloc (.cells #[.int .i64 t, .int .i64 0, .slice none 0 0] 48)) := (Below.refl _ _).alloc (Nat.le_refl _) _
        have hpb : (w1.alloc (.cells #[.int .i64 t, .int .i64 0, .slice none 0 0] 48)).heap[w1.heap.size]? = some (.cells #[.int .i64 t, .int .i64 0, .slice none 0 0] 48 (0, 0)) := heap_alloc_new w1 _
        have HP2 := Lib.hid ((hba.block _ hsz1).trans HP1.out)
        have HB3 := Lib.hid (HB2.out.trans (hba.mono HB2.out.size))
        have HPB := Lib.hid hpb
        clear hba hpb HP1 HB2
        refine (told_any _).mono ?_
        rintro e w3 ⟨rfl, hb3⟩
        have hb4 := HB3.out.trans (hb3.mono HB3.out.size)
        obtain ⟨c0', c1', c2'⟩ := cells3 ((hb3.block _ (by simp; omega)).trans HP2.out)
        obtain ⟨d0, d1, d2⟩ := cells3 ((hb3.block _ (by simp)).trans HPB.out)
        have HB4 := Lib.hid hb4
        clear hb3 hb4 HB3 HP2 HPB
        go_wp2_with fail
        refine (may_any t c (some ⟨w.heap.size, 0, none⟩) k k _).mono ?_
        rintro e w5 ⟨r, hr, rfl, hb5⟩
        have hr0 : r = false := not_said hr (by rw [HM.out]; omega)
        subst hr0
        have hb6 := HB4.out.trans (hb5.mono HB4.out.size)
        have e0 := (hb5.cell (p := ⟨w1.heap.size, 0, none⟩) (lt_of_cell d0)).trans d0
        have e1 := (hb5.cell (p := ⟨w1.heap.size, 1, none⟩) (lt_of_cell d1)).trans d1
        have e2 := (hb5.cell (p := ⟨w1.heap.size, 2, none⟩) (lt_of_cell d2)).trans d2
        have HB6 := Lib.hid hb6
        clear hr hb5 hb6 c0' c1' c2' d0 d1 d2 HB4
        go_wp2_with fail
        refine (may_any t 0 none 0 0 _).mono ?_
        rintro e w7 ⟨r, hr, rfl, hb7⟩
        obtain rfl : r = true := hr.2 (HK.out.2 (by omega))
        have HB7 := Lib.hid (HB6.out.trans (hb7.mono HB6.out.size))
        clear hr hb7 e0 e1 e2 HB6
        go_wp2_with fail
        go_ret
        exact ⟨by first | rfl | (simp [*]; done) | (simp [*]; omega), HB7.out⟩
      · go_enter Try.func13, Try.ntmps13
        go_wp2_with fail
        refine HPUT.out.mono ?_
        rintro e w1 ⟨hb1, h⟩
        obtain rfl : e = .returned (.tuple #[.slice none 0 0, .int .i64 1]) := by
          rcases h with ⟨_, h⟩ | ⟨h, _⟩
          · exact h
          · refine absurd h ?_
            show ¬ MayN t c (List.replicate k (0 : UInt8)).length
            rw [List.length_replicate, HM.out]
            omega
        have hp1 := (hb1.block _ (by simp)).trans HBLK.out
        have hsz1 : w.heap.size + 1 < w1.heap.size := by have := hb1.size; simp at this; omega
        have HB2 := Lib.hid (HB1.out.trans (hb1.mono HB1.out.size))
        have HP1 := Lib.hid hp1
        have hmk2 : (Instr.makeSlice 25 (.int .i64 k) (.int .i64 k)).run Try.prog w = .ok (.slice (some ⟨w.heap.size, 0, none⟩) k k) (w.alloc (.cells (madeCells #[.int .u8 0] k) 5)) := hmk
        clear h hb1 hp1 hmk hmk2 HPUT HB1 HBLK
        go_wp2_with fail
        have hba : Below w1.heap.size w1 (w1.alloc (.cells #[.int .i64 t, .int .i64 0, .slice none 0 0] 48)) := (Below.refl _ _).alloc (Nat.le_refl _) _
        have hpb : (w1.alloc (.cells #[.int .i64 t, .int .i64 0, .slice none 0 0] 48)).heap[w1.heap.size]? = some (.cells #[.int .i64 t, .int .i64 0, .slice none 0 0] 48 (0, 0)) := heap_alloc_new w1 _
        have HP2 := Lib.hid ((hba.block _ hsz1).trans HP1.out)
        have HB3 := Lib.hid (HB2.out.trans (hba.mono HB2.out.size))
        have HPB := Lib.hid hpb
        clear hba hpb HP1 HB2
        refine (told_any _).mono ?_
        rintro e w3 ⟨rfl, hb3⟩
        have hb4 := HB3.out.trans (hb3.mono HB3.out.size)
        obtain ⟨c0', c1', c2'⟩ := cells3 ((hb3.block _ (by simp; omega)).trans HP2.out)
        obtain ⟨d0, d1, d2⟩ := cells3 ((hb3.block _ (by simp)).trans HPB.out)
        have HB4 := Lib.hid hb4
        clear hb3 hb4 HB3 HP2 HPB
        go_wp2_with fail
        refine (may_any t c (some ⟨w.heap.size, 0, none⟩) k k _).mono ?_
        rintro e w5 ⟨r, hr, rfl, hb5⟩
        have hr0 : r = false := not_said hr (by rw [HM.out]; omega)
        subst hr0
        have hb6 := HB4.out.trans (hb5.mono HB4.out.size)
        have e0 := (hb5.cell (p := ⟨w1.heap.size, 0, none⟩) (lt_of_cell d0)).trans d0
        have e1 := (hb5.cell (p := ⟨w1.heap.size, 1, none⟩) (lt_of_cell d1)).trans d1
        have e2 := (hb5.cell (p := ⟨w1.heap.size, 2, none⟩) (lt_of_cell d2)).trans d2
        have HB6 := Lib.hid hb6
        clear hr hb5 hb6 c0' c1' c2' d0 d1 d2 HB4
        go_wp2_with fail
        refine (may_any t 0 none 0 0 _).mono ?_
        rintro e w7 ⟨r, hr, rfl, hb7⟩
        obtain rfl : r = true := hr.2 (HK.out.2 (by omega))
        have HB7 := Lib.hid (HB6.out.trans (hb7.mono HB6.out.size))
        clear hr hb7 e0 e1 e2 HB6
        go_wp2_with fail
        go_ret
        exact ⟨by first | rfl | (simp [*]; done) | (simp [*]; omega), HB7.out⟩
    · have hb8 : ((t : Int) == 8) = true := by rw [h8]; rfl
      have HMT := Lib.hid (HK.out.2 (by omega))
      clear h8
      have hcs : (¬ (k : Int) ≤ 4096) ∨ ((k : Int) ≤ 4096 ∧ ¬ (c : Int) ≤ 65535) ∨ ((k : Int) ≤ 4096 ∧ (c : Int) ≤ 65535 ∧ ¬ (t : Int) ≤ 3) := by omega
      clear h
      rcases hcs with hk1 | ⟨hk1, hc1⟩ | ⟨hk1, hc1, ht1⟩
      · go_enter Try.func13, Try.ntmps13
        go_wp2_with fail
        refine HPUT.out.mono ?_
        rintro e w1 ⟨hb1, h⟩
        obtain rfl : e = .returned (.tuple #[.slice none 0 0, .int .i64 1]) := by
          rcases h with ⟨_, h⟩ | ⟨h, _⟩
          · exact h
          · refine absurd h ?_
            show ¬ MayN t c (List.replicate k (0 : UInt8)).length
            rw [List.length_replicate, HM.out]
            omega
        have hp1 := (hb1.block _ (by simp)).trans HBLK.out
        have hsz1 : w.heap.size + 1 < w1.heap.size := by have := hb1.size; simp at this; omega
        have HB2 := Lib.hid (HB1.out.trans (hb1.mono HB1.out.size))
        have HP1 := Lib.hid hp1
        have hmk2 : (Instr.makeSlice 25 (.int .i64 k) (.int .i64 k)).run Try.prog w = .ok (.slice (some ⟨w.heap.size, 0, none⟩) k k) (w.alloc (.cells (madeCells #[.int .u8 0] k) 5)) := hmk
        clear h hb1 hp1 hmk hmk2 HPUT HB1 HBLK
        go_wp2_with fail
        have hba : Below w1.heap.size w1 (w1.alloc (.cells #[.int .i64 t, .int .i64 0, .slice none 0 0] 48)) := (Below.refl _ _).alloc (Nat.le_refl _) _
        have hpb : (w1.alloc (.cells #[.int .i64 t, .int .i64 0, .slice none 0 0] 48)).heap[w1.heap.size]? = some (.cells #[.int .i64 t, .int .i64 0, .slice none 0 0] 48 (0, 0)) := heap_alloc_new w1 _
        have HP2 := Lib.hid ((hba.block _ hsz1).trans HP1.out)
        have HB3 := Lib.hid (HB2.out.trans (hba.mono HB2.out.size))
        have HPB := Lib.hid hpb
        clear hba hpb HP1 HB2
        refine (told_any _).mono ?_
        rintro e w3 ⟨rfl, hb3⟩
        have hb4 := HB3.out.trans (hb3.mono HB3.out.size)
        obtain ⟨c0', c1', c2'⟩ := cells3 ((hb3.block _ (by simp; omega)).trans HP2.out)
        obtain ⟨d0, d1, d2⟩ := cells3 ((hb3.block _ (by simp)).trans HPB.out)
        have HB4 := Lib.hid hb4
        clear hb3 hb4 HB3 HP2 HPB
        go_wp2_with fail
        refine (may_any t c (some ⟨w.heap.size, 0, none⟩) k k _).mono ?_
        rintro e w5 ⟨r, hr, rfl, hb5⟩
        have hr0 : r = false := not_said hr (by rw [HM.out]; omega)
        subst hr0
        have hb6 := HB4.out.trans (hb5.mono HB4.out.size)
        have e0 := (hb5.cell (p := ⟨w1.heap.size, 0, none⟩) (lt_of_cell d0)).trans d0
        have e1 := (hb5.cell (p := ⟨w1.heap.size, 1, none⟩) (lt_of_cell d1)).trans d1
        have e2 := (hb5.cell (p := ⟨w1.heap.size, 2, none⟩) (lt_of_cell d2)).trans d2
        have HB6 := Lib.hid hb6
        clear hr hb5 hb6 c0' c1' c2' d0 d1 d2 HB4
        go_wp2_with fail
        refine (may_any t 0 none 0 0 _).mono ?_
        rintro e w7 ⟨r, hr, rfl, hb7⟩
        obtain rfl : r = true := hr.2 HMT.out
        have HB7 := Lib.hid (HB6.out.trans (hb7.mono HB6.out.size))
        clear hr hb7 e0 e1 e2 HB6
        go_wp2_with fail
        go_ret
        exact ⟨by first | rfl | (simp [*]; done) | (simp [*]; omega), HB7.out⟩
      · go_enter Try.func13, Try.ntmps13
        go_wp2_with fail
        refine HPUT.out.mono ?_
        rintro e w1 ⟨hb1, h⟩
        obtain rfl : e = .returned (.tuple #[.slice none 0 0, .int .i64 1]) := by
          rcases h with ⟨_, h⟩ | ⟨h, _⟩
          · exact h
          · refine absurd h ?_
            show ¬ MayN t c (List.replicate k (0 : UInt8)).length
            rw [List.length_replicate, HM.out]
            omega
        have hp1 := (hb1.block _ (by simp)).trans HBLK.out
        have hsz1 : w.heap.size + 1 < w1.heap.size := by have := hb1.size; simp at this; omega
        have HB2 := Lib.hid (HB1.out.trans (hb1.mono HB1.out.size))
        have HP1 := Lib.hid hp1
        have hmk2 : (Instr.makeSlice 25 (.int .i64 k) (.int .i64 k)).run Try.prog w = .ok (.slice (some ⟨w.heap.size, 0, none⟩) k k) (w.alloc (.cells (madeCells #[.int .u8 0] k) 5)) := hmk
        clear h hb1 hp1 hmk hmk2 HPUT HB1 HBLK
        go_wp2_with fail
        have hba : Below w1.heap.size w1 (w1.alloc (.cells #[.int .i64 t, .int .i64 0, .slice none 0 0] 48)) := (Below.refl _ _).alloc (Nat.le_refl _) _
        have hpb : (w1.alloc (.cells #[.int .i64 t, .int .i64 0, .slice none 0 0] 48)).heap[w1.heap.size]? = some (.cells #[.int .i64 t, .int .i64 0, .slice none 0 0] 48 (0, 0)) := heap_alloc_new w1 _
        have HP2 := Lib.hid ((hba.block _ hsz1).trans HP1.out)
        have HB3 := Lib.hid (HB2.out.trans (hba.mono HB2.out.size))
        have HPB := Lib.hid hpb
        clear hba hpb HP1 HB2
        refine (told_any _).mono ?_
        rintro e w3 ⟨rfl, hb3⟩
        have hb4 := HB3.out.trans (hb3.mono HB3.out.size)
        obtain ⟨c0', c1', c2'⟩ := cells3 ((hb3.block _ (by simp; omega)).trans HP2.out)
        obtain ⟨d0, d1, d2⟩ := cells3 ((hb3.block _ (by simp)).trans HPB.out)
        have HB4 := Lib.hid hb4
        clear hb3 hb4 HB3 HP2 HPB
        go_wp2_with fail
        refine (may_any t c (some ⟨w.heap.size, 0, none⟩) k k _).mono ?_
        rintro e w5 ⟨r, hr, rfl, hb5⟩
        have hr0 : r = false := not_said hr (by rw [HM.out]; omega)
        subst hr0
        have hb6 := HB4.out.trans (hb5.mono HB4.out.size)
        have e0 := (hb5.cell (p := ⟨w1.heap.size, 0, none⟩) (lt_of_cell d0)).trans d0
        have e1 := (hb5.cell (p := ⟨w1.heap.size, 1, none⟩) (lt_of_cell d1)).trans d1
        have e2 := (hb5.cell (p := ⟨w1.heap.size, 2, none⟩) (lt_of_cell d2)).trans d2
        have HB6 := Lib.hid hb6
        clear hr hb5 hb6 c0' c1' c2' d0 d1 d2 HB4
        go_wp2_with fail
        refine (may_any t 0 none 0 0 _).mono ?_
        rintro e w7 ⟨r, hr, rfl, hb7⟩
        obtain rfl : r = true := hr.2 HMT.out
        have HB7 := Lib.hid (HB6.out.trans (hb7.mono HB6.out.size))
        clear hr hb7 e0 e1 e2 HB6
        go_wp2_with fail
        go_ret
        exact ⟨by first | rfl | (simp [*]; done) | (simp [*]; omega), HB7.out⟩
      · go_enter Try.func13, Try.ntmps13
        go_wp2_with fail
        refine HPUT.out.mono ?_
        rintro e w1 ⟨hb1, h⟩
        obtain rfl : e = .returned (.tuple #[.slice none 0 0, .int .i64 1]) := by
          rcases h with ⟨_, h⟩ | ⟨h, _⟩
          · exact h
          · refine absurd h ?_
            show ¬ MayN t c (List.replicate k (0 : UInt8)).length
            rw [List.length_replicate, HM.out]
            omega
        have hp1 := (hb1.block _ (by simp)).trans HBLK.out
        have hsz1 : w.heap.size + 1 < w1.heap.size := by have := hb1.size; simp at this; omega
        have HB2 := Lib.hid (HB1.out.trans (hb1.mono HB1.out.size))
        have HP1 := Lib.hid hp1
        have hmk2 : (Instr.makeSlice 25 (.int .i64 k) (.int .i64 k)).run Try.prog w = .ok (.slice (some ⟨w.heap.size, 0, none⟩) k k) (w.alloc (.cells (madeCells #[.int .u8 0] k) 5)) := hmk
        clear h hb1 hp1 hmk hmk2 HPUT HB1 HBLK
        go_wp2_with fail
        have hba : Below w1.heap.size w1 (w1.alloc (.cells #[.int .i64 t, .int .i64 0, .slice none 0 0] 48)) := (Below.refl _ _).alloc (Nat.le_refl _) _
        have hpb : (w1.alloc (.cells #[.int .i64 t, .int .i64 0, .slice none 0 0] 48)).heap[w1.heap.size]? = some (.cells #[.int .i64 t, .int .i64 0, .slice none 0 0] 48 (0, 0)) := heap_alloc_new w1 _
        have HP2 := Lib.hid ((hba.block _ hsz1).trans HP1.out)
        have HB3 := Lib.hid (HB2.out.trans (hba.mono HB2.out.size))
        have HPB := Lib.hid hpb
        clear hba hpb HP1 HB2
        refine (told_any _).mono ?_
        rintro e w3 ⟨rfl, hb3⟩
        have hb4 := HB3.out.trans (hb3.mono HB3.out.size)
        obtain ⟨c0', c1', c2'⟩ := cells3 ((hb3.block _ (by simp; omega)).trans HP2.out)
        obtain ⟨d0, d1, d2⟩ := cells3 ((hb3.block _ (by simp)).trans HPB.out)
        have HB4 := Lib.hid hb4
        clear hb3 hb4 HB3 HP2 HPB
        go_wp2_with fail
        refine (may_any t c (some ⟨w.heap.size, 0, none⟩) k k _).mono ?_
        rintro e w5 ⟨r, hr, rfl, hb5⟩
        have hr0 : r = false := not_said hr (by rw [HM.out]; omega)
        subst hr0
        have hb6 := HB4.out.trans (hb5.mono HB4.out.size)
        have e0 := (hb5.cell (p := ⟨w1.heap.size, 0, none⟩) (lt_of_cell d0)).trans d0
        have e1 := (hb5.cell (p := ⟨w1.heap.size, 1, none⟩) (lt_of_cell d1)).trans d1
        have e2 := (hb5.cell (p := ⟨w1.heap.size, 2, none⟩) (lt_of_cell d2)).trans d2
        have HB6 := Lib.hid hb6
        clear hr hb5 hb6 c0' c1' c2' d0 d1 d2 HB4
        go_wp2_with fail
        refine (may_any t 0 none 0 0 _).mono ?_
        rintro e w7 ⟨r, hr, rfl, hb7⟩
        obtain rfl : r = true := hr.2 HMT.out
        have HB7 := Lib.hid (HB6.out.trans (hb7.mono HB6.out.size))
        clear hr hb7 e0 e1 e2 HB6
        go_wp2_with fail
        go_ret
        exact ⟨by first | rfl | (simp [*]; done) | (simp [*]; omega), HB7.out⟩
    · have hb8 : ((t : Int) == 8) = false := by rw [beq_eq_false_iff_ne]; exact h8
      have hcs : (¬ (k : Int) ≤ 4096) ∨ ((k : Int) ≤ 4096 ∧ ¬ (c : Int) ≤ 65535) ∨ ((k : Int) ≤ 4096 ∧ (c : Int) ≤ 65535 ∧ ¬ (t : Int) ≤ 3) := by omega
      clear h
      rcases hcs with hk1 | ⟨hk1, hc1⟩ | ⟨hk1, hc1, ht1⟩
      · go_enter Try.func13, Try.ntmps13
        go_wp2_with fail
        refine HPUT.out.mono ?_
        rintro e w1 ⟨hb1, h⟩
        obtain rfl : e = .returned (.tuple #[.slice none 0 0, .int .i64 1]) := by
          rcases h with ⟨_, h⟩ | ⟨h, _⟩
          · exact h
          · refine absurd h ?_
            show ¬ MayN t c (List.replicate k (0 : UInt8)).length
            rw [List.length_replicate, HM.out]
            omega
        have hp1 := (hb1.block _ (by simp)).trans HBLK.out
        have hsz1 : w.heap.size + 1 < w1.heap.size := by have := hb1.size; simp at this; omega
        have HB2 := Lib.hid (HB1.out.trans (hb1.mono HB1.out.size))
        have HP1 := Lib.hid hp1
        have hmk2 : (Instr.makeSlice 25 (.int .i64 k) (.int .i64 k)).run Try.prog w = .ok (.slice (some ⟨w.heap.size, 0, none⟩) k k) (w.alloc (.cells (madeCells #[.int .u8 0] k) 5)) := hmk
        clear h hb1 hp1 hmk hmk2 HPUT HB1 HBLK
        go_wp2_with fail
        have hba : Below w1.heap.size w1 (w1.alloc (.cells #[.int .i64 t, .int .i64 0, .slice none 0 0] 48)) := (Below.refl _ _).alloc (Nat.le_refl _) _
        have hpb : (w1.alloc (.cells #[.int .i64 t, .int .i64 0, .slice none 0 0] 48)).heap[w1.heap.size]? = some (.cells #[.int .i64 t, .int .i64 0, .slice none 0 0] 48 (0, 0)) := heap_alloc_new w1 _
        have HP2 := Lib.hid ((hba.block _ hsz1).trans HP1.out)
        have HB3 := Lib.hid (HB2.out.trans (hba.mono HB2.out.size))
        have HPB := Lib.hid hpb
        clear hba hpb HP1 HB2
        refine (told_any _).mono ?_
        rintro e w3 ⟨rfl, hb3⟩
        have hb4 := HB3.out.trans (hb3.mono HB3.out.size)
        obtain ⟨c0', c1', c2'⟩ := cells3 ((hb3.block _ (by simp; omega)).trans HP2.out)
        obtain ⟨d0, d1, d2⟩ := cells3 ((hb3.block _ (by simp)).trans HPB.out)
        have HB4 := Lib.hid hb4
        clear hb3 hb4 HB3 HP2 HPB
        go_wp2_with fail
        refine (may_any t c (some ⟨w.heap.size, 0, none⟩) k k _).mono ?_
        rintro e w5 ⟨r, hr, rfl, hb5⟩
        have hr0 : r = false := not_said hr (by rw [HM.out]; omega)
        subst hr0
        have hb6 := HB4.out.trans (hb5.mono HB4.out.size)
        have e0 := (hb5.cell (p := ⟨w1.heap.size, 0, none⟩) (lt_of_cell d0)).trans d0
        have e1 := (hb5.cell (p := ⟨w1.heap.size, 1, none⟩) (lt_of_cell d1)).trans d1
        have e2 := (hb5.cell (p := ⟨w1.heap.size, 2, none⟩) (lt_of_cell d2)).trans d2
        have HB6 := Lib.hid hb6
        clear hr hb5 hb6 c0' c1' c2' d0 d1 d2 HB4
        go_wp2_with fail
        refine (may_any t 0 none 0 0 _).mono ?_
        rintro e w7 ⟨r, hr, rfl, hb7⟩
        have hr0 : r = false := not_said hr (by rw [HK.out]; omega)
        subst hr0
        have HB7 := Lib.hid (HB6.out.trans (hb7.mono HB6.out.size))
        clear hr hb7 e0 e1 e2 HB6
        go_wp2_with fail
        go_ret
        exact ⟨by first | rfl | (simp [*]; done) | (simp [*]; omega), HB7.out⟩
      · go_enter Try.func13, Try.ntmps13
        go_wp2_with fail
        refine HPUT.out.mono ?_
        rintro e w1 ⟨hb1, h⟩
        obtain rfl : e = .returned (.tuple #[.slice none 0 0, .int .i64 1]) := by
          rcases h with ⟨_, h⟩ | ⟨h, _⟩
          · exact h
          · refine absurd h ?_
            show ¬ MayN t c (List.replicate k (0 : UInt8)).length
            rw [List.length_replicate, HM.out]
            omega
        have hp1 := (hb1.block _ (by simp)).trans HBLK.out
        have hsz1 : w.heap.size + 1 < w1.heap.size := by have := hb1.size; simp at this; omega
        have HB2 := Lib.hid (HB1.out.trans (hb1.mono HB1.out.size))
        have HP1 := Lib.hid hp1
        have hmk2 : (Instr.makeSlice 25 (.int .i64 k) (.int .i64 k)).run Try.prog w = .ok (.slice (some ⟨w.heap.size, 0, none⟩) k k) (w.alloc (.cells (madeCells #[.int .u8 0] k) 5)) := hmk
        clear h hb1 hp1 hmk hmk2 HPUT HB1 HBLK
        go_wp2_with fail
        have hba : Below w1.heap.size w1 (w1.alloc (.cells #[.int .i64 t, .int .i64 0, .slice none 0 0] 48)) := (Below.refl _ _).alloc (Nat.le_refl _) _
        have hpb : (w1.alloc (.cells #[.int .i64 t, .int .i64 0, .slice none 0 0] 48)).heap[w1.heap.size]? = some (.cells #[.int .i64 t, .int .i64 0, .slice none 0 0] 48 (0, 0)) := heap_alloc_new w1 _
        have HP2 := Lib.hid ((hba.block _ hsz1).trans HP1.out)
        have HB3 := Lib.hid (HB2.out.trans (hba.mono HB2.out.size))
        have HPB := Lib.hid hpb
        clear hba hpb HP1 HB2
        refine (told_any _).mono ?_
        rintro e w3 ⟨rfl, hb3⟩
        have hb4 := HB3.out.trans (hb3.mono HB3.out.size)
        obtain ⟨c0', c1', c2'⟩ := cells3 ((hb3.block _ (by simp; omega)).trans HP2.out)
        obtain ⟨d0, d1, d2⟩ := cells3 ((hb3.block _ (by simp)).trans HPB.out)
        have HB4 := Lib.hid hb4
        clear hb3 hb4 HB3 HP2 HPB
        go_wp2_with fail
        refine (may_any t c (some ⟨w.heap.size, 0, none⟩) k k _).mono ?_
        rintro e w5 ⟨r, hr, rfl, hb5⟩
        have hr0 : r = false := not_said hr (by rw [HM.out]; omega)
        subst hr0
        have hb6 := HB4.out.trans (hb5.mono HB4.out.size)
        have e0 := (hb5.cell (p := ⟨w1.heap.size, 0, none⟩) (lt_of_cell d0)).trans d0
        have e1 := (hb5.cell (p := ⟨w1.heap.size, 1, none⟩) (lt_of_cell d1)).trans d1
        have e2 := (hb5.cell (p := ⟨w1.heap.size, 2, none⟩) (lt_of_cell d2)).trans d2
        have HB6 := Lib.hid hb6
        clear hr hb5 hb6 c0' c1' c2' d0 d1 d2 HB4
        go_wp2_with fail
        refine (may_any t 0 none 0 0 _).mono ?_
        rintro e w7 ⟨r, hr, rfl, hb7⟩
        have hr0 : r = false := not_said hr (by rw [HK.out]; omega)
        subst hr0
        have HB7 := Lib.hid (HB6.out.trans (hb7.mono HB6.out.size))
        clear hr hb7 e0 e1 e2 HB6
        go_wp2_with fail
        go_ret
        exact ⟨by first | rfl | (simp [*]; done) | (simp [*]; omega), HB7.out⟩
      · go_enter Try.func13, Try.ntmps13
        go_wp2_with fail
        refine HPUT.out.mono ?_
        rintro e w1 ⟨hb1, h⟩
        obtain rfl : e = .returned (.tuple #[.slice none 0 0, .int .i64 1]) := by
          rcases h with ⟨_, h⟩ | ⟨h, _⟩
          · exact h
          · refine absurd h ?_
            show ¬ MayN t c (List.replicate k (0 : UInt8)).length
            rw [List.length_replicate, HM.out]
            omega
        have hp1 := (hb1.block _ (by simp)).trans HBLK.out
        have hsz1 : w.heap.size + 1 < w1.heap.size := by have := hb1.size; simp at this; omega
        have HB2 := Lib.hid (HB1.out.trans (hb1.mono HB1.out.size))
        have HP1 := Lib.hid hp1
        have hmk2 : (Instr.makeSlice 25 (.int .i64 k) (.int .i64 k)).run Try.prog w = .ok (.slice (some ⟨w.heap.size, 0, none⟩) k k) (w.alloc (.cells (madeCells #[.int .u8 0] k) 5)) := hmk
        clear h hb1 hp1 hmk hmk2 HPUT HB1 HBLK
        go_wp2_with fail
        have hba : Below w1.heap.size w1 (w1.alloc (.cells #[.int .i64 t, .int .i64 0, .slice none 0 0] 48)) := (Below.refl _ _).alloc (Nat.le_refl _) _
        have hpb : (w1.alloc (.cells #[.int .i64 t, .int .i64 0, .slice none 0 0] 48)).heap[w1.heap.size]? = some (.cells #[.int .i64 t, .int .i64 0, .slice none 0 0] 48 (0, 0)) := heap_alloc_new w1 _
        have HP2 := Lib.hid ((hba.block _ hsz1).trans HP1.out)
        have HB3 := Lib.hid (HB2.out.trans (hba.mono HB2.out.size))
        have HPB := Lib.hid hpb
        clear hba hpb HP1 HB2
        refine (told_any _).mono ?_
        rintro e w3 ⟨rfl, hb3⟩
        have hb4 := HB3.out.trans (hb3.mono HB3.out.size)
        obtain ⟨c0', c1', c2'⟩ := cells3 ((hb3.block _ (by simp; omega)).trans HP2.out)
        obtain ⟨d0, d1, d2⟩ := cells3 ((hb3.block _ (by simp)).trans HPB.out)
        have HB4 := Lib.hid hb4
        clear hb3 hb4 HB3 HP2 HPB
        go_wp2_with fail
        refine (may_any t c (some ⟨w.heap.size, 0, none⟩) k k _).mono ?_
        rintro e w5 ⟨r, hr, rfl, hb5⟩
        have hr0 : r = false := not_said hr (by rw [HM.out]; omega)
        subst hr0
        have hb6 := HB4.out.trans (hb5.mono HB4.out.size)
        have e0 := (hb5.cell (p := ⟨w1.heap.size, 0, none⟩) (lt_of_cell d0)).trans d0
        have e1 := (hb5.cell (p := ⟨w1.heap.size, 1, none⟩) (lt_of_cell d1)).trans d1
        have e2 := (hb5.cell (p := ⟨w1.heap.size, 2, none⟩) (lt_of_cell d2)).trans d2
        have HB6 := Lib.hid hb6
        clear hr hb5 hb6 c0' c1' c2' d0 d1 d2 HB4
        go_wp2_with fail
        refine (may_any t 0 none 0 0 _).mono ?_
        rintro e w7 ⟨r, hr, rfl, hb7⟩
        have hr0 : r = false := not_said hr (by rw [HK.out]; omega)
        subst hr0
        have HB7 := Lib.hid (HB6.out.trans (hb7.mono HB6.out.size))
        clear hr hb7 e0 e1 e2 HB6
        go_wp2_with fail
        go_ret
        exact ⟨by first | rfl | (simp [*]; done) | (simp [*]; omega), HB7.out⟩

end Go.Proofs.Ytpibbgencojbgaa
