/-
  MethodParts, walked.
-/
import Derived.Test.YtenpcadgelpbgaaMPartD
namespace Go.Proofs.Ytenpcadgelpbgaa
open Go.RowKit
set_option linter.unusedVariables false

theorem ids_cell (w : World) {k : Nat} (hk : k < 31) : ∃ id, id ∈ lawIds ∧ (w.alloc (.cells #[.int .i64 2010, .int .i64 2011, .int .i64 2040, .int .i64 2041, .int .i64 4010, .int .i64 4011, .int .i64 5010, .int .i64 5011, .int .i64 5020, .int .i64 5021, .int .i64 6010, .int .i64 6011, .int .i64 6020, .int .i64 6021, .int .i64 6040, .int .i64 6050, .int .i64 6060, .int .i64 6070, .int .i64 6071, .int .i64 6072, .int .i64 6080, .int .i64 6090, .int .i64 6120, .int .i64 8510, .int .i64 8511, .int .i64 9010, .int .i64 9011, .int .i64 9020, .int .i64 9021, .int .i64 9030, .int .i64 9031] 3)).cell? ⟨w.heap.size, k, none⟩ = some (.int .i64 id) := by
  have hl : lawIds.length = 31 := rfl
  have hm : lawIds[k]'(by omega) ∈ lawIds := List.getElem_mem _
  refine ⟨lawIds[k]'(by omega), hm, ?_⟩
  have h : (w.alloc (.cells #[.int .i64 2010, .int .i64 2011, .int .i64 2040, .int .i64 2041, .int .i64 4010, .int .i64 4011, .int .i64 5010, .int .i64 5011, .int .i64 5020, .int .i64 5021, .int .i64 6010, .int .i64 6011, .int .i64 6020, .int .i64 6021, .int .i64 6040, .int .i64 6050, .int .i64 6060, .int .i64 6070, .int .i64 6071, .int .i64 6072, .int .i64 6080, .int .i64 6090, .int .i64 6120, .int .i64 8510, .int .i64 8511, .int .i64 9010, .int .i64 9011, .int .i64 9020, .int .i64 9021, .int .i64 9030, .int .i64 9031] 3)).heap[w.heap.size]? = some (.cells (lawIds.map fun i => Value.int .i64 i).toArray 3 (0, 0)) := heap_alloc_new w _
  rw [cell_of_row _ _ _ _ _ _ h]
  simp [List.getElem?_eq_getElem (show k < lawIds.length by omega)]

theorem mod_of {q n : Int} (hq : 0 ≤ q) (hn : 0 < n) : ∃ i : Nat, q.tmod n = (i : Int) ∧ (i : Int) < n := by
  rw [Int.tmod_eq_emod_of_nonneg hq]
  have h1 := Int.emod_nonneg q (b := n) (by omega)
  have h2 := Int.emod_lt_of_pos q (b := n) hn
  exact ⟨(q % n).toNat, by omega, by omega⟩

set_option maxRecDepth 100000 in
set_option maxHeartbeats 8000000 in
theorem partsL_any (p0 p1 : Int) (w : World) (w0 : (Lit.int .i64 p0).wf = true) (w1 : (Lit.int .i64 p1).wf = true) :
    Calls Try.prog 5 #[.int .i64 p0, .int .i64 p1] w fun e w' => e = .returned (.bool true) ∧ Below w.heap.size w w' := by
  clear w0 w1
  obtain ⟨q0, hq0⟩ : ∃ q, IntKind.u64.wrap p0 = q := ⟨_, rfl⟩
  obtain ⟨q1, hq1⟩ : ∃ q, IntKind.u64.wrap p1 = q := ⟨_, rfl⟩
  have hp0 : 0 ≤ q0 := by rw [← hq0, IntKind.wrap_u64]; omega
  have hp1 : 0 ≤ q1 := by rw [← hq1, IntKind.wrap_u64]; omega
  obtain ⟨k, hk, hk31⟩ := mod_of (n := 31) hp0 (by decide)
  obtain ⟨j, hj, hj11⟩ := mod_of (n := 11) hp1 (by decide)
  have hk31' : k < 31 := by omega
  have hj11' : j < 11 := by omega
  obtain ⟨id, hid, hc⟩ := ids_cell w hk31'
  have hsome := lawIds_ok id hid
  obtain ⟨l, hl⟩ := Option.isSome_iff_exists.1 hsome
  have hl31 : IntKind.u64.wrap 31 = 31 := by decide
  have hwk : IntKind.i64.wrap (k : Int) = (k : Int) := IntWalk.i64_in _ (by omega)
  have hwj : IntKind.i64.wrap (j : Int) = (j : Int) := IntWalk.i64_in _ (by omega)
  have hk0 : (0 : Int) ≤ (k : Int) := by omega
  have HL := Lib.hid hl
  have HR := Lib.hid (lawIds_range id hid)
  clear hp0 hp1 hid hsome hl
  go_enter Try.func5, Try.ntmps5
  go_wp2_with fail
  have hbx : MeAt ((w.alloc (.cells #[.int .i64 2010, .int .i64 2011, .int .i64 2040, .int .i64 2041, .int .i64 4010, .int .i64 4011, .int .i64 5010, .int .i64 5011, .int .i64 5020, .int .i64 5021, .int .i64 6010, .int .i64 6011, .int .i64 6020, .int .i64 6021, .int .i64 6040, .int .i64 6050, .int .i64 6060, .int .i64 6070, .int .i64 6071, .int .i64 6072, .int .i64 6080, .int .i64 6090, .int .i64 6120, .int .i64 8510, .int .i64 8511, .int .i64 9010, .int .i64 9011, .int .i64 9020, .int .i64 9021, .int .i64 9030, .int .i64 9031] 3)).alloc (.cells #[.int .i64 id, .string ⟨#[]⟩, .string ⟨#[]⟩, .string ⟨#[]⟩, .string ⟨#[]⟩, .string ⟨#[]⟩, .int .i64 0, .int .i64 0, .int .u64 0, .bool false, .bool false, .slice none 0 0] 25)) (w.heap.size + 1) (Me.of id) none 0 := by
    have := heap_alloc_new (w.alloc (.cells #[.int .i64 2010, .int .i64 2011, .int .i64 2040, .int .i64 2041, .int .i64 4010, .int .i64 4011, .int .i64 5010, .int .i64 5011, .int .i64 5020, .int .i64 5021, .int .i64 6010, .int .i64 6011, .int .i64 6020, .int .i64 6021, .int .i64 6040, .int .i64 6050, .int .i64 6060, .int .i64 6070, .int .i64 6071, .int .i64 6072, .int .i64 6080, .int .i64 6090, .int .i64 6120, .int .i64 8510, .int .i64 8511, .int .i64 9010, .int .i64 9011, .int .i64 9020, .int .i64 9021, .int .i64 9030, .int .i64 9031] 3)) (.cells #[.int .i64 id, .string ⟨#[]⟩, .string ⟨#[]⟩, .string ⟨#[]⟩, .string ⟨#[]⟩, .string ⟨#[]⟩, .int .i64 0, .int .i64 0, .int .u64 0, .bool false, .bool false, .slice none 0 0] 25)
    have hz : (w.alloc (.cells #[.int .i64 2010, .int .i64 2011, .int .i64 2040, .int .i64 2041, .int .i64 4010, .int .i64 4011, .int .i64 5010, .int .i64 5011, .int .i64 5020, .int .i64 5021, .int .i64 6010, .int .i64 6011, .int .i64 6020, .int .i64 6021, .int .i64 6040, .int .i64 6050, .int .i64 6060, .int .i64 6070, .int .i64 6071, .int .i64 6072, .int .i64 6080, .int .i64 6090, .int .i64 6120, .int .i64 8510, .int .i64 8511, .int .i64 9010, .int .i64 9011, .int .i64 9020, .int .i64 9021, .int .i64 9030, .int .i64 9031] 3)).heap.size = w.heap.size + 1 := by simp
    rw [hz] at this
    exact this
  have hb0 : Below w.heap.size w ((w.alloc (.cells #[.int .i64 2010, .int .i64 2011, .int .i64 2040, .int .i64 2041, .int .i64 4010, .int .i64 4011, .int .i64 5010, .int .i64 5011, .int .i64 5020, .int .i64 5021, .int .i64 6010, .int .i64 6011, .int .i64 6020, .int .i64 6021, .int .i64 6040, .int .i64 6050, .int .i64 6060, .int .i64 6070, .int .i64 6071, .int .i64 6072, .int .i64 6080, .int .i64 6090, .int .i64 6120, .int .i64 8510, .int .i64 8511, .int .i64 9010, .int .i64 9011, .int .i64 9020, .int .i64 9021, .int .i64 9030, .int .i64 9031] 3)).alloc (.cells #[.int .i64 id, .string ⟨#[]⟩, .string ⟨#[]⟩, .string ⟨#[]⟩, .string ⟨#[]⟩, .string ⟨#[]⟩, .int .i64 0, .int .i64 0, .int .u64 0, .bool false, .bool false, .slice none 0 0] 25)) := ((Below.refl _ _).alloc (Nat.le_refl _) _).alloc (by simp) _
  clear hc hk hq0 hl31 hwk hk0
  generalize ((w.alloc (.cells #[.int .i64 2010, .int .i64 2011, .int .i64 2040, .int .i64 2041, .int .i64 4010, .int .i64 4011, .int .i64 5010, .int .i64 5011, .int .i64 5020, .int .i64 5021, .int .i64 6010, .int .i64 6011, .int .i64 6020, .int .i64 6021, .int .i64 6040, .int .i64 6050, .int .i64 6060, .int .i64 6070, .int .i64 6071, .int .i64 6072, .int .i64 6080, .int .i64 6090, .int .i64 6120, .int .i64 8510, .int .i64 8511, .int .i64 9010, .int .i64 9011, .int .i64 9020, .int .i64 9021, .int .i64 9030, .int .i64 9031] 3)).alloc (.cells #[.int .i64 id, .string ⟨#[]⟩, .string ⟨#[]⟩, .string ⟨#[]⟩, .string ⟨#[]⟩, .string ⟨#[]⟩, .int .i64 0, .int .i64 0, .int .u64 0, .bool false, .bool false, .slice none 0 0] 25)) = W0 at *
  refine (mayM_any (m := Me.of id) (a := none) (cap := 0) (Tb.nil _ none (by decide)) (of_wf id HR.out)).mono ?_
  rintro e w1 ⟨r, hr, rfl, hb1⟩
  obtain rfl : r = true := hr.2 (of_good HL.out).may
  have hat := hbx.keep (hb1.block _ hbx.lt)
  have HB1 := Lib.hid (hb0.trans (hb1.mono hb0.size))
  have HAT := Lib.hid hat
  have hz1 := Nat.le_trans hb0.size hb1.size
  have hgl := hat.lt
  clear hbx hb0 hr hb1 hat
  have h11 : j = 0 ∨ j = 1 ∨ j = 2 ∨ j = 3 ∨ j = 4 ∨ j = 5 ∨ j = 6 ∨ j = 7 ∨ j = 8 ∨ j = 9 ∨ j = 10 := by omega
  clear hj11 hj11' hwj
  obtain ⟨⟨c0, c1, c2, c3, c4, c5⟩, c6, c7, c8, c9, c10, c11⟩ := HAT.out.cells
  have hf := HAT.out.frozen
  rcases h11 with rfl | rfl | rfl | rfl | rfl | rfl | rfl | rfl | rfl | rfl | rfl
  · have hf1 := hf 1
    clear hf
    have hlet : ∀ w : World, (Instr.index 9 (.string ⟨#[110, 121, 101, 107, 120, 99, 117, 116, 102, 98, 97]⟩) (.int .i64 0)).run Try.prog w = .ok (.int .u8 110) w := ltr_index [.n, .y, .e, .k, .x, .c, .u, .t, .f, .b, .a] 0 (by decide)
    go_wp2_with fail
    have hM2 : MeAt (w1.setCell ⟨w.heap.size + 1, 1, none⟩ (.string ⟨#[97]⟩)) (w.heap.size + 1) (oneP id .n) none 0 := by unfold MeAt; rw [set_heap HAT.out]; rfl
    have hB2 : Below w.heap.size w (w1.setCell ⟨w.heap.size + 1, 1, none⟩ (.string ⟨#[97]⟩)) := HB1.out.setCell (Nat.le_succ _) _
    clear hf1 c0 c1 c2 c3 c4 c5 c6 c7 c8 c9 c10 c11 HB1 HAT hlet
    generalize w1.setCell ⟨w.heap.size + 1, 1, none⟩ (.string ⟨#[97]⟩) = w2 at *
    refine (parts_any id _).mono ?_
    rintro e w3 ⟨rfl, rfl⟩
    have hps : partsStr id = ltr l := by unfold partsStr; rw [HL.out]
    rw [hps]
    clear hps
    have HM := Lib.hid hM2
    have HB2 := Lib.hid hB2
    clear hM2 hB2
    go_wp2_with fail
    go_loopg [9, 10] l.length (hasRel l .n w2)
    case atStart => exact ⟨rfl, 0, Nat.zero_le _, rfl, rfl, rfl⟩
    case round =>
      obtain ⟨rfl, i, hi, rfl, rfl, rfl⟩ := hrel
      by_cases hlt : i < l.length
      · have hlti : (i : Int) < (l.length : Int) := by omega
        have hl5 := (partsOf_some HL.out).1
        have hs1 : IntKind.i64.wrap ((i : Int) + 1) = ((i + 1 : Nat) : Int) := by rw [IntWalk.i64_in _ (by omega)]; omega
        have hix := ltr_index l i hlt
        have hin := take_in l .n hlt
        obtain ⟨q, hq⟩ : ∃ q, q = l[i] := ⟨_, rfl⟩
        rw [← hq] at hix hin
        have hqb : ((q.byte.toNat : Int) == 110) = decide (q = .n) := by cases q <;> rfl
        have HIN := Lib.hid hin
        obtain ⟨b, hb⟩ : ∃ b, b = decide (Pt.n ∈ l.take i) := ⟨_, rfl⟩
        rw [← hb]
        have HBI := Lib.hid hb
        clear hin hq hb
        cases b
        · go_wp2_with fail
          go_roundg (l.length - (i + 1))
          case measure => omega
          case rel => exact ⟨rfl, i + 1, by omega, rfl, by rw [HIN.out, ← HBI.out]; simp [*], by first | rfl | (rw [Int.natCast_add]; rfl)⟩
        · clear hix hqb
          go_wp2_with fail
          go_roundg (l.length - (i + 1))
          case measure => omega
          case rel => exact ⟨rfl, i + 1, by omega, rfl, by rw [HIN.out, ← HBI.out]; rfl, by first | rfl | (rw [Int.natCast_add]; rfl)⟩
      · have hlti : ¬ (i : Int) < (l.length : Int) := by omega
        obtain rfl : i = l.length := by omega
        rw [List.take_length]
        have hgl2 := HM.out.lt
        go_wp2_with fail
        refine (told_any _).mono ?_
        rintro e w4 ⟨rfl, hb4⟩
        have hM4 := HM.out.keep (hb4.block _ HM.out.lt)
        have HB4 := Lib.hid (HB2.out.trans (hb4.mono HB2.out.size))
        obtain ⟨⟨c0, c1, c2, c3, c4, c5⟩, c6, c7, c8, c9, c10, c11⟩ := hM4.cells
        clear hb4 hM4 HM HB2
        go_wp2_with fail
        refine (mayM_any (m := oneP id .n) (a := none) (cap := 0) (Tb.nil _ none (by decide)) (oneP_wf HR.out .n)).mono ?_
        rintro e w5 ⟨r, hr, rfl, hb5⟩
        rw [oneP_iff HL.out] at hr
        have hrb : (r == decide (Pt.n ∈ l)) = true := by cases r <;> simp_all
        have HB5 := Lib.hid (HB4.out.trans (hb5.mono HB4.out.size))
        clear hr hb5 c0 c1 c2 c3 c4 c5 c6 c7 c8 c9 c10 c11
        go_wp2_with fail
        go_ret
        exact ⟨by first | rfl | (simp [*]; done), HB5.out⟩
  · have hf2 := hf 2
    clear hf
    have hlet : ∀ w : World, (Instr.index 9 (.string ⟨#[110, 121, 101, 107, 120, 99, 117, 116, 102, 98, 97]⟩) (.int .i64 1)).run Try.prog w = .ok (.int .u8 121) w := ltr_index [.n, .y, .e, .k, .x, .c, .u, .t, .f, .b, .a] 1 (by decide)
    go_wp2_with fail
    have hM2 : MeAt (w1.setCell ⟨w.heap.size + 1, 2, none⟩ (.string ⟨#[98]⟩)) (w.heap.size + 1) (oneP id .y) none 0 := by unfold MeAt; rw [set_heap HAT.out]; rfl
    have hB2 : Below w.heap.size w (w1.setCell ⟨w.heap.size + 1, 2, none⟩ (.string ⟨#[98]⟩)) := HB1.out.setCell (Nat.le_succ _) _
    clear hf2 c0 c1 c2 c3 c4 c5 c6 c7 c8 c9 c10 c11 HB1 HAT hlet
    generalize w1.setCell ⟨w.heap.size + 1, 2, none⟩ (.string ⟨#[98]⟩) = w2 at *
    refine (parts_any id _).mono ?_
    rintro e w3 ⟨rfl, rfl⟩
    have hps : partsStr id = ltr l := by unfold partsStr; rw [HL.out]
    rw [hps]
    clear hps
    have HM := Lib.hid hM2
    have HB2 := Lib.hid hB2
    clear hM2 hB2
    go_wp2_with fail
    go_loopg [9, 10] l.length (hasRel l .y w2)
    case atStart => exact ⟨rfl, 0, Nat.zero_le _, rfl, rfl, rfl⟩
    case round =>
      obtain ⟨rfl, i, hi, rfl, rfl, rfl⟩ := hrel
      by_cases hlt : i < l.length
      · have hlti : (i : Int) < (l.length : Int) := by omega
        have hl5 := (partsOf_some HL.out).1
        have hs1 : IntKind.i64.wrap ((i : Int) + 1) = ((i + 1 : Nat) : Int) := by rw [IntWalk.i64_in _ (by omega)]; omega
        have hix := ltr_index l i hlt
        have hin := take_in l .y hlt
        obtain ⟨q, hq⟩ : ∃ q, q = l[i] := ⟨_, rfl⟩
        rw [← hq] at hix hin
        have hqb : ((q.byte.toNat : Int) == 121) = decide (q = .y) := by cases q <;> rfl
        have HIN := Lib.hid hin
        obtain ⟨b, hb⟩ : ∃ b, b = decide (Pt.y ∈ l.take i) := ⟨_, rfl⟩
        rw [← hb]
        have HBI := Lib.hid hb
        clear hin hq hb
        cases b
        · go_wp2_with fail
          go_roundg (l.length - (i + 1))
          case measure => omega
          case rel => exact ⟨rfl, i + 1, by omega, rfl, by rw [HIN.out, ← HBI.out]; simp [*], by first | rfl | (rw [Int.natCast_add]; rfl)⟩
        · clear hix hqb
          go_wp2_with fail
          go_roundg (l.length - (i + 1))
          case measure => omega
          case rel => exact ⟨rfl, i + 1, by omega, rfl, by rw [HIN.out, ← HBI.out]; rfl, by first | rfl | (rw [Int.natCast_add]; rfl)⟩
      · have hlti : ¬ (i : Int) < (l.length : Int) := by omega
        obtain rfl : i = l.length := by omega
        rw [List.take_length]
        have hgl2 := HM.out.lt
        go_wp2_with fail
        refine (told_any _).mono ?_
        rintro e w4 ⟨rfl, hb4⟩
        have hM4 := HM.out.keep (hb4.block _ HM.out.lt)
        have HB4 := Lib.hid (HB2.out.trans (hb4.mono HB2.out.size))
        obtain ⟨⟨c0, c1, c2, c3, c4, c5⟩, c6, c7, c8, c9, c10, c11⟩ := hM4.cells
        clear hb4 hM4 HM HB2
        go_wp2_with fail
        refine (mayM_any (m := oneP id .y) (a := none) (cap := 0) (Tb.nil _ none (by decide)) (oneP_wf HR.out .y)).mono ?_
        rintro e w5 ⟨r, hr, rfl, hb5⟩
        rw [oneP_iff HL.out] at hr
        have hrb : (r == decide (Pt.y ∈ l)) = true := by cases r <;> simp_all
        have HB5 := Lib.hid (HB4.out.trans (hb5.mono HB4.out.size))
        clear hr hb5 c0 c1 c2 c3 c4 c5 c6 c7 c8 c9 c10 c11
        go_wp2_with fail
        go_ret
        exact ⟨by first | rfl | (simp [*]; done), HB5.out⟩
  · have hf3 := hf 3
    clear hf
    have hlet : ∀ w : World, (Instr.index 9 (.string ⟨#[110, 121, 101, 107, 120, 99, 117, 116, 102, 98, 97]⟩) (.int .i64 2)).run Try.prog w = .ok (.int .u8 101) w := ltr_index [.n, .y, .e, .k, .x, .c, .u, .t, .f, .b, .a] 2 (by decide)
    go_wp2_with fail
    have hM2 : MeAt (w1.setCell ⟨w.heap.size + 1, 3, none⟩ (.string ⟨#[99]⟩)) (w.heap.size + 1) (oneP id .e) none 0 := by unfold MeAt; rw [set_heap HAT.out]; rfl
    have hB2 : Below w.heap.size w (w1.setCell ⟨w.heap.size + 1, 3, none⟩ (.string ⟨#[99]⟩)) := HB1.out.setCell (Nat.le_succ _) _
    clear hf3 c0 c1 c2 c3 c4 c5 c6 c7 c8 c9 c10 c11 HB1 HAT hlet
    generalize w1.setCell ⟨w.heap.size + 1, 3, none⟩ (.string ⟨#[99]⟩) = w2 at *
    refine (parts_any id _).mono ?_
    rintro e w3 ⟨rfl, rfl⟩
    have hps : partsStr id = ltr l := by unfold partsStr; rw [HL.out]
    rw [hps]
    clear hps
    have HM := Lib.hid hM2
    have HB2 := Lib.hid hB2
    clear hM2 hB2
    go_wp2_with fail
    go_loopg [9, 10] l.length (hasRel l .e w2)
    case atStart => exact ⟨rfl, 0, Nat.zero_le _, rfl, rfl, rfl⟩
    case round =>
      obtain ⟨rfl, i, hi, rfl, rfl, rfl⟩ := hrel
      by_cases hlt : i < l.length
      · have hlti : (i : Int) < (l.length : Int) := by omega
        have hl5 := (partsOf_some HL.out).1
        have hs1 : IntKind.i64.wrap ((i : Int) + 1) = ((i + 1 : Nat) : Int) := by rw [IntWalk.i64_in _ (by omega)]; omega
        have hix := ltr_index l i hlt
        have hin := take_in l .e hlt
        obtain ⟨q, hq⟩ : ∃ q, q = l[i] := ⟨_, rfl⟩
        rw [← hq] at hix hin
        have hqb : ((q.byte.toNat : Int) == 101) = decide (q = .e) := by cases q <;> rfl
        have HIN := Lib.hid hin
        obtain ⟨b, hb⟩ : ∃ b, b = decide (Pt.e ∈ l.take i) := ⟨_, rfl⟩
        rw [← hb]
        have HBI := Lib.hid hb
        clear hin hq hb
        cases b
        · go_wp2_with fail
          go_roundg (l.length - (i + 1))
          case measure => omega
          case rel => exact ⟨rfl, i + 1, by omega, rfl, by rw [HIN.out, ← HBI.out]; simp [*], by first | rfl | (rw [Int.natCast_add]; rfl)⟩
        · clear hix hqb
          go_wp2_with fail
          go_roundg (l.length - (i + 1))
          case measure => omega
          case rel => exact ⟨rfl, i + 1, by omega, rfl, by rw [HIN.out, ← HBI.out]; rfl, by first | rfl | (rw [Int.natCast_add]; rfl)⟩
      · have hlti : ¬ (i : Int) < (l.length : Int) := by omega
        obtain rfl : i = l.length := by omega
        rw [List.take_length]
        have hgl2 := HM.out.lt
        go_wp2_with fail
        refine (told_any _).mono ?_
        rintro e w4 ⟨rfl, hb4⟩
        have hM4 := HM.out.keep (hb4.block _ HM.out.lt)
        have HB4 := Lib.hid (HB2.out.trans (hb4.mono HB2.out.size))
        obtain ⟨⟨c0, c1, c2, c3, c4, c5⟩, c6, c7, c8, c9, c10, c11⟩ := hM4.cells
        clear hb4 hM4 HM HB2
        go_wp2_with fail
        refine (mayM_any (m := oneP id .e) (a := none) (cap := 0) (Tb.nil _ none (by decide)) (oneP_wf HR.out .e)).mono ?_
        rintro e w5 ⟨r, hr, rfl, hb5⟩
        rw [oneP_iff HL.out] at hr
        have hrb : (r == decide (Pt.e ∈ l)) = true := by cases r <;> simp_all
        have HB5 := Lib.hid (HB4.out.trans (hb5.mono HB4.out.size))
        clear hr hb5 c0 c1 c2 c3 c4 c5 c6 c7 c8 c9 c10 c11
        go_wp2_with fail
        go_ret
        exact ⟨by first | rfl | (simp [*]; done), HB5.out⟩
  · have hf4 := hf 4
    clear hf
    have hlet : ∀ w : World, (Instr.index 9 (.string ⟨#[110, 121, 101, 107, 120, 99, 117, 116, 102, 98, 97]⟩) (.int .i64 3)).run Try.prog w = .ok (.int .u8 107) w := ltr_index [.n, .y, .e, .k, .x, .c, .u, .t, .f, .b, .a] 3 (by decide)
    go_wp2_with fail
    have hM2 : MeAt (w1.setCell ⟨w.heap.size + 1, 4, none⟩ (.string ⟨#[100]⟩)) (w.heap.size + 1) (oneP id .k) none 0 := by unfold MeAt; rw [set_heap HAT.out]; rfl
    have hB2 : Below w.heap.size w (w1.setCell ⟨w.heap.size + 1, 4, none⟩ (.string ⟨#[100]⟩)) := HB1.out.setCell (Nat.le_succ _) _
    clear hf4 c0 c1 c2 c3 c4 c5 c6 c7 c8 c9 c10 c11 HB1 HAT hlet
    generalize w1.setCell ⟨w.heap.size + 1, 4, none⟩ (.string ⟨#[100]⟩) = w2 at *
    refine (parts_any id _).mono ?_
    rintro e w3 ⟨rfl, rfl⟩
    have hps : partsStr id = ltr l := by unfold partsStr; rw [HL.out]
    rw [hps]
    clear hps
    have HM := Lib.hid hM2
    have HB2 := Lib.hid hB2
    clear hM2 hB2
    go_wp2_with fail
    go_loopg [9, 10] l.length (hasRel l .k w2)
    case atStart => exact ⟨rfl, 0, Nat.zero_le _, rfl, rfl, rfl⟩
    case round =>
      obtain ⟨rfl, i, hi, rfl, rfl, rfl⟩ := hrel
      by_cases hlt : i < l.length
      · have hlti : (i : Int) < (l.length : Int) := by omega
        have hl5 := (partsOf_some HL.out).1
        have hs1 : IntKind.i64.wrap ((i : Int) + 1) = ((i + 1 : Nat) : Int) := by rw [IntWalk.i64_in _ (by omega)]; omega
        have hix := ltr_index l i hlt
        have hin := take_in l .k hlt
        obtain ⟨q, hq⟩ : ∃ q, q = l[i] := ⟨_, rfl⟩
        rw [← hq] at hix hin
        have hqb : ((q.byte.toNat : Int) == 107) = decide (q = .k) := by cases q <;> rfl
        have HIN := Lib.hid hin
        obtain ⟨b, hb⟩ : ∃ b, b = decide (Pt.k ∈ l.take i) := ⟨_, rfl⟩
        rw [← hb]
        have HBI := Lib.hid hb
        clear hin hq hb
        cases b
        · go_wp2_with fail
          go_roundg (l.length - (i + 1))
          case measure => omega
          case rel => exact ⟨rfl, i + 1, by omega, rfl, by rw [HIN.out, ← HBI.out]; simp [*], by first | rfl | (rw [Int.natCast_add]; rfl)⟩
        · clear hix hqb
          go_wp2_with fail
          go_roundg (l.length - (i + 1))
          case measure => omega
          case rel => exact ⟨rfl, i + 1, by omega, rfl, by rw [HIN.out, ← HBI.out]; rfl, by first | rfl | (rw [Int.natCast_add]; rfl)⟩
      · have hlti : ¬ (i : Int) < (l.length : Int) := by omega
        obtain rfl : i = l.length := by omega
        rw [List.take_length]
        have hgl2 := HM.out.lt
        go_wp2_with fail
        refine (told_any _).mono ?_
        rintro e w4 ⟨rfl, hb4⟩
        have hM4 := HM.out.keep (hb4.block _ HM.out.lt)
        have HB4 := Lib.hid (HB2.out.trans (hb4.mono HB2.out.size))
        obtain ⟨⟨c0, c1, c2, c3, c4, c5⟩, c6, c7, c8, c9, c10, c11⟩ := hM4.cells
        clear hb4 hM4 HM HB2
        go_wp2_with fail
        refine (mayM_any (m := oneP id .k) (a := none) (cap := 0) (Tb.nil _ none (by decide)) (oneP_wf HR.out .k)).mono ?_
        rintro e w5 ⟨r, hr, rfl, hb5⟩
        rw [oneP_iff HL.out] at hr
        have hrb : (r == decide (Pt.k ∈ l)) = true := by cases r <;> simp_all
        have HB5 := Lib.hid (HB4.out.trans (hb5.mono HB4.out.size))
        clear hr hb5 c0 c1 c2 c3 c4 c5 c6 c7 c8 c9 c10 c11
        go_wp2_with fail
        go_ret
        exact ⟨by first | rfl | (simp [*]; done), HB5.out⟩
  · have hf5 := hf 5
    clear hf
    have hlet : ∀ w : World, (Instr.index 9 (.string ⟨#[110, 121, 101, 107, 120, 99, 117, 116, 102, 98, 97]⟩) (.int .i64 4)).run Try.prog w = .ok (.int .u8 120) w := ltr_index [.n, .y, .e, .k, .x, .c, .u, .t, .f, .b, .a] 4 (by decide)
    go_wp2_with fail
    have hM2 : MeAt (w1.setCell ⟨w.heap.size + 1, 5, none⟩ (.string ⟨#[101]⟩)) (w.heap.size + 1) (oneP id .x) none 0 := by unfold MeAt; rw [set_heap HAT.out]; rfl
    have hB2 : Below w.heap.size w (w1.setCell ⟨w.heap.size + 1, 5, none⟩ (.string ⟨#[101]⟩)) := HB1.out.setCell (Nat.le_succ _) _
    clear hf5 c0 c1 c2 c3 c4 c5 c6 c7 c8 c9 c10 c11 HB1 HAT hlet
    generalize w1.setCell ⟨w.heap.size + 1, 5, none⟩ (.string ⟨#[101]⟩) = w2 at *
    refine (parts_any id _).mono ?_
    rintro e w3 ⟨rfl, rfl⟩
    have hps : partsStr id = ltr l := by unfold partsStr; rw [HL.out]
    rw [hps]
    clear hps
    have HM := Lib.hid hM2
    have HB2 := Lib.hid hB2
    clear hM2 hB2
    go_wp2_with fail
    go_loopg [9, 10] l.length (hasRel l .x w2)
    case atStart => exact ⟨rfl, 0, Nat.zero_le _, rfl, rfl, rfl⟩
    case round =>
      obtain ⟨rfl, i, hi, rfl, rfl, rfl⟩ := hrel
      by_cases hlt : i < l.length
      · have hlti : (i : Int) < (l.length : Int) := by omega
        have hl5 := (partsOf_some HL.out).1
        have hs1 : IntKind.i64.wrap ((i : Int) + 1) = ((i + 1 : Nat) : Int) := by rw [IntWalk.i64_in _ (by omega)]; omega
        have hix := ltr_index l i hlt
        have hin := take_in l .x hlt
        obtain ⟨q, hq⟩ : ∃ q, q = l[i] := ⟨_, rfl⟩
        rw [← hq] at hix hin
        have hqb : ((q.byte.toNat : Int) == 120) = decide (q = .x) := by cases q <;> rfl
        have HIN := Lib.hid hin
        obtain ⟨b, hb⟩ : ∃ b, b = decide (Pt.x ∈ l.take i) := ⟨_, rfl⟩
        rw [← hb]
        have HBI := Lib.hid hb
        clear hin hq hb
        cases b
        · go_wp2_with fail
          go_roundg (l.length - (i + 1))
          case measure => omega
          case rel => exact ⟨rfl, i + 1, by omega, rfl, by rw [HIN.out, ← HBI.out]; simp [*], by first | rfl | (rw [Int.natCast_add]; rfl)⟩
        · clear hix hqb
          go_wp2_with fail
          go_roundg (l.length - (i + 1))
          case measure => omega
          case rel => exact ⟨rfl, i + 1, by omega, rfl, by rw [HIN.out, ← HBI.out]; rfl, by first | rfl | (rw [Int.natCast_add]; rfl)⟩
      · have hlti : ¬ (i : Int) < (l.length : Int) := by omega
        obtain rfl : i = l.length := by omega
        rw [List.take_length]
        have hgl2 := HM.out.lt
        go_wp2_with fail
        refine (told_any _).mono ?_
        rintro e w4 ⟨rfl, hb4⟩
        have hM4 := HM.out.keep (hb4.block _ HM.out.lt)
        have HB4 := Lib.hid (HB2.out.trans (hb4.mono HB2.out.size))
        obtain ⟨⟨c0, c1, c2, c3, c4, c5⟩, c6, c7, c8, c9, c10, c11⟩ := hM4.cells
        clear hb4 hM4 HM HB2
        go_wp2_with fail
        refine (mayM_any (m := oneP id .x) (a := none) (cap := 0) (Tb.nil _ none (by decide)) (oneP_wf HR.out .x)).mono ?_
        rintro e w5 ⟨r, hr, rfl, hb5⟩
        rw [oneP_iff HL.out] at hr
        have hrb : (r == decide (Pt.x ∈ l)) = true := by cases r <;> simp_all
        have HB5 := Lib.hid (HB4.out.trans (hb5.mono HB4.out.size))
        clear hr hb5 c0 c1 c2 c3 c4 c5 c6 c7 c8 c9 c10 c11
        go_wp2_with fail
        go_ret
        exact ⟨by first | rfl | (simp [*]; done), HB5.out⟩
  · have hf6 := hf 6
    clear hf
    have hlet : ∀ w : World, (Instr.index 9 (.string ⟨#[110, 121, 101, 107, 120, 99, 117, 116, 102, 98, 97]⟩) (.int .i64 5)).run Try.prog w = .ok (.int .u8 99) w := ltr_index [.n, .y, .e, .k, .x, .c, .u, .t, .f, .b, .a] 5 (by decide)
    go_wp2_with fail
    have hM2 : MeAt (w1.setCell ⟨w.heap.size + 1, 6, none⟩ (.int .i64 6)) (w.heap.size + 1) (oneP id .c) none 0 := by unfold MeAt; rw [set_heap HAT.out]; rfl
    have hB2 : Below w.heap.size w (w1.setCell ⟨w.heap.size + 1, 6, none⟩ (.int .i64 6)) := HB1.out.setCell (Nat.le_succ _) _
    clear hf6 c0 c1 c2 c3 c4 c5 c6 c7 c8 c9 c10 c11 HB1 HAT hlet
    generalize w1.setCell ⟨w.heap.size + 1, 6, none⟩ (.int .i64 6) = w2 at *
    refine (parts_any id _).mono ?_
    rintro e w3 ⟨rfl, rfl⟩
    have hps : partsStr id = ltr l := by unfold partsStr; rw [HL.out]
    rw [hps]
    clear hps
    have HM := Lib.hid hM2
    have HB2 := Lib.hid hB2
    clear hM2 hB2
    go_wp2_with fail
    go_loopg [9, 10] l.length (hasRel l .c w2)
    case atStart => exact ⟨rfl, 0, Nat.zero_le _, rfl, rfl, rfl⟩
    case round =>
      obtain ⟨rfl, i, hi, rfl, rfl, rfl⟩ := hrel
      by_cases hlt : i < l.length
      · have hlti : (i : Int) < (l.length : Int) := by omega
        have hl5 := (partsOf_some HL.out).1
        have hs1 : IntKind.i64.wrap ((i : Int) + 1) = ((i + 1 : Nat) : Int) := by rw [IntWalk.i64_in _ (by omega)]; omega
        have hix := ltr_index l i hlt
        have hin := take_in l .c hlt
        obtain ⟨q, hq⟩ : ∃ q, q = l[i] := ⟨_, rfl⟩
        rw [← hq] at hix hin
        have hqb : ((q.byte.toNat : Int) == 99) = decide (q = .c) := by cases q <;> rfl
        have HIN := Lib.hid hin
        obtain ⟨b, hb⟩ : ∃ b, b = decide (Pt.c ∈ l.take i) := ⟨_, rfl⟩
        rw [← hb]
        have HBI := Lib.hid hb
        clear hin hq hb
        cases b
        · go_wp2_with fail
          go_roundg (l.length - (i + 1))
          case measure => omega
          case rel => exact ⟨rfl, i + 1, by omega, rfl, by rw [HIN.out, ← HBI.out]; simp [*], by first | rfl | (rw [Int.natCast_add]; rfl)⟩
        · clear hix hqb
          go_wp2_with fail
          go_roundg (l.length - (i + 1))
          case measure => omega
          case rel => exact ⟨rfl, i + 1, by omega, rfl, by rw [HIN.out, ← HBI.out]; rfl, by first | rfl | (rw [Int.natCast_add]; rfl)⟩
      · have hlti : ¬ (i : Int) < (l.length : Int) := by omega
        obtain rfl : i = l.length := by omega
        rw [List.take_length]
        have hgl2 := HM.out.lt
        go_wp2_with fail
        refine (told_any _).mono ?_
        rintro e w4 ⟨rfl, hb4⟩
        have hM4 := HM.out.keep (hb4.block _ HM.out.lt)
        have HB4 := Lib.hid (HB2.out.trans (hb4.mono HB2.out.size))
        obtain ⟨⟨c0, c1, c2, c3, c4, c5⟩, c6, c7, c8, c9, c10, c11⟩ := hM4.cells
        clear hb4 hM4 HM HB2
        go_wp2_with fail
        refine (mayM_any (m := oneP id .c) (a := none) (cap := 0) (Tb.nil _ none (by decide)) (oneP_wf HR.out .c)).mono ?_
        rintro e w5 ⟨r, hr, rfl, hb5⟩
        rw [oneP_iff HL.out] at hr
        have hrb : (r == decide (Pt.c ∈ l)) = true := by cases r <;> simp_all
        have HB5 := Lib.hid (HB4.out.trans (hb5.mono HB4.out.size))
        clear hr hb5 c0 c1 c2 c3 c4 c5 c6 c7 c8 c9 c10 c11
        go_wp2_with fail
        go_ret
        exact ⟨by first | rfl | (simp [*]; done), HB5.out⟩
  · have hf7 := hf 7
    clear hf
    have hlet : ∀ w : World, (Instr.index 9 (.string ⟨#[110, 121, 101, 107, 120, 99, 117, 116, 102, 98, 97]⟩) (.int .i64 6)).run Try.prog w = .ok (.int .u8 117) w := ltr_index [.n, .y, .e, .k, .x, .c, .u, .t, .f, .b, .a] 6 (by decide)
    go_wp2_with fail
    have hM2 : MeAt (w1.setCell ⟨w.heap.size + 1, 7, none⟩ (.int .i64 7)) (w.heap.size + 1) (oneP id .u) none 0 := by unfold MeAt; rw [set_heap HAT.out]; rfl
    have hB2 : Below w.heap.size w (w1.setCell ⟨w.heap.size + 1, 7, none⟩ (.int .i64 7)) := HB1.out.setCell (Nat.le_succ _) _
    clear hf7 c0 c1 c2 c3 c4 c5 c6 c7 c8 c9 c10 c11 HB1 HAT hlet
    generalize w1.setCell ⟨w.heap.size + 1, 7, none⟩ (.int .i64 7) = w2 at *
    refine (parts_any id _).mono ?_
    rintro e w3 ⟨rfl, rfl⟩
    have hps : partsStr id = ltr l := by unfold partsStr; rw [HL.out]
    rw [hps]
    clear hps
    have HM := Lib.hid hM2
    have HB2 := Lib.hid hB2
    clear hM2 hB2
    go_wp2_with fail
    go_loopg [9, 10] l.length (hasRel l .u w2)
    case atStart => exact ⟨rfl, 0, Nat.zero_le _, rfl, rfl, rfl⟩
    case round =>
      obtain ⟨rfl, i, hi, rfl, rfl, rfl⟩ := hrel
      by_cases hlt : i < l.length
      · have hlti : (i : Int) < (l.length : Int) := by omega
        have hl5 := (partsOf_some HL.out).1
        have hs1 : IntKind.i64.wrap ((i : Int) + 1) = ((i + 1 : Nat) : Int) := by rw [IntWalk.i64_in _ (by omega)]; omega
        have hix := ltr_index l i hlt
        have hin := take_in l .u hlt
        obtain ⟨q, hq⟩ : ∃ q, q = l[i] := ⟨_, rfl⟩
        rw [← hq] at hix hin
        have hqb : ((q.byte.toNat : Int) == 117) = decide (q = .u) := by cases q <;> rfl
        have HIN := Lib.hid hin
        obtain ⟨b, hb⟩ : ∃ b, b = decide (Pt.u ∈ l.take i) := ⟨_, rfl⟩
        rw [← hb]
        have HBI := Lib.hid hb
        clear hin hq hb
        cases b
        · go_wp2_with fail
          go_roundg (l.length - (i + 1))
          case measure => omega
          case rel => exact ⟨rfl, i + 1, by omega, rfl, by rw [HIN.out, ← HBI.out]; simp [*], by first | rfl | (rw [Int.natCast_add]; rfl)⟩
        · clear hix hqb
          go_wp2_with fail
          go_roundg (l.length - (i + 1))
          case measure => omega
          case rel => exact ⟨rfl, i + 1, by omega, rfl, by rw [HIN.out, ← HBI.out]; rfl, by first | rfl | (rw [Int.natCast_add]; rfl)⟩
      · have hlti : ¬ (i : Int) < (l.length : Int) := by omega
        obtain rfl : i = l.length := by omega
        rw [List.take_length]
        have hgl2 := HM.out.lt
        go_wp2_with fail
        refine (told_any _).mono ?_
        rintro e w4 ⟨rfl, hb4⟩
        have hM4 := HM.out.keep (hb4.block _ HM.out.lt)
        have HB4 := Lib.hid (HB2.out.trans (hb4.mono HB2.out.size))
        obtain ⟨⟨c0, c1, c2, c3, c4, c5⟩, c6, c7, c8, c9, c10, c11⟩ := hM4.cells
        clear hb4 hM4 HM HB2
        go_wp2_with fail
        refine (mayM_any (m := oneP id .u) (a := none) (cap := 0) (Tb.nil _ none (by decide)) (oneP_wf HR.out .u)).mono ?_
        rintro e w5 ⟨r, hr, rfl, hb5⟩
        rw [oneP_iff HL.out] at hr
        have hrb : (r == decide (Pt.u ∈ l)) = true := by cases r <;> simp_all
        have HB5 := Lib.hid (HB4.out.trans (hb5.mono HB4.out.size))
        clear hr hb5 c0 c1 c2 c3 c4 c5 c6 c7 c8 c9 c10 c11
        go_wp2_with fail
        go_ret
        exact ⟨by first | rfl | (simp [*]; done), HB5.out⟩
  · have hf8 := hf 8
    clear hf
    have hlet : ∀ w : World, (Instr.index 9 (.string ⟨#[110, 121, 101, 107, 120, 99, 117, 116, 102, 98, 97]⟩) (.int .i64 7)).run Try.prog w = .ok (.int .u8 116) w := ltr_index [.n, .y, .e, .k, .x, .c, .u, .t, .f, .b, .a] 7 (by decide)
    go_wp2_with fail
    have hM2 : MeAt (w1.setCell ⟨w.heap.size + 1, 8, none⟩ (.int .u64 8)) (w.heap.size + 1) (oneP id .t) none 0 := by unfold MeAt; rw [set_heap HAT.out]; rfl
    have hB2 : Below w.heap.size w (w1.setCell ⟨w.heap.size + 1, 8, none⟩ (.int .u64 8)) := HB1.out.setCell (Nat.le_succ _) _
    clear hf8 c0 c1 c2 c3 c4 c5 c6 c7 c8 c9 c10 c11 HB1 HAT hlet
    generalize w1.setCell ⟨w.heap.size + 1, 8, none⟩ (.int .u64 8) = w2 at *
    refine (parts_any id _).mono ?_
    rintro e w3 ⟨rfl, rfl⟩
    have hps : partsStr id = ltr l := by unfold partsStr; rw [HL.out]
    rw [hps]
    clear hps
    have HM := Lib.hid hM2
    have HB2 := Lib.hid hB2
    clear hM2 hB2
    go_wp2_with fail
    go_loopg [9, 10] l.length (hasRel l .t w2)
    case atStart => exact ⟨rfl, 0, Nat.zero_le _, rfl, rfl, rfl⟩
    case round =>
      obtain ⟨rfl, i, hi, rfl, rfl, rfl⟩ := hrel
      by_cases hlt : i < l.length
      · have hlti : (i : Int) < (l.length : Int) := by omega
        have hl5 := (partsOf_some HL.out).1
        have hs1 : IntKind.i64.wrap ((i : Int) + 1) = ((i + 1 : Nat) : Int) := by rw [IntWalk.i64_in _ (by omega)]; omega
        have hix := ltr_index l i hlt
        have hin := take_in l .t hlt
        obtain ⟨q, hq⟩ : ∃ q, q = l[i] := ⟨_, rfl⟩
        rw [← hq] at hix hin
        have hqb : ((q.byte.toNat : Int) == 116) = decide (q = .t) := by cases q <;> rfl
        have HIN := Lib.hid hin
        obtain ⟨b, hb⟩ : ∃ b, b = decide (Pt.t ∈ l.take i) := ⟨_, rfl⟩
        rw [← hb]
        have HBI := Lib.hid hb
        clear hin hq hb
        cases b
        · go_wp2_with fail
          go_roundg (l.length - (i + 1))
          case measure => omega
          case rel => exact ⟨rfl, i + 1, by omega, rfl, by rw [HIN.out, ← HBI.out]; simp [*], by first | rfl | (rw [Int.natCast_add]; rfl)⟩
        · clear hix hqb
          go_wp2_with fail
          go_roundg (l.length - (i + 1))
          case measure => omega
          case rel => exact ⟨rfl, i + 1, by omega, rfl, by rw [HIN.out, ← HBI.out]; rfl, by first | rfl | (rw [Int.natCast_add]; rfl)⟩
      · have hlti : ¬ (i : Int) < (l.length : Int) := by omega
        obtain rfl : i = l.length := by omega
        rw [List.take_length]
        have hgl2 := HM.out.lt
        go_wp2_with fail
        refine (told_any _).mono ?_
        rintro e w4 ⟨rfl, hb4⟩
        have hM4 := HM.out.keep (hb4.block _ HM.out.lt)
        have HB4 := Lib.hid (HB2.out.trans (hb4.mono HB2.out.size))
        obtain ⟨⟨c0, c1, c2, c3, c4, c5⟩, c6, c7, c8, c9, c10, c11⟩ := hM4.cells
        clear hb4 hM4 HM HB2
        go_wp2_with fail
        refine (mayM_any (m := oneP id .t) (a := none) (cap := 0) (Tb.nil _ none (by decide)) (oneP_wf HR.out .t)).mono ?_
        rintro e w5 ⟨r, hr, rfl, hb5⟩
        rw [oneP_iff HL.out] at hr
        have hrb : (r == decide (Pt.t ∈ l)) = true := by cases r <;> simp_all
        have HB5 := Lib.hid (HB4.out.trans (hb5.mono HB4.out.size))
        clear hr hb5 c0 c1 c2 c3 c4 c5 c6 c7 c8 c9 c10 c11
        go_wp2_with fail
        go_ret
        exact ⟨by first | rfl | (simp [*]; done), HB5.out⟩
  · have hf9 := hf 9
    clear hf
    have hlet : ∀ w : World, (Instr.index 9 (.string ⟨#[110, 121, 101, 107, 120, 99, 117, 116, 102, 98, 97]⟩) (.int .i64 8)).run Try.prog w = .ok (.int .u8 102) w := ltr_index [.n, .y, .e, .k, .x, .c, .u, .t, .f, .b, .a] 8 (by decide)
    go_wp2_with fail
    have hM2 : MeAt (w1.setCell ⟨w.heap.size + 1, 9, none⟩ (.bool true)) (w.heap.size + 1) (oneP id .f) none 0 := by unfold MeAt; rw [set_heap HAT.out]; rfl
    have hB2 : Below w.heap.size w (w1.setCell ⟨w.heap.size + 1, 9, none⟩ (.bool true)) := HB1.out.setCell (Nat.le_succ _) _
    clear hf9 c0 c1 c2 c3 c4 c5 c6 c7 c8 c9 c10 c11 HB1 HAT hlet
    generalize w1.setCell ⟨w.heap.size + 1, 9, none⟩ (.bool true) = w2 at *
    refine (parts_any id _).mono ?_
    rintro e w3 ⟨rfl, rfl⟩
    have hps : partsStr id = ltr l := by unfold partsStr; rw [HL.out]
    rw [hps]
    clear hps
    have HM := Lib.hid hM2
    have HB2 := Lib.hid hB2
    clear hM2 hB2
    go_wp2_with fail
    go_loopg [9, 10] l.length (hasRel l .f w2)
    case atStart => exact ⟨rfl, 0, Nat.zero_le _, rfl, rfl, rfl⟩
    case round =>
      obtain ⟨rfl, i, hi, rfl, rfl, rfl⟩ := hrel
      by_cases hlt : i < l.length
      · have hlti : (i : Int) < (l.length : Int) := by omega
        have hl5 := (partsOf_some HL.out).1
        have hs1 : IntKind.i64.wrap ((i : Int) + 1) = ((i + 1 : Nat) : Int) := by rw [IntWalk.i64_in _ (by omega)]; omega
        have hix := ltr_index l i hlt
        have hin := take_in l .f hlt
        obtain ⟨q, hq⟩ : ∃ q, q = l[i] := ⟨_, rfl⟩
        rw [← hq] at hix hin
        have hqb : ((q.byte.toNat : Int) == 102) = decide (q = .f) := by cases q <;> rfl
        have HIN := Lib.hid hin
        obtain ⟨b, hb⟩ : ∃ b, b = decide (Pt.f ∈ l.take i) := ⟨_, rfl⟩
        rw [← hb]
        have HBI := Lib.hid hb
        clear hin hq hb
        cases b
        · go_wp2_with fail
          go_roundg (l.length - (i + 1))
          case measure => omega
          case rel => exact ⟨rfl, i + 1, by omega, rfl, by rw [HIN.out, ← HBI.out]; simp [*], by first | rfl | (rw [Int.natCast_add]; rfl)⟩
        · clear hix hqb
          go_wp2_with fail
          go_roundg (l.length - (i + 1))
          case measure => omega
          case rel => exact ⟨rfl, i + 1, by omega, rfl, by rw [HIN.out, ← HBI.out]; rfl, by first | rfl | (rw [Int.natCast_add]; rfl)⟩
      · have hlti : ¬ (i : Int) < (l.length : Int) := by omega
        obtain rfl : i = l.length := by omega
        rw [List.take_length]
        have hgl2 := HM.out.lt
        go_wp2_with fail
        refine (told_any _).mono ?_
        rintro e w4 ⟨rfl, hb4⟩
        have hM4 := HM.out.keep (hb4.block _ HM.out.lt)
        have HB4 := Lib.hid (HB2.out.trans (hb4.mono HB2.out.size))
        obtain ⟨⟨c0, c1, c2, c3, c4, c5⟩, c6, c7, c8, c9, c10, c11⟩ := hM4.cells
        clear hb4 hM4 HM HB2
        go_wp2_with fail
        refine (mayM_any (m := oneP id .f) (a := none) (cap := 0) (Tb.nil _ none (by decide)) (oneP_wf HR.out .f)).mono ?_
        rintro e w5 ⟨r, hr, rfl, hb5⟩
        rw [oneP_iff HL.out] at hr
        have hrb : (r == decide (Pt.f ∈ l)) = true := by cases r <;> simp_all
        have HB5 := Lib.hid (HB4.out.trans (hb5.mono HB4.out.size))
        clear hr hb5 c0 c1 c2 c3 c4 c5 c6 c7 c8 c9 c10 c11
        go_wp2_with fail
        go_ret
        exact ⟨by first | rfl | (simp [*]; done), HB5.out⟩
  · have hf10 := hf 10
    clear hf
    have hlet : ∀ w : World, (Instr.index 9 (.string ⟨#[110, 121, 101, 107, 120, 99, 117, 116, 102, 98, 97]⟩) (.int .i64 9)).run Try.prog w = .ok (.int .u8 98) w := ltr_index [.n, .y, .e, .k, .x, .c, .u, .t, .f, .b, .a] 9 (by decide)
    go_wp2_with fail
    have hM2 : MeAt (w1.setCell ⟨w.heap.size + 1, 10, none⟩ (.bool true)) (w.heap.size + 1) (oneP id .b) none 0 := by unfold MeAt; rw [set_heap HAT.out]; rfl
    have hB2 : Below w.heap.size w (w1.setCell ⟨w.heap.size + 1, 10, none⟩ (.bool true)) := HB1.out.setCell (Nat.le_succ _) _
    clear hf10 c0 c1 c2 c3 c4 c5 c6 c7 c8 c9 c10 c11 HB1 HAT hlet
    generalize w1.setCell ⟨w.heap.size + 1, 10, none⟩ (.bool true) = w2 at *
    refine (parts_any id _).mono ?_
    rintro e w3 ⟨rfl, rfl⟩
    have hps : partsStr id = ltr l := by unfold partsStr; rw [HL.out]
    rw [hps]
    clear hps
    have HM := Lib.hid hM2
    have HB2 := Lib.hid hB2
    clear hM2 hB2
    go_wp2_with fail
    go_loopg [9, 10] l.length (hasRel l .b w2)
    case atStart => exact ⟨rfl, 0, Nat.zero_le _, rfl, rfl, rfl⟩
    case round =>
      obtain ⟨rfl, i, hi, rfl, rfl, rfl⟩ := hrel
      by_cases hlt : i < l.length
      · have hlti : (i : Int) < (l.length : Int) := by omega
        have hl5 := (partsOf_some HL.out).1
        have hs1 : IntKind.i64.wrap ((i : Int) + 1) = ((i + 1 : Nat) : Int) := by rw [IntWalk.i64_in _ (by omega)]; omega
        have hix := ltr_index l i hlt
        have hin := take_in l .b hlt
        obtain ⟨q, hq⟩ : ∃ q, q = l[i] := ⟨_, rfl⟩
        rw [← hq] at hix hin
        have hqb : ((q.byte.toNat : Int) == 98) = decide (q = .b) := by cases q <;> rfl
        have HIN := Lib.hid hin
        obtain ⟨b, hb⟩ : ∃ b, b = decide (Pt.b ∈ l.take i) := ⟨_, rfl⟩
        rw [← hb]
        have HBI := Lib.hid hb
        clear hin hq hb
        cases b
        · go_wp2_with fail
          go_roundg (l.length - (i + 1))
          case measure => omega
          case rel => exact ⟨rfl, i + 1, by omega, rfl, by rw [HIN.out, ← HBI.out]; simp [*], by first | rfl | (rw [Int.natCast_add]; rfl)⟩
        · clear hix hqb
          go_wp2_with fail
          go_roundg (l.length - (i + 1))
          case measure => omega
          case rel => exact ⟨rfl, i + 1, by omega, rfl, by rw [HIN.out, ← HBI.out]; rfl, by first | rfl | (rw [Int.natCast_add]; rfl)⟩
      · have hlti : ¬ (i : Int) < (l.length : Int) := by omega
        obtain rfl : i = l.length := by omega
        rw [List.take_length]
        have hgl2 := HM.out.lt
        go_wp2_with fail
        refine (told_any _).mono ?_
        rintro e w4 ⟨rfl, hb4⟩
        have hM4 := HM.out.keep (hb4.block _ HM.out.lt)
        have HB4 := Lib.hid (HB2.out.trans (hb4.mono HB2.out.size))
        obtain ⟨⟨c0, c1, c2, c3, c4, c5⟩, c6, c7, c8, c9, c10, c11⟩ := hM4.cells
        clear hb4 hM4 HM HB2
        go_wp2_with fail
        refine (mayM_any (m := oneP id .b) (a := none) (cap := 0) (Tb.nil _ none (by decide)) (oneP_wf HR.out .b)).mono ?_
        rintro e w5 ⟨r, hr, rfl, hb5⟩
        rw [oneP_iff HL.out] at hr
        have hrb : (r == decide (Pt.b ∈ l)) = true := by cases r <;> simp_all
        have HB5 := Lib.hid (HB4.out.trans (hb5.mono HB4.out.size))
        clear hr hb5 c0 c1 c2 c3 c4 c5 c6 c7 c8 c9 c10 c11
        go_wp2_with fail
        go_ret
        exact ⟨by first | rfl | (simp [*]; done), HB5.out⟩
  · have hf11 := hf 11
    clear hf
    have hlet : ∀ w : World, (Instr.index 9 (.string ⟨#[110, 121, 101, 107, 120, 99, 117, 116, 102, 98, 97]⟩) (.int .i64 10)).run Try.prog w = .ok (.int .u8 97) w := ltr_index [.n, .y, .e, .k, .x, .c, .u, .t, .f, .b, .a] 10 (by decide)
    go_wp2_with fail
    have hz2 : (w1.setCell ⟨w.heap.size + 1, 11, none⟩ (.slice (some ⟨w1.heap.size, 0, none⟩) 1 1)).heap.size = w1.heap.size := by simp [World.setCell]
    have hS2 : MeAt (w1.setCell ⟨w.heap.size + 1, 11, none⟩ (.slice (some ⟨w1.heap.size, 0, none⟩) 1 1)) (w.heap.size + 1) (oneP id .a) (some ⟨w1.heap.size, 0, none⟩) 1 := by unfold MeAt; rw [set_heap HAT.out]; rfl
    have hBS : Below w.heap.size w (w1.setCell ⟨w.heap.size + 1, 11, none⟩ (.slice (some ⟨w1.heap.size, 0, none⟩) 1 1)) := HB1.out.setCell (Nat.le_succ _) _
    have hI2 : ((w1.setCell ⟨w.heap.size + 1, 11, none⟩ (.slice (some ⟨w1.heap.size, 0, none⟩) 1 1)).alloc (.cells #[.string ⟨#[102]⟩, .int .i64 0, .int .i64 0, .string ⟨#[]⟩, .slice none 0 0] 45)).heap[(w1.setCell ⟨w.heap.size + 1, 11, none⟩ (.slice (some ⟨w1.heap.size, 0, none⟩) 1 1)).heap.size]? = some (.cells #[.string ⟨#[102]⟩, .int .i64 0, .int .i64 0, .string ⟨#[]⟩, .slice none 0 0] 45 (0, 0)) := heap_alloc_new _ _
    rw [hz2] at hI2
    have hbA : Below (w1.setCell ⟨w.heap.size + 1, 11, none⟩ (.slice (some ⟨w1.heap.size, 0, none⟩) 1 1)).heap.size (w1.setCell ⟨w.heap.size + 1, 11, none⟩ (.slice (some ⟨w1.heap.size, 0, none⟩) 1 1)) ((w1.setCell ⟨w.heap.size + 1, 11, none⟩ (.slice (some ⟨w1.heap.size, 0, none⟩) 1 1)).alloc (.cells #[.string ⟨#[102]⟩, .int .i64 0, .int .i64 0, .string ⟨#[]⟩, .slice none 0 0] 45)) := (Below.refl _ _).alloc (Nat.le_refl _) _
    have hM2 := hS2.keep (hbA.block _ hS2.lt)
    have hB2 := hBS.trans (hbA.mono hBS.size)
    have hT2 := one_tb hI2
    clear hf11 c0 c1 c2 c3 c4 c5 c6 c7 c8 c9 c10 c11 HB1 HAT hlet hz2 hS2 hBS hI2 hbA
    generalize (w1.setCell ⟨w.heap.size + 1, 11, none⟩ (.slice (some ⟨w1.heap.size, 0, none⟩) 1 1)).alloc (.cells #[.string ⟨#[102]⟩, .int .i64 0, .int .i64 0, .string ⟨#[]⟩, .slice none 0 0] 45) = w2 at *
    obtain ⟨G, hG⟩ : ∃ G, G = w1.heap.size := ⟨_, rfl⟩
    rw [← hG] at hM2 hT2
    have HT2 := Lib.hid hT2
    clear hG hT2
    refine (parts_any id _).mono ?_
    rintro e w3 ⟨rfl, rfl⟩
    have hps : partsStr id = ltr l := by unfold partsStr; rw [HL.out]
    rw [hps]
    clear hps
    have HM := Lib.hid hM2
    have HB2 := Lib.hid hB2
    clear hM2 hB2
    go_wp2_with fail
    go_loopg [9, 10] l.length (hasRel l .a w2)
    case atStart => exact ⟨rfl, 0, Nat.zero_le _, rfl, rfl, rfl⟩
    case round =>
      obtain ⟨rfl, i, hi, rfl, rfl, rfl⟩ := hrel
      by_cases hlt : i < l.length
      · have hlti : (i : Int) < (l.length : Int) := by omega
        have hl5 := (partsOf_some HL.out).1
        have hs1 : IntKind.i64.wrap ((i : Int) + 1) = ((i + 1 : Nat) : Int) := by rw [IntWalk.i64_in _ (by omega)]; omega
        have hix := ltr_index l i hlt
        have hin := take_in l .a hlt
        obtain ⟨q, hq⟩ : ∃ q, q = l[i] := ⟨_, rfl⟩
        rw [← hq] at hix hin
        have hqb : ((q.byte.toNat : Int) == 97) = decide (q = .a) := by cases q <;> rfl
        have HIN := Lib.hid hin
        obtain ⟨b, hb⟩ : ∃ b, b = decide (Pt.a ∈ l.take i) := ⟨_, rfl⟩
        rw [← hb]
        have HBI := Lib.hid hb
        clear hin hq hb
        cases b
        · go_wp2_with fail
          go_roundg (l.length - (i + 1))
          case measure => omega
          case rel => exact ⟨rfl, i + 1, by omega, rfl, by rw [HIN.out, ← HBI.out]; simp [*], by first | rfl | (rw [Int.natCast_add]; rfl)⟩
        · clear hix hqb
          go_wp2_with fail
          go_roundg (l.length - (i + 1))
          case measure => omega
          case rel => exact ⟨rfl, i + 1, by omega, rfl, by rw [HIN.out, ← HBI.out]; rfl, by first | rfl | (rw [Int.natCast_add]; rfl)⟩
      · have hlti : ¬ (i : Int) < (l.length : Int) := by omega
        obtain rfl : i = l.length := by omega
        rw [List.take_length]
        have hgl2 := HM.out.lt
        go_wp2_with fail
        refine (told_any _).mono ?_
        rintro e w4 ⟨rfl, hb4⟩
        have hM4 := HM.out.keep (hb4.block _ HM.out.lt)
        have HT4 := Lib.hid (HT2.out.below hb4)
        have HB4 := Lib.hid (HB2.out.trans (hb4.mono HB2.out.size))
        obtain ⟨⟨c0, c1, c2, c3, c4, c5⟩, c6, c7, c8, c9, c10, c11⟩ := hM4.cells
        clear hb4 hM4 HM HB2
        go_wp2_with fail
        refine (mayM_any (m := oneP id .a) (a := some ⟨G, 0, none⟩) (cap := 1) HT4.out (oneP_wf HR.out .a)).mono ?_
        rintro e w5 ⟨r, hr, rfl, hb5⟩
        rw [oneP_iff HL.out] at hr
        have hrb : (r == decide (Pt.a ∈ l)) = true := by cases r <;> simp_all
        have HB5 := Lib.hid (HB4.out.trans (hb5.mono HB4.out.size))
        clear hr hb5 c0 c1 c2 c3 c4 c5 c6 c7 c8 c9 c10 c11
        go_wp2_with fail
        go_ret
        exact ⟨by first | rfl | (simp [*]; done), HB5.out⟩

end Go.Proofs.Ytenpcadgelpbgaa
