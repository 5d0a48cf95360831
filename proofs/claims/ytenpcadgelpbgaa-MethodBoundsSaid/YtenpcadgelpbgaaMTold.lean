/-
  told: what the program tells of a few calls.
-/
import Derived.Test.YtenpcadgelpbgaaMEnd
namespace Go.Proofs.Ytenpcadgelpbgaa
open Go.RowKit
set_option linter.unusedVariables false

def mOpen : Me := Me.of 2010
def mAck (tag : Nat) (flag : Bool) : Me := { Me.of 6080 with tag := tag, flag := flag }
def mGetX : Me := { Me.of 6070 with key := ⟨#[120]⟩ }
theorem mOpen_good : Good mOpen := by
  refine ⟨(mayM_iff (l := []) rfl).2 ⟨by simp, fun p _ => Me.of_no 2010 p⟩, of_wf 2010 (by decide), by decide⟩
theorem mAck_good (tag : Nat) (flag : Bool) (h : tag < 18446744073709551616) : Good (mAck tag flag) := by
  refine ⟨(mayM_iff (l := [.t, .f]) rfl).2 ⟨fun p hp => ?_, fun p hp => ?_⟩, ?_, (by show (putT ([] : List It)).length ≤ 3000; decide)⟩
  · simp only [List.mem_cons, List.not_mem_nil, or_false] at hp
    rcases hp with rfl | rfl
    · exact h
    · trivial
  · cases p <;> first | rfl | (exact absurd hp (by simp))
  · obtain ⟨h0, h1, h2, h3, h4, h5, h6, h7, h8, h9⟩ := of_wf 6080 (by decide)
    exact ⟨h0, h1, h2, h3, h4, h5, h6, h7, h, h9⟩
theorem mGetX_not : ¬ MayM mGetX := by
  rw [mayM_iff (l := [.n]) rfl]
  intro h
  have := h.2 .k (by decide)
  exact absurd (show mGetX.key = ByteArray.empty from this) (by decide)
theorem mGetX_wf : mGetX.Wf := by
  obtain ⟨h0, h1, h2, h3, h4, h5, h6, h7, h8, h9⟩ := of_wf 6070 (by decide)
  exact ⟨h0, h1, h2, h3, (by show (ByteArray.mk #[120]).size ≤ maxLen; decide), h5, h6, h7, h8, h9⟩
theorem mOpen_bytes : putM mOpen = [0, 20, 0, 10] := by decide
theorem mAck_bytes (tag : Nat) (flag : Bool) : putM (mAck tag flag) = [0, 60, 0, 80] ++ (be 8 tag ++ be 1 (bitN flag)) := by
  rw [putM_eq (l := [.t, .f]) rfl]
  have : headM (mAck tag flag).id = [0, 60, 0, 80] := by show headM 6080 = _; decide
  rw [this]
  simp [encL, Me.enc, mAck]
theorem mAck_told : putM (mAck 258 true) = [0, 60, 0, 80, 0, 0, 0, 0, 0, 0, 1, 2, 1] := by rw [mAck_bytes]; decide
theorem no19 : ∀ pl, ¬ HeadOk [0, 19, 0, 110] pl := fun pl h => absurd h.2.1 (by decide)

set_option maxRecDepth 100000 in
set_option maxHeartbeats 8000000 in
theorem told_any (w : World) : Calls Try.prog 9 #[] w fun e w' => e = .returned (.bool true) ∧ Below w.heap.size w w' := by
  go_enter Try.func9, Try.ntmps9
  go_wp2_with fail
  refine (putM_any (m := mOpen) (a := none) (cap := 0) (Tb.nil _ none (by decide)) mOpen_good.wf).mono ?_
  intro e w1 h
  obtain ⟨hb1, g1, c1, rfl, hg1, hbs1⟩ := put_good mOpen_good h
  rw [mOpen_bytes] at hbs1 ⊢
  have HB1 := Lib.hid hb1
  have HP1 := Lib.hid hbs1
  clear h hb1 hbs1
  go_wp2_with fail
  refine (putM_any (m := mAck 258 true) (a := none) (cap := 0) (Tb.nil _ none (by decide)) (mAck_good 258 true (by decide)).wf).mono ?_
  intro e w2 h
  obtain ⟨hb2, g2, c2, rfl, hg2, hbs2⟩ := put_good (mAck_good 258 true (by decide)) h
  have HP1 := Lib.hid (HP1.out.below hb2)
  have HB2 := Lib.hid (HB1.out.trans (hb2.mono HB1.out.size))
  have HP2 := Lib.hid hbs2
  have hl2 : (putM (mAck 258 true)).length = 13 := by rw [mAck_told]; rfl
  rw [hl2]
  clear h hb2 hbs2
  go_wp2_with fail
  refine (getM_any (B := w2.heap.size) _ (putM (mAck 258 true)) w2 (Nat.le_refl _) (by have := HP2.out.in; rwa [hl2] at this)).mono ?_
  intro e w3 h
  obtain ⟨hb3, a3, cap3, bs3, he, hs3, ho3⟩ := get_good (mAck_good 258 true (by decide)) h
  replace he : e = .returned (.tuple #[.agg #[.int .i64 6080, .string ⟨#[]⟩, .string ⟨#[]⟩, .string ⟨#[]⟩, .string ⟨#[]⟩, .string ⟨#[]⟩, .int .i64 0, .int .i64 0, .int .u64 258, .bool true, .bool false, .slice a3 0 cap3], .int .i64 0]) := he
  subst he
  have HP1 := Lib.hid (HP1.out.below hb3)
  have HP2 := Lib.hid (HP2.out.below hb3)
  have HB3 := Lib.hid (HB2.out.trans (hb3.mono HB2.out.size))
  have hM : MeAt (w3.alloc (.cells #[.int .i64 6080, .string ⟨#[]⟩, .string ⟨#[]⟩, .string ⟨#[]⟩, .string ⟨#[]⟩, .string ⟨#[]⟩, .int .i64 0, .int .i64 0, .int .u64 258, .bool true, .bool false, .slice a3 0 cap3] 25)) w3.heap.size (mAck 258 true) a3 cap3 := heap_alloc_new w3 _
  have hb4 : Below w3.heap.size w3 (w3.alloc (.cells #[.int .i64 6080, .string ⟨#[]⟩, .string ⟨#[]⟩, .string ⟨#[]⟩, .string ⟨#[]⟩, .string ⟨#[]⟩, .int .i64 0, .int .i64 0, .int .u64 258, .bool true, .bool false, .slice a3 0 cap3] 25)) := (Below.refl _ _).alloc (Nat.le_refl _) _
  clear h hb3 hs3 ho3 hl2
  go_wp2_with fail
  have hzw4 : (w3.alloc (.cells #[.int .i64 6080, .string ⟨#[]⟩, .string ⟨#[]⟩, .string ⟨#[]⟩, .string ⟨#[]⟩, .string ⟨#[]⟩, .int .i64 0, .int .i64 0, .int .u64 258, .bool true, .bool false, .slice a3 0 cap3] 25)).heap.size = w3.heap.size + 1 := by simp
  generalize w3.alloc (.cells #[.int .i64 6080, .string ⟨#[]⟩, .string ⟨#[]⟩, .string ⟨#[]⟩, .string ⟨#[]⟩, .string ⟨#[]⟩, .int .i64 0, .int .i64 0, .int .u64 258, .bool true, .bool false, .slice a3 0 cap3] 25) = w4 at *
  have HM4 := Lib.hid hM
  have HP1 := Lib.hid (HP1.out.below hb4)
  have HP2 := Lib.hid (HP2.out.below hb4)
  have HB4 := Lib.hid (HB3.out.trans (hb4.mono HB3.out.size))
  clear hM hb4
  have hL : (w4.alloc (.cells #[.int .u8 0, .int .u8 19, .int .u8 0, .int .u8 110] 5)).heap[w4.heap.size]? = some (.cells (cellsOf [0, 19, 0, 110]).toArray 5 (0, 0)) := heap_alloc_new w4 _
  have hb5 : Below w4.heap.size w4 (w4.alloc (.cells #[.int .u8 0, .int .u8 19, .int .u8 0, .int .u8 110] 5)) := (Below.refl _ _).alloc (Nat.le_refl _) _
  generalize w4.alloc (.cells #[.int .u8 0, .int .u8 19, .int .u8 0, .int .u8 110] 5) = w5 at *
  have HM5 := Lib.hid (HM4.out.keep (hb5.block _ HM4.out.lt))
  have HP1 := Lib.hid (HP1.out.below hb5)
  have HP2 := Lib.hid (HP2.out.below hb5)
  have HB5 := Lib.hid (HB4.out.trans (hb5.mono HB4.out.size))
  clear hb5
  rw [hzw4] at hL
  refine (getM_any (B := w5.heap.size) _ [0, 19, 0, 110] w5 (Nat.le_refl _) (lit_in hL (by decide))).mono ?_
  intro e w6 h
  obtain ⟨hb6, he⟩ := get_cmd (by decide) no19 h
  replace he : e = .returned (.tuple #[.agg #[.int .i64 0, .string ⟨#[]⟩, .string ⟨#[]⟩, .string ⟨#[]⟩, .string ⟨#[]⟩, .string ⟨#[]⟩, .int .i64 0, .int .i64 0, .int .u64 0, .bool false, .bool false, .slice none 0 0], .int .i64 503]) := he
  subst he
  have HM6 := Lib.hid (HM5.out.keep (hb6.block _ HM5.out.lt))
  have HP1 := Lib.hid (HP1.out.below hb6)
  have HP2 := Lib.hid (HP2.out.below hb6)
  have HB6 := Lib.hid (HB5.out.trans (hb6.mono HB5.out.size))
  clear h hb6 hL HM4 HM5
  go_wp2_with fail
  have hb7 : Below w6.heap.size w6 (w6.alloc (.cells #[.int .i64 0, .string ⟨#[]⟩, .string ⟨#[]⟩, .string ⟨#[]⟩, .string ⟨#[]⟩, .string ⟨#[]⟩, .int .i64 0, .int .i64 0, .int .u64 0, .bool false, .bool false, .slice none 0 0] 25)) := (Below.refl _ _).alloc (Nat.le_refl _) _
  have hzw7 : (w6.alloc (.cells #[.int .i64 0, .string ⟨#[]⟩, .string ⟨#[]⟩, .string ⟨#[]⟩, .string ⟨#[]⟩, .string ⟨#[]⟩, .int .i64 0, .int .i64 0, .int .u64 0, .bool false, .bool false, .slice none 0 0] 25)).heap.size = w6.heap.size + 1 := by simp
  generalize w6.alloc (.cells #[.int .i64 0, .string ⟨#[]⟩, .string ⟨#[]⟩, .string ⟨#[]⟩, .string ⟨#[]⟩, .string ⟨#[]⟩, .int .i64 0, .int .i64 0, .int .u64 0, .bool false, .bool false, .slice none 0 0] 25) = w7 at *
  have hL : (w7.alloc (.cells #[.int .u8 0, .int .u8 20] 5)).heap[w7.heap.size]? = some (.cells (cellsOf [0, 20]).toArray 5 (0, 0)) := heap_alloc_new w7 _
  have hb8 : Below w7.heap.size w7 (w7.alloc (.cells #[.int .u8 0, .int .u8 20] 5)) := (Below.refl _ _).alloc (Nat.le_refl _) _
  generalize w7.alloc (.cells #[.int .u8 0, .int .u8 20] 5) = w8 at *
  have hb68 := hb7.trans (hb8.mono hb7.size)
  have HM8 := Lib.hid (HM6.out.keep (hb68.block _ HM6.out.lt))
  have HP1 := Lib.hid (HP1.out.below hb68)
  have HP2 := Lib.hid (HP2.out.below hb68)
  have HB8 := Lib.hid (HB6.out.trans (hb68.mono HB6.out.size))
  clear hb7 hb8 hb68
  rw [hzw7] at hL
  refine (getM_any (B := w8.heap.size) _ [0, 20] w8 (Nat.le_refl _) (lit_in hL (by decide))).mono ?_
  intro e w9 h
  obtain ⟨hb9, he⟩ := get_syn (fun m hm hp => by have := putM_short m hm; rw [hp] at this; revert this; decide) (.inl (by decide)) h
  replace he : e = .returned (.tuple #[.agg #[.int .i64 0, .string ⟨#[]⟩, .string ⟨#[]⟩, .string ⟨#[]⟩, .string ⟨#[]⟩, .string ⟨#[]⟩, .int .i64 0, .int .i64 0, .int .u64 0, .bool false, .bool false, .slice none 0 0], .int .i64 502]) := he
  subst he
  have HM9 := Lib.hid (HM8.out.keep (hb9.block _ HM8.out.lt))
  have HP1 := Lib.hid (HP1.out.below hb9)
  have HP2 := Lib.hid (HP2.out.below hb9)
  have HB9 := Lib.hid (HB8.out.trans (hb9.mono HB8.out.size))
  clear h hb9 hL HM6 HM8
  go_wp2_with fail
  have hb10 : Below w9.heap.size w9 (w9.alloc (.cells #[.int .i64 0, .string ⟨#[]⟩, .string ⟨#[]⟩, .string ⟨#[]⟩, .string ⟨#[]⟩, .string ⟨#[]⟩, .int .i64 0, .int .i64 0, .int .u64 0, .bool false, .bool false, .slice none 0 0] 25)) := (Below.refl _ _).alloc (Nat.le_refl _) _
  generalize w9.alloc (.cells #[.int .i64 0, .string ⟨#[]⟩, .string ⟨#[]⟩, .string ⟨#[]⟩, .string ⟨#[]⟩, .string ⟨#[]⟩, .int .i64 0, .int .i64 0, .int .u64 0, .bool false, .bool false, .slice none 0 0] 25) = w10 at *
  refine (putM_any (m := mGetX) (a := none) (cap := 0) (Tb.nil _ none (by decide)) mGetX_wf).mono ?_
  intro e w11 h
  obtain ⟨hb11, rfl⟩ := put_bad mGetX_not h
  have hb9 := hb10.trans (hb11.mono hb10.size)
  have hM := HM9.out.keep (hb9.block _ HM9.out.lt)
  have c8 := hM.cells.2.2.2.1
  have c9 := hM.cells.2.2.2.2.1
  replace c8 : w11.cell? ⟨w3.heap.size, 8, none⟩ = some (.int .u64 258) := c8
  replace c9 : w11.cell? ⟨w3.heap.size, 9, none⟩ = some (.bool true) := c9
  have hv1 := conv_str c1 (HP1.out.below hb9).at
  have hv2 := conv_str c2 (HP2.out.below hb9).at
  rw [mAck_told] at hv2
  replace hv1 : (convert 26 9 (.slice (some ⟨g1, 0, none⟩) 4 c1)).run Try.prog w11 = .ok (.string ⟨#[0, 20, 0, 10]⟩) w11 := hv1
  replace hv2 : (convert 26 9 (.slice (some ⟨g2, 0, none⟩) 13 c2)).run Try.prog w11 = .ok (.string ⟨#[0, 60, 0, 80, 0, 0, 0, 0, 0, 0, 1, 2, 1]⟩) w11 := hv2
  have HB11 := Lib.hid (HB9.out.trans (hb9.mono HB9.out.size))
  clear h hb9 hb10 hb11 hM HM9
  go_wp2_with fail
  refine (parts_any 6120 _).mono ?_
  rintro e w12 ⟨he, rfl⟩
  replace he : e = .returned (.string ⟨#[116, 102, 98]⟩) := he
  subst he
  go_wp2_with fail
  refine (parts_any 7 _).mono ?_
  rintro e w12 ⟨he, rfl⟩
  replace he : e = .returned (.string ⟨#[45]⟩) := he
  subst he
  go_wp2_with fail
  go_ret
  exact ⟨rfl, HB11.out⟩

end Go.Proofs.Ytenpcadgelpbgaa
