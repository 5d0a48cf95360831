/-
  MethodFlags.
-/
import Derived.Test.YtenpcadgelpbgaaMTold
namespace Go.Proofs.Ytenpcadgelpbgaa
open Go.RowKit
set_option linter.unusedVariables false

theorem flag_set (tag : Nat) (c : UInt8) : (putM (mAck tag true)).set 12 c = [0, 60, 0, 80] ++ (be 8 tag ++ [c]) := by
  rw [mAck_bytes, ← List.append_assoc, List.set_append_right _ _ (by simp)]
  have : ([0, 60, 0, 80] ++ be 8 tag).length = 12 := by simp
  rw [this]
  have h1 : be 1 (bitN true) = [1] := by decide
  rw [h1, List.append_assoc]
  rfl
theorem flag_len (tag : Nat) : (putM (mAck tag true)).length = 13 := by rw [mAck_bytes]; simp
theorem head_ack (x : List UInt8) : HeadOk ([0, 60, 0, 80] ++ x) [.t, .f] ∧ idOf ([0, 60, 0, 80] ++ x) = 6080 ∧ ([0, 60, 0, 80] ++ x).drop 4 = x := by
  have := head_put (i := 6080) (l := [.t, .f]) rfl x
  have h : headM 6080 = [0, 60, 0, 80] := by decide
  rw [h] at this
  exact this
theorem flag_no {tag : Nat} {c : UInt8} (hc : ¬ c.toNat ≤ 1) : ∀ m, Good m → putM m = [0, 60, 0, 80] ++ (be 8 tag ++ [c]) → False := by
  intro m hg h
  obtain ⟨pl, k1, k2, k3, k4⟩ := putM_head m hg
  obtain ⟨h1, h2, h3⟩ := head_ack (be 8 tag ++ [c])
  rw [h] at k2 k3 k4
  have e : pl = [.t, .f] := Option.some.inj (k2.2.2.symm.trans h1.2.2)
  subst e
  rw [h3] at k4
  simp only [encL, Me.enc, List.append_nil] at k4
  obtain ⟨_, k5⟩ := List.append_inj k4 (by simp)
  rw [be_one] at k5
  have k6 := List.head_eq_of_cons_eq k5
  have k7 := congrArg UInt8.toNat k6
  have k8 := bitN_le m.flag
  rw [UInt8.toNat_ofNat'] at k7
  omega
theorem flag_yes {tag : Nat} {c : UInt8} (hc : c.toNat ≤ 1) : [0, 60, 0, 80] ++ (be 8 tag ++ [c]) = putM (mAck tag (c == 1)) := by
  rw [mAck_bytes]
  have : c = 0 ∨ c = 1 := by
    have h : c.toNat = 0 ∨ c.toNat = 1 := by omega
    rcases h with h | h
    · exact .inl (UInt8.toNat_inj.1 h)
    · exact .inr (UInt8.toNat_inj.1 h)
  rcases this with rfl | rfl <;> rfl

set_option maxRecDepth 100000 in
set_option maxHeartbeats 8000000 in
theorem flags_any (p0 p1 : Int) (w : World) (w0 : (Lit.int .u8 p0).wf = true) (w1 : (Lit.int .u64 p1).wf = true) :
    Calls Try.prog 7 #[.int .u8 p0, .int .u64 p1] w fun e w' => e = .returned (.bool true) ∧ Below w.heap.size w w' := by
  obtain ⟨c, rfl⟩ := byte_of (in_u8 w0)
  obtain ⟨t1, t2⟩ := in_u64 w1
  obtain ⟨tag, rfl⟩ : ∃ tag : Nat, p1 = (tag : Int) := ⟨p1.toNat, by omega⟩
  have ht : tag < 18446744073709551616 := by omega
  have hgood := mAck_good tag true ht
  have HG := Lib.hid hgood
  have HT := Lib.hid ht
  clear w0 w1 t1 t2 hgood ht
  go_enter Try.func7, Try.ntmps7
  go_wp2_with fail
  refine (putM_any (m := mAck tag true) (a := none) (cap := 0) (Tb.nil _ none (by decide)) HG.out.wf).mono ?_
  intro e w2 h
  obtain ⟨hb2, g2, c2, rfl, hg2, hbs2⟩ := put_good HG.out h
  rw [flag_len]
  have HB2 := Lib.hid hb2
  have HP2 := Lib.hid hbs2
  have hlen := hbs2.len
  rw [flag_len] at hlen
  have hmx := hbs2.max
  unfold maxLen at hmx
  have hc12 := hbs2.cell (i := 12) (by rw [flag_len]; decide)
  have hf12 := hbs2.frozen 12
  clear h hb2 hbs2
  go_wp2_with fail
  have hp3 := HP2.out.set 12 c
  rw [flag_set] at hp3
  have hb3 : Below w.heap.size w (w2.setCell ⟨g2, 12, none⟩ (.int .u8 c.toNat)) := HB2.out.setCell hg2 _
  generalize w2.setCell ⟨g2, 12, none⟩ (.int .u8 c.toNat) = w3 at *
  have hl3 : ([0, 60, 0, 80] ++ (be 8 tag ++ [c]) : List UInt8).length = 13 := by simp
  have HB3 := Lib.hid hb3
  have hin := hp3.in
  rw [hl3] at hin
  clear hp3 hb3 hc12 hf12 HP2 HB2
  refine (getM_any (B := w3.heap.size) _ _ w3 (Nat.le_refl _) hin).mono ?_
  intro e w4 h
  clear hin
  by_cases hc : c.toNat ≤ 1
  · have hci : ¬ (1 : Int) < (c.toNat : Int) := by omega
    rw [flag_yes hc] at h
    obtain ⟨hb4, a3, cap3, bs3, he, hs3, ho3⟩ := get_good (mAck_good tag (c == 1) HT.out) h
    replace he : e = .returned (.tuple #[.agg #[.int .i64 6080, .string ⟨#[]⟩, .string ⟨#[]⟩, .string ⟨#[]⟩, .string ⟨#[]⟩, .string ⟨#[]⟩, .int .i64 0, .int .i64 0, .int .u64 tag, .bool (c == 1), .bool false, .slice a3 0 cap3], .int .i64 0]) := he
    subst he
    have HB4 := Lib.hid (HB3.out.trans (hb4.mono HB3.out.size))
    have hM : MeAt (w4.alloc (.cells #[.int .i64 6080, .string ⟨#[]⟩, .string ⟨#[]⟩, .string ⟨#[]⟩, .string ⟨#[]⟩, .string ⟨#[]⟩, .int .i64 0, .int .i64 0, .int .u64 tag, .bool (c == 1), .bool false, .slice a3 0 cap3] 25)) w4.heap.size (mAck tag (c == 1)) a3 cap3 := heap_alloc_new w4 _
    have hb5 : Below w4.heap.size w4 (w4.alloc (.cells #[.int .i64 6080, .string ⟨#[]⟩, .string ⟨#[]⟩, .string ⟨#[]⟩, .string ⟨#[]⟩, .string ⟨#[]⟩, .int .i64 0, .int .i64 0, .int .u64 tag, .bool (c == 1), .bool false, .slice a3 0 cap3] 25)) := (Below.refl _ _).alloc (Nat.le_refl _) _
    have HC := Lib.hid hc
    clear h hb4 hs3 ho3 hc
    go_wp2_with fail
    generalize w4.alloc (.cells #[.int .i64 6080, .string ⟨#[]⟩, .string ⟨#[]⟩, .string ⟨#[]⟩, .string ⟨#[]⟩, .string ⟨#[]⟩, .int .i64 0, .int .i64 0, .int .u64 tag, .bool (c == 1), .bool false, .slice a3 0 cap3] 25) = w5 at *
    have HB5 := Lib.hid (HB4.out.trans (hb5.mono HB4.out.size))
    refine (told_any _).mono ?_
    rintro e w6 ⟨rfl, hb6⟩
    have hM6 := hM.keep (hb6.block _ hM.lt)
    have c8 := hM6.cells.2.2.2.1
    have c9 := hM6.cells.2.2.2.2.1
    replace c8 : w6.cell? ⟨w4.heap.size, 8, none⟩ = some (.int .u64 (tag : Nat)) := c8
    replace c9 : w6.cell? ⟨w4.heap.size, 9, none⟩ = some (.bool (c == 1)) := c9
    have hcc : ((c.toNat : Int) == 1) = (c == 1) := by
      have h0 := HC.out
      have h : c.toNat = 0 ∨ c.toNat = 1 := by omega
      rcases h with h | h
      · obtain rfl : c = 0 := UInt8.toNat_inj.1 h; rfl
      · obtain rfl : c = 1 := UInt8.toNat_inj.1 h; rfl
    have HB6 := Lib.hid (HB5.out.trans (hb6.mono HB5.out.size))
    clear hM hM6 hb5 hb6
    go_wp2_with fail
    go_ret
    exact ⟨by first | rfl | (simp [*]; done), HB6.out⟩
  · have hci : (1 : Int) < (c.toNat : Int) := by omega
    obtain ⟨hb4, he⟩ := get_syn (flag_no hc) (.inr ⟨_, (head_ack _).1⟩) h
    replace he : e = .returned (.tuple #[.agg #[.int .i64 0, .string ⟨#[]⟩, .string ⟨#[]⟩, .string ⟨#[]⟩, .string ⟨#[]⟩, .string ⟨#[]⟩, .int .i64 0, .int .i64 0, .int .u64 0, .bool false, .bool false, .slice none 0 0], .int .i64 502]) := he
    subst he
    have HB4 := Lib.hid (HB3.out.trans (hb4.mono HB3.out.size))
    have hb5 : Below w4.heap.size w4 (w4.alloc (.cells #[.int .i64 0, .string ⟨#[]⟩, .string ⟨#[]⟩, .string ⟨#[]⟩, .string ⟨#[]⟩, .string ⟨#[]⟩, .int .i64 0, .int .i64 0, .int .u64 0, .bool false, .bool false, .slice none 0 0] 25)) := (Below.refl _ _).alloc (Nat.le_refl _) _
    clear h hb4
    go_wp2_with fail
    generalize w4.alloc (.cells #[.int .i64 0, .string ⟨#[]⟩, .string ⟨#[]⟩, .string ⟨#[]⟩, .string ⟨#[]⟩, .string ⟨#[]⟩, .int .i64 0, .int .i64 0, .int .u64 0, .bool false, .bool false, .slice none 0 0] 25) = w5 at *
    have HB5 := Lib.hid (HB4.out.trans (hb5.mono HB4.out.size))
    refine (told_any _).mono ?_
    rintro e w6 ⟨rfl, hb6⟩
    have HB6 := Lib.hid (HB5.out.trans (hb6.mono HB5.out.size))
    clear hb5 hb6
    go_wp2_with fail
    go_ret
    exact ⟨by first | rfl | (simp [*]; done), HB6.out⟩

end Go.Proofs.Ytenpcadgelpbgaa
