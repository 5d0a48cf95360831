/-
  FrameEnds.
-/
import Derived.Test.YtpibbgencojbgaaTold4
import Derived.Test.YtpibbgencojbgaaArg4
import Derived.Test.YtpibbgencojbgaaEndD4
namespace Go.Proofs.Ytpibbgencojbgaa
open Go.RowKit
set_option linter.unusedVariables false

theorem Bytes1.takes {w : World} {g cap : Nat} {l : List UInt8} (h : Bytes1 w g cap l) (k : Nat) : Bytes1 w g cap (l.take k) := by
  obtain ⟨h1, h2, f, hr, hf⟩ := h
  refine ⟨by simp; omega, h2, f, hr, fun i hi => ?_⟩
  rw [List.getElem_take]
  exact hf i (by simp at hi; omega)
/-- told at the end of a way. -/
theorem nextR_never {l : List UInt8} {w : World} {e : Ending} {w' : World} (h : NextR l w e w') (hn : nextP l = .never) : Below w.heap.size w w' ∧ e = .returned (.tuple #[.agg #[.int .i64 0, .int .i64 0, .slice none 0 0], .int .i64 0, .int .i64 501]) := by
  obtain ⟨hb, h⟩ := h
  rw [hn] at h
  rcases h with ⟨h, _⟩ | ⟨_, h⟩ | ⟨f, n, a, c, h, _⟩
  · cases h
  · exact ⟨hb, h⟩
  · cases h
theorem nextR_cut {l : List UInt8} {w : World} {e : Ending} {w' : World} (h : NextR l w e w') (hn : nextP l = .cut) : Below w.heap.size w w' ∧ e = .returned (.tuple #[.agg #[.int .i64 0, .int .i64 0, .slice none 0 0], .int .i64 0, .int .i64 3]) := by
  obtain ⟨hb, h⟩ := h
  rw [hn] at h
  rcases h with ⟨_, h⟩ | ⟨h, _⟩ | ⟨f, n, a, c, h, _⟩
  · exact ⟨hb, h⟩
  · cases h
  · cases h
theorem nextR_got {l : List UInt8} {w : World} {e : Ending} {w' : World} {f : Fr} {n : Nat} (h : NextR l w e w') (hn : nextP l = .got f n) : Below w.heap.size w w' ∧ ∃ a c, e = .returned (.tuple #[.agg #[.int .i64 f.kind, .int .i64 f.chan, .slice a f.data.length c], .int .i64 n, .int .i64 0]) := by
  obtain ⟨hb, h⟩ := h
  rw [hn] at h
  rcases h with ⟨h, _⟩ | ⟨h, _⟩ | ⟨f', n', a, c, h, he, _⟩
  · cases h
  · cases h
  · cases h
    exact ⟨hb, a, c, he⟩

set_option maxRecDepth 100000 in
set_option maxHeartbeats 8000000 in
theorem ends_any (f0 : Fr) (a0 : Option Addr) (cap0 : Nat) (p1 : Int) (w : World) (w0 : FrArg w a0 cap0 f0) (w1 : (Lit.int .u8 p1).wf = true) :
    Calls Try.prog 12 #[.agg #[.int .i64 f0.kind, .int .i64 f0.chan, .slice a0 f0.data.length cap0], .int .u8 p1] w fun e w' => e = .returned (.bool true) ∧ Below w.heap.size w w' := by
  obtain ⟨c, rfl⟩ := byte_of (in_u8 w1)
  clear w1
  have hcap := w0.max
  have hlen := w0.len
  unfold maxLen at hcap
  have hbel : Below w.heap.size w (w.alloc (.cells #[.int .i64 f0.kind, .int .i64 f0.chan, .slice a0 f0.data.length cap0] 48)) := (Below.refl _ _).alloc (Nat.le_refl _) _
  have HBEL := Lib.hid hbel
  have HPUT := Lib.hid (put_any w.heap.size f0 a0 cap0 hlen w0.max (w.alloc (.cells #[.int .i64 f0.kind, .int .i64 f0.chan, .slice a0 f0.data.length cap0] 48)) (by simp) (w0.dat.below hbel))
  have HBLK := Lib.hid (heap_alloc_new w (.cells #[.int .i64 f0.kind, .int .i64 f0.chan, .slice a0 f0.data.length cap0] 48))
  clear hbel w0
  go_enter Try.func12, Try.ntmps12
  go_wp2_with fail
  refine HPUT.out.mono ?_
  rintro e w1 ⟨hb1, h⟩
  have HB1 := Lib.hid (HBEL.out.trans (hb1.mono HBEL.out.size))
  have hblk := (hb1.block _ (by simp)).trans HBLK.out
  obtain ⟨c0, c1, c2⟩ := cells3 hblk
  clear hb1 hblk HPUT HBLK HBEL
  rcases h with ⟨hno, rfl⟩ | ⟨hm, v, rfl, hbuf⟩
  · clear hno
    go_wp2_with fail
    refine (told_any _).mono ?_
    rintro e w2 ⟨rfl, hb2⟩
    have HB2 := Lib.hid (HB1.out.trans (hb2.mono HB1.out.size))
    clear hb2
    go_wp2_with fail
    go_ret
    exact ⟨rfl, HB2.out⟩
  have hpl := putF_length f0
  obtain ⟨gb, cb, rfl, hgb, hbb⟩ := hbuf.bytes1 (by omega)
  rw [hpl]
  have HBUF := Lib.hid hbb
  have HM := Lib.hid hm
  have HPL := Lib.hid hpl
  clear hbuf hbb hm hpl
  by_cases h200 : (f0.data.length : Int) ≤ 200
  rotate_left
  · go_wp2_with fail
    refine (told_any _).mono ?_
    rintro e w2 ⟨rfl, hb2⟩
    have HB2 := Lib.hid (HB1.out.trans (hb2.mono HB1.out.size))
    clear hb2
    go_wp2_with fail
    go_ret
    exact ⟨rfl, HB2.out⟩
  obtain ⟨n, hn⟩ : ∃ n, n = f0.data.length := ⟨_, rfl⟩
  rw [← hn] at h200 c2 ⊢
  have HN := Lib.hid hn
  have hL0 : 0 < (putF f0).length := by have := HPL.out; omega
  have hL1 : (putF f0).length ≤ 100000 := by have := HPL.out; omega
  have hLn : n + 8 = (putF f0).length := by have := HPL.out; omega
  have HL := Lib.hid hLn
  clear hn hLn
  have hi7 : n + 7 < (putF f0).length := by have := HL.out; omega
  go_wp2_with (at_builtin; refine put_dup (w := w1) (l := putF f0) rfl (.tmp 39) (.tmp 40) rfl hL0 hL1 HBUF.out rfl rfl HL.out rfl ?_; intro g2 cap2 w2 hg2 hbuf2 hb2; have hb1' := buf_row (by rw [HL.out] at hbuf2; exact hbuf2) hL0; have hc2 := hb1'.cell hi7; have hf2 := hb1'.frozen (n + 7); have HBUF2 := Lib.hid hb1'; have HG2 := Lib.hid hg2; have HB2 := Lib.hid hb2; clear hg2 hbuf2 hb2 hb1')
  have hset : Bytes1 (w2.setCell ⟨g2, n + 7, none⟩ (.int .u8 c.toNat)) g2 cap2 (bodyF f0 ++ [c]) := by
    have := HBUF2.out.set (n + 7) c
    rwa [putF_set f0 c (by rw [HN.out])] at this
  have hb12 : Below w1.heap.size w1 (w2.setCell ⟨g2, n + 7, none⟩ (.int .u8 c.toNat)) := HB2.out.setCell HG2.out _
  have hnx := next_any (B := (w2.setCell ⟨g2, n + 7, none⟩ (.int .u8 c.toNat)).heap.size) (some ⟨g2, 0, none⟩) cap2 (bodyF f0 ++ [c]) hset.len hset.max _ (Nat.le_refl _) hset.at
  rw [show (bodyF f0 ++ [c]).length = n + 8 by rw [List.length_append, bodyF_length, ← HN.out]; rfl] at hnx
  refine hnx.mono ?_
  clear hnx
  intro e w3 h
  obtain ⟨hb3, k3, ch3, a3, d3, cp3, r3, code, rfl, hcode⟩ : Below (w2.setCell ⟨g2, n + 7, none⟩ (.int .u8 c.toNat)).heap.size (w2.setCell ⟨g2, n + 7, none⟩ (.int .u8 c.toNat)) w3 ∧ ∃ (k ch : Int) (a : Option Addr) (d cp : Nat) (r code : Int), e = .returned (.tuple #[.agg #[.int .i64 k, .int .i64 ch, .slice a d cp], .int .i64 r, .int .i64 code]) ∧ ((c = 206 ∧ code = 0) ∨ (¬ c = 206 ∧ code = 501 ∧ r = 0)) := by
    have hl := nextP_last HM.out c
    by_cases hc : c = 206
    · rw [if_pos hc] at hl
      obtain ⟨hb, a, cp, he⟩ := nextR_got h hl
      exact ⟨hb, _, _, a, _, cp, _, _, he, .inl ⟨hc, rfl⟩⟩
    · rw [if_neg hc] at hl
      obtain ⟨hb, he⟩ := nextR_never h hl
      exact ⟨hb, _, _, none, 0, 0, _, _, he, .inr ⟨hc, rfl, rfl⟩⟩
  have hb13 := hb12.trans (hb3.mono hb12.size)
  have hb14 : Below w1.heap.size w1 (w3.alloc (.cells #[.int .i64 k3, .int .i64 ch3, .slice a3 d3 cp3] 48)) := hb13.alloc hb13.size _
  have HCODE := Lib.hid hcode
  have HB4 := Lib.hid (HB1.out.trans (hb14.mono HB1.out.size))
  have HBUF4 := Lib.hid ((HBUF.out.below hb14).takes 7)
  have hl7 : ((putF f0).take 7).length = 7 := by rw [List.length_take]; omega
  have HL7 := Lib.hid hl7.symm
  have hy0 : 0 < ((putF f0).take 7).length := by omega
  have hy1 : ((putF f0).take 7).length ≤ 100000 := by omega
  have hy3 : 3 < ((putF f0).take 7).length := by omega
  have hcb8 : (8 : Int) ≤ cb := by have := HBUF.out.len; omega
  have hcbm : cb ≤ 9223372036854775807 := by have := HBUF.out.max; unfold maxLen at this; omega
  clear h hset hb12 hb3 hb13 hb14 hcode hc2 hf2 HBUF2 HG2 HB2 HB1 HBUF hl7 c0 c1 c2
  go_wp2_with (at_builtin; refine put_dup (w := w3.alloc (.cells #[.int .i64 k3, .int .i64 ch3, .slice a3 d3 cp3] 48)) (l := (putF f0).take 7) (H := w3.heap.size + 1) rfl (.tmp 54) (.tmp 56) rfl hy0 hy1 HBUF4.out (by simp) rfl HL7.out rfl ?_; intro g5 cap5 w5 hg5 hbuf5 hb5; have hb5' := buf_row (by rw [HL7.out] at hbuf5; exact hbuf5) hy0; have hc5 := hb5'.cell hy3; have hf5 := hb5'.frozen 3; have HBUF5 := Lib.hid hb5'; have HG5 := Lib.hid hg5; have HB5 := Lib.hid hb5; clear hg5 hbuf5 hb5 hb5')
  have hset : Bytes1 (w5.setCell ⟨g5, 3, none⟩ (.int .u8 1)) g5 cap5 (((putF f0).take 7).set 3 1) := HBUF5.out.set 3 1
  have hb45 := HB4.out.trans (((HB5.out.setCell (p := ⟨g5, 3, none⟩) HG5.out (.int .u8 1))).mono HB4.out.size)
  have hnx := next_any (B := (w5.setCell ⟨g5, 3, none⟩ (.int .u8 1)).heap.size) (some ⟨g5, 0, none⟩) cap5 (((putF f0).take 7).set 3 1) hset.len hset.max _ (Nat.le_refl _) hset.at
  rw [show (((putF f0).take 7).set 3 1).length = 7 by rw [List.length_set, ← HL7.out]] at hnx
  refine hnx.mono ?_
  clear hnx
  intro e w6 h
  obtain ⟨hb6, rfl⟩ := nextR_never h (nextP_wide HM.out)
  have HB6 := Lib.hid (hb45.trans (hb6.mono hb45.size))
  clear h hb6 hb45 hset hc5 hf5 HBUF5 HG5 HB5 HB4 HBUF4
  go_wp2_with fail
  have hb7 : Below w.heap.size w ((w6.alloc (.cells #[.int .i64 0, .int .i64 0, .slice none 0 0] 48)).alloc (.cells #[.int .u8 c.toNat] 5)) := (HB6.out.alloc HB6.out.size _).alloc (by have := HB6.out.size; simp; omega) _
  have hz : BytesAt (w6.heap.size + 2) ((w6.alloc (.cells #[.int .i64 0, .int .i64 0, .slice none 0 0] 48)).alloc (.cells #[.int .u8 c.toNat] 5)) (some ⟨w6.heap.size + 1, 0, none⟩) [c] := by
    intro _
    refine ⟨w6.heap.size + 1, 0, rfl, by omega, fun i hi => ?_⟩
    simp only [List.length_cons, List.length_nil] at hi
    obtain rfl : i = 0 := by omega
    have := heap_alloc_new (w6.alloc (.cells #[.int .i64 0, .int .i64 0, .slice none 0 0] 48)) (.cells #[.int .u8 c.toNat] 5)
    have e1 : (w6.alloc (.cells #[.int .i64 0, .int .i64 0, .slice none 0 0] 48)).heap.size = w6.heap.size + 1 := by simp
    rw [e1] at this
    rw [cell_of_row _ _ _ _ _ _ this]
    rfl
  have hnx := next_any (some ⟨w6.heap.size + 1, 0, none⟩) 1 [c] (by simp) (by decide) _ (by simp) hz
  refine hnx.mono ?_
  clear hnx hz
  intro e w7 h
  by_cases hk : KindOk c.toNat
  · obtain ⟨hb8, rfl⟩ := nextR_cut h (nextP_one hk)
    have HB8 := Lib.hid (hb7.trans (hb8.mono hb7.size))
    have hc206 : ¬ c = 206 := by
      rintro rfl
      rw [kind_byte] at hk
      revert hk
      decide
    obtain ⟨rfl, rfl⟩ : code = 501 ∧ r3 = 0 := by
      rcases HCODE.out with ⟨h, _⟩ | ⟨_, h⟩
      · exact absurd h hc206
      · exact h
    rw [kind_byte] at hk
    clear h hb8 hb7 HB6 HCODE hc206
    rcases hk with hk | hk | hk | hk
    · obtain rfl : c = 1 := UInt8.toNat_inj.1 (by rw [hk]; rfl)
      clear hk
      go_wp2_with fail
      refine (told_any _).mono ?_
      rintro e w9 ⟨rfl, hb9⟩
      have HB9 := Lib.hid ((HB8.out.alloc HB8.out.size _).trans (hb9.mono (by have := HB8.out.size; simp; omega)))
      clear hb9
      go_wp2_with fail
      go_ret
      exact ⟨rfl, HB9.out⟩
    · obtain rfl : c = 2 := UInt8.toNat_inj.1 (by rw [hk]; rfl)
      clear hk
      go_wp2_with fail
      refine (told_any _).mono ?_
      rintro e w9 ⟨rfl, hb9⟩
      have HB9 := Lib.hid ((HB8.out.alloc HB8.out.size _).trans (hb9.mono (by have := HB8.out.size; simp; omega)))
      clear hb9
      go_wp2_with fail
      go_ret
      exact ⟨rfl, HB9.out⟩
    · obtain rfl : c = 3 := UInt8.toNat_inj.1 (by rw [hk]; rfl)
      clear hk
      go_wp2_with fail
      refine (told_any _).mono ?_
      rintro e w9 ⟨rfl, hb9⟩
      have HB9 := Lib.hid ((HB8.out.alloc HB8.out.size _).trans (hb9.mono (by have := HB8.out.size; simp; omega)))
      clear hb9
      go_wp2_with fail
      go_ret
      exact ⟨rfl, HB9.out⟩
    · obtain rfl : c = 8 := UInt8.toNat_inj.1 (by rw [hk]; rfl)
      clear hk
      go_wp2_with fail
      refine (told_any _).mono ?_
      rintro e w9 ⟨rfl, hb9⟩
      have HB9 := Lib.hid ((HB8.out.alloc HB8.out.size _).trans (hb9.mono (by have := HB8.out.size; simp; omega)))
      clear hb9
      go_wp2_with fail
      go_ret
      exact ⟨rfl, HB9.out⟩
  · obtain ⟨hb8, rfl⟩ := nextR_never h (nextP_kind hk)
    have HB8 := Lib.hid (hb7.trans (hb8.mono hb7.size))
    clear h hb8 hb7 HB6
    rw [kind_byte] at hk
    rcases HCODE.out with ⟨rfl, rfl⟩ | ⟨hne, rfl, rfl⟩
    · clear HCODE hk
      go_wp2_with fail
      refine (told_any _).mono ?_
      rintro e w9 ⟨rfl, hb9⟩
      have HB9 := Lib.hid ((HB8.out.alloc HB8.out.size _).trans (hb9.mono (by have := HB8.out.size; simp; omega)))
      clear hb9
      go_wp2_with fail
      go_ret
      exact ⟨rfl, HB9.out⟩
    · have n1 : ¬ (c.toNat : Int) = 1 := by omega
      have n2 : ¬ (c.toNat : Int) = 2 := by omega
      have n3 : ¬ (c.toNat : Int) = 3 := by omega
      have n8 : ¬ (c.toNat : Int) = 8 := by omega
      have n206 : ¬ (c.toNat : Int) = 206 := fun e => hne (UInt8.toNat_inj.1 (by show c.toNat = 206; omega))
      have b1 : ((c.toNat : Int) == 1) = false := by rw [beq_eq_false_iff_ne]; exact n1
      have b2 : ((c.toNat : Int) == 2) = false := by rw [beq_eq_false_iff_ne]; exact n2
      have b3 : ((c.toNat : Int) == 3) = false := by rw [beq_eq_false_iff_ne]; exact n3
      have b8 : ((c.toNat : Int) == 8) = false := by rw [beq_eq_false_iff_ne]; exact n8
      have b206 : ((c.toNat : Int) == 206) = false := by rw [beq_eq_false_iff_ne]; exact n206
      clear HCODE hk hne n1 n2 n3 n8 n206
      go_wp2_with fail
      refine (told_any _).mono ?_
      rintro e w9 ⟨rfl, hb9⟩
      have HB9 := Lib.hid ((HB8.out.alloc HB8.out.size _).trans (hb9.mono (by have := HB8.out.size; simp; omega)))
      clear hb9
      go_wp2_with fail
      go_ret
      exact ⟨by first | rfl | (simp [*]; done), HB9.out⟩

end Go.Proofs.Ytpibbgencojbgaa
