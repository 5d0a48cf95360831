/-
  told: what the program tells of a few.
-/
import Derived.Test.YtpibbgencojbgaaSame4
import Derived.Test.YtpibbgencojbgaaSeq4
namespace Go.Proofs.Ytpibbgencojbgaa
open Go.RowKit
set_option linter.unusedVariables false

theorem beats : allP 17 [8, 0, 0, 0, 0, 0, 0, 206, 8, 0, 0, 0, 0, 0, 0, 206] = ([beat, beat], 16, 0) := by
  have h := allP_puts [beat, beat] [] 17 (fun f hf => by
    have : f = beat := by simpa using hf
    rw [this]; exact beat_may) (by simp [beat_bytes])
  rw [List.flatMap_cons, List.flatMap_cons, List.flatMap_nil, beat_bytes, allP_nil] at h
  exact h
theorem beat_part : nextP [8, 0, 0, 0, 0] = .cut := by
  have h := nextP_cut beat_may (j := 5) (by rw [beat_bytes]; decide)
  rw [beat_bytes] at h
  exact h
theorem beat_next : nextP [8, 0, 0, 0, 0, 0, 0, 206] = .got beat 8 := by
  have h := nextP_put beat_may []
  rw [List.append_nil, beat_bytes] at h
  exact h
theorem nine : nextP [9] = .never := nextP_kind (show ¬ KindOk ((9 : UInt8).toNat : Nat) by unfold KindOk; decide)
theorem zero_not : ¬ MayF ⟨0, 0, []⟩ := fun h => by
  have := h.1
  revert this
  unfold KindOk
  decide

set_option maxRecDepth 100000 in
set_option maxHeartbeats 4000000 in
theorem told_any (w : World) : Calls Try.prog 28 #[] w fun e w' => e = .returned (.bool true) ∧ Below w.heap.size w w' := by
  go_enter Try.func28, Try.ntmps28
  go_wp2_with fail
  refine (put_any w.heap.size beat none 0 (by simp [beat]) (by decide) w (Nat.le_refl _) (fun h => by simp [beat] at h)).mono ?_
  rintro e w1 ⟨hb1, h⟩
  obtain ⟨v, rfl, hbuf⟩ : ∃ v, e = .returned (.tuple #[v, .int .i64 0]) ∧ Buf w1 w.heap.size v (putF beat) := by
    rcases h with ⟨h, _⟩ | ⟨_, h⟩
    · exact absurd beat_may h
    · exact h
  rw [beat_bytes] at hbuf
  obtain ⟨gb, cb, rfl, hgb, hbb⟩ := hbuf.bytes1 (by decide)
  have hcb : 8 ≤ cb := hbb.len
  have hcm := hbb.max
  unfold maxLen at hcm
  have HBB1 := Lib.hid hbb
  have HB1 := Lib.hid hb1
  clear h hbuf hbb hb1
  go_wp2_with fail
  refine (next_any (B := w1.heap.size) (some ⟨gb, 0, none⟩) cb [8, 0, 0, 0, 0, 0, 0, 206] HBB1.out.len HBB1.out.max w1 (Nat.le_refl _) HBB1.out.at).mono ?_
  rintro e w2 ⟨hb2, h⟩
  obtain ⟨fa, fc, rfl⟩ : ∃ fa fc, e = .returned (.tuple #[.agg #[.int .i64 8, .int .i64 0, .slice fa 0 fc], .int .i64 8, .int .i64 0]) := by
    rw [beat_next] at h
    rcases h with ⟨h, _⟩ | ⟨h, _⟩ | ⟨f, n, fa, fc, h, he, _⟩
    · cases h
    · cases h
    · cases h
      exact ⟨fa, fc, he⟩
  have hp : (w2.alloc (.cells #[.int .i64 8, .int .i64 0, .slice fa 0 fc] 48)).heap[w2.heap.size]? = some (.cells #[.int .i64 8, .int .i64 0, .slice fa 0 fc] 48 (0, 0)) := heap_alloc_new w2 _
  have hb2' : Below w1.heap.size w1 (w2.alloc (.cells #[.int .i64 8, .int .i64 0, .slice fa 0 fc] 48)) := hb2.alloc hb2.size _
  have HBB2 := Lib.hid (HBB1.out.below hb2')
  have HB2 := Lib.hid (HB1.out.trans (hb2'.mono HB1.out.size))
  have HP2 := Lib.hid hp
  clear h hb2 hb2' hp HBB1 HB1
  go_wp2_with fail
  generalize w2.alloc (.cells #[.int .i64 8, .int .i64 0, .slice fa 0 fc] 48) = x2 at *
  refine (next_any (B := x2.heap.size) (some ⟨gb, 0, none⟩) cb [8, 0, 0, 0, 0] (by simp; omega) HBB2.out.max x2 (Nat.le_refl _) (HBB2.out.at.take 5)).mono ?_
  rintro e w3 ⟨hb3, h⟩
  obtain rfl : e = .returned (.tuple #[.agg #[.int .i64 0, .int .i64 0, .slice none 0 0], .int .i64 0, .int .i64 3]) := by
    rw [beat_part] at h
    rcases h with ⟨_, h⟩ | ⟨h, _⟩ | ⟨f, n, fa, fc, h, he, _⟩
    · exact h
    · cases h
    · cases h
  have hb3' : Below x2.heap.size x2 (w3.alloc (.cells #[.int .i64 0, .int .i64 0, .slice none 0 0] 48)) := hb3.alloc hb3.size _
  have HBB3 := Lib.hid (HBB2.out.below hb3')
  have HB3 := Lib.hid (HB2.out.trans (hb3'.mono HB2.out.size))
  have HP3 := Lib.hid ((hb3'.block _ (Array.getElem?_eq_some_iff.1 HP2.out).1).trans HP2.out)
  clear h hb3 hb3' HBB2 HB2 HP2
  go_wp2_with fail
  have hs3 : (w3.alloc (.cells #[.int .i64 0, .int .i64 0, .slice none 0 0] 48)).heap.size = w3.heap.size + 1 := by simp
  generalize w3.alloc (.cells #[.int .i64 0, .int .i64 0, .slice none 0 0] 48) = x3 at *
  rw [← hs3]
  clear hs3
  have h9 : BytesAt (x3.heap.size + 1) (x3.alloc (.cells #[.int .u8 9] 5)) (some ⟨x3.heap.size, 0, none⟩) [9] := by
    intro _
    refine ⟨x3.heap.size, 0, rfl, by omega, fun i hi => ?_⟩
    simp only [List.length_cons, List.length_nil] at hi
    obtain rfl : i = 0 := by omega
    rw [cell_of_row _ _ _ _ _ _ (heap_alloc_new x3 _)]
    rfl
  have hb4 : Below x3.heap.size x3 (x3.alloc (.cells #[.int .u8 9] 5)) := (Below.refl _ _).alloc (Nat.le_refl _) _
  refine (next_any (some ⟨x3.heap.size, 0, none⟩) 1 [9] (by simp) (by decide) _ (by simp) h9).mono ?_
  rintro e w4 ⟨hb5, h⟩
  obtain rfl : e = .returned (.tuple #[.agg #[.int .i64 0, .int .i64 0, .slice none 0 0], .int .i64 0, .int .i64 501]) := by
    rw [nine] at h
    rcases h with ⟨h, _⟩ | ⟨_, h⟩ | ⟨f, n, fa, fc, h, he, _⟩
    · cases h
    · exact h
    · cases h
  have hb3' : Below x3.heap.size x3 (w4.alloc (.cells #[.int .i64 0, .int .i64 0, .slice none 0 0] 48)) := (hb4.trans (hb5.mono hb4.size)).alloc (Nat.le_trans hb4.size hb5.size) _
  have HBB4 := Lib.hid (HBB3.out.below hb3')
  have HB4 := Lib.hid (HB3.out.trans (hb3'.mono HB3.out.size))
  have HP4 := Lib.hid ((hb3'.block _ (Array.getElem?_eq_some_iff.1 HP3.out).1).trans HP3.out)
  clear h hb4 hb5 hb3' h9 HBB3 HB3 HP3
  go_wp2_with fail
  generalize w4.alloc (.cells #[.int .i64 0, .int .i64 0, .slice none 0 0] 48) = x4 at *
  refine (put_any x4.heap.size ⟨0, 0, []⟩ none 0 (by simp) (by decide) x4 (Nat.le_refl _) (fun h => by simp at h)).mono ?_
  rintro e w5 ⟨hb5, h⟩
  obtain rfl : e = .returned (.tuple #[.slice none 0 0, .int .i64 1]) := by
    rcases h with ⟨_, h⟩ | ⟨h, _⟩
    · exact h
    · exact absurd h zero_not
  have HBB5 := Lib.hid (HBB4.out.below hb5)
  have HB5 := Lib.hid (HB4.out.trans (hb5.mono HB4.out.size))
  have HP5 := Lib.hid ((hb5.block _ (Array.getElem?_eq_some_iff.1 HP4.out).1).trans HP4.out)
  clear h hb5 HBB4 HB4 HP4
  go_wp2_with (at_builtin; first
    | (refine put_dup (w := w5) (l := [8, 0, 0, 0, 0, 0, 0, 206]) rfl (.tmp 50) (.tmp 51) rfl (by decide) (by decide) HBB5.out rfl rfl rfl rfl ?_; intro g6 cap6 w6 hg6 hbuf6 hb6; have HG6 := Lib.hid hg6; have HBUF6 := Lib.hid hbuf6; have HBEL6 := Lib.hid hb6; clear hg6 hbuf6 hb6)
    | (refine put_bytes (w := w6) (l := [8, 0, 0, 0, 0, 0, 0, 206]) (m := [8, 0, 0, 0, 0, 0, 0, 206]) rfl (.tmp 52) (.tmp 53) rfl HBUF6.out HBEL6.out.size (HBB5.out.below HBEL6.out).at (by decide) rfl rfl rfl ?_; intro v7 w7 hb7 hon7; have HBUF7 := Lib.hid hb7; have HO7 := Lib.hid hon7; clear hb7 hon7))
  have hb57 : Below w5.heap.size w5 w7 := HBEL6.out.trans (HO7.out.below HBUF6.out HBEL6.out.size)
  obtain ⟨a7, c7, rfl, hl7, hm7, hat7⟩ := HBUF7.out.bytes
  refine (all_any (B := w7.heap.size) a7 c7 [8, 0, 0, 0, 0, 0, 0, 206, 8, 0, 0, 0, 0, 0, 0, 206] hl7 hm7 (by decide) w7 (Nat.le_refl _) hat7).mono ?_
  rintro e w8 ⟨hb8, a8, c8, he, hfr⟩
  replace he : e = .returned (.tuple #[.slice a8 (allP 17 [8, 0, 0, 0, 0, 0, 0, 206, 8, 0, 0, 0, 0, 0, 0, 206]).1.length c8, .int .i64 ((allP 17 [8, 0, 0, 0, 0, 0, 0, 206, 8, 0, 0, 0, 0, 0, 0, 206]).2.1 : Nat), .int .i64 (allP 17 [8, 0, 0, 0, 0, 0, 0, 206, 8, 0, 0, 0, 0, 0, 0, 206]).2.2]) := he
  rw [beats] at he
  replace he : e = .returned (.tuple #[.slice a8 2 c8, .int .i64 16, .int .i64 0]) := he
  subst he
  have hb58 := hb57.trans (hb8.mono hb57.size)
  have HB8 := Lib.hid (HB5.out.trans (hb58.mono HB5.out.size))
  have hcv := conv_str cb (HBB5.out.below hb58).at
  replace hcv : (convert 25 9 (.slice (some ⟨gb, 0, none⟩) 8 cb)).run Try.prog w8 = .ok (.string ⟨#[8, 0, 0, 0, 0, 0, 0, 206]⟩) w8 := hcv
  have hp8 := (hb58.block _ (Array.getElem?_eq_some_iff.1 HP5.out).1).trans HP5.out
  obtain ⟨p0, p1, p2⟩ := cells3 hp8
  clear hb57 hb8 hb58 hfr hl7 hm7 hat7 HO7 HBUF7 HBEL6 HBUF6 HG6 HBB5 HB5 HP5 hp8
  go_wp2_with fail
  refine (may_any 8 0 fa 0 fc w8).mono ?_
  rintro e w9 ⟨r, hr, rfl, hb9⟩
  obtain rfl : r = true := hr.2 beat_may
  have HB9 := Lib.hid (HB8.out.trans (hb9.mono HB8.out.size))
  clear hr hb9
  go_wp2_with fail
  go_ret
  exact ⟨rfl, HB9.out⟩

end Go.Proofs.Ytpibbgencojbgaa
