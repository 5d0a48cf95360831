/-
  slices.Clone of exchanges and of bindings; route.Declare, walked.
-/
import Derived.Test.YtlghphmehlmehaaDoorRtMayL
import Derived.Deep.QuietTactic
namespace Go.Proofs.YtlghphmehlmehaaDoor.Rt
open Go.RowKit Top
set_option linter.unusedVariables false

theorem rows_src {α : Type} {k : Nat} {f : α → List Value} (hk : ∀ x, (f x).length = k) (h0 : 0 < k) {w : World} {x : Addr} {cap : Nat} {l : List α} (h : RowsAt k f w (some x) cap l) :
    ∀ j u, (l.flatMap f)[j]? = some u → w.cell? (x.add j) = some u := by
  by_cases hl : 0 < l.length
  · obtain ⟨b, o, he, _⟩ := h.at' hl
    injection he with he
    subst he
    exact rows_news hk h0 hl h
  · obtain rfl : l = [] := List.eq_nil_of_length_eq_zero (by omega)
    intro j u hu
    simp at hu
theorem rows_none {α : Type} {k : Nat} {f : α → List Value} {w : World} {cap : Nat} {l : List α} (h : RowsAt k f w none cap l) : l = [] := by
  by_cases hl : 0 < l.length
  · obtain ⟨b, o, he, _⟩ := h.at' hl
    cases he
  · exact List.eq_nil_of_length_eq_zero (by omega)

set_option maxRecDepth 100000 in
set_option maxHeartbeats 400000 in
theorem cloneX_any (a : Option Addr) (cap : Nat) (l : List Ex) (hl9 : l.length ≤ 1000000) (w : World) (hat : XsAt w a cap l) :
    Calls Tryd.prog 26 #[.slice a l.length cap] w fun e w' => ∃ v, e = .returned v ∧ OwnX w' w.heap.size v l ∧ Below w.heap.size w w' := by
  cases a with
  | none =>
    obtain rfl := rows_none hat
    have hnil : (binOp .eql 26 (.slice none 0 cap) (.slice none 0 0)).run Tryd.prog w = .ok (.bool true) w := Lib.run_eql_slice_nil w 26 25 none 0 cap 0 0 Tryd.underlying26
    go_enter Tryd.func26, Tryd.ntmps26
    go_wp2_with fail
    go_ret
    exact ⟨_, rfl, OwnX.nil _ _, Below.refl _ _⟩
  | some x =>
    have hb0 : Below w.heap.size w (w.alloc (.cells #[] 25)) := (Below.refl _ _).alloc (Nat.le_refl _) _
    have HB0 := Lib.hid hb0
    have HAT := Lib.hid (hat.below hb0)
    have hown : OwnX (w.alloc (.cells #[] 25)) w.heap.size (.slice (some ⟨w.heap.size, 0, none⟩) 0 0) [] := World.ownsRow_made w #[] 0 (Nat.le_refl _) (by decide) (by simp)
    have HOWN := Lib.hid hown
    clear hat hb0 hown
    have hnil : (binOp .eql 26 (.slice (some x) l.length cap) (.slice none 0 0)).run Tryd.prog w = .ok (.bool false) w := Lib.run_eql_slice_nil w 26 25 (some x) l.length cap 0 0 Tryd.underlying26
    obtain ⟨i0, hi, hz0, hz1, hz2⟩ := info_parts ex_info
    go_enter Tryd.func26, Tryd.ntmps26
    go_wp2_with (at_builtin; refine wpList_append_own_at _ rfl (.tmp 5) (.tmp 6) 26 rfl w.heap.size 25 i0 _ 2 24 Tryd.underlying26 hi hz0 hz1 hz2 rfl (by decide) _ 0 [] rfl HOWN.out x l.length cap (l.flatMap exC) rfl (flats_length exC_len l) (rows_src exC_len (by decide) HAT.out) (exC_one l) (by unfold maxLen; omega) (by omega) HB0.out.size ?_; intro v2 w2 hb2 hg2 _ _; have HB2 := Lib.hid hb2; have HBEL2 := Lib.hid (OwnX.grown HB0.out HOWN.out hg2 HB0.out.size); clear hb2 hg2)
    go_ret
    refine ⟨_, rfl, ?_, HBEL2.out⟩
    have := HB2.out
    rw [Nat.zero_add] at this
    exact this

set_option maxRecDepth 100000 in
set_option maxHeartbeats 400000 in
theorem cloneB_any (a : Option Addr) (cap : Nat) (l : List Bd) (hl9 : l.length ≤ 1000000) (w : World) (hat : BsAt w a cap l) :
    Calls Tryd.prog 23 #[.slice a l.length cap] w fun e w' => ∃ v, e = .returned v ∧ OwnB w' w.heap.size v l ∧ Below w.heap.size w w' := by
  cases a with
  | none =>
    obtain rfl := rows_none hat
    have hnil : (binOp .eql 22 (.slice none 0 cap) (.slice none 0 0)).run Tryd.prog w = .ok (.bool true) w := Lib.run_eql_slice_nil w 22 28 none 0 cap 0 0 Tryd.underlying22
    go_enter Tryd.func23, Tryd.ntmps23
    go_wp2_with fail
    go_ret
    exact ⟨_, rfl, OwnB.nil _ _, Below.refl _ _⟩
  | some x =>
    have hb0 : Below w.heap.size w (w.alloc (.cells #[] 28)) := (Below.refl _ _).alloc (Nat.le_refl _) _
    have HB0 := Lib.hid hb0
    have HAT := Lib.hid (hat.below hb0)
    have hown : OwnB (w.alloc (.cells #[] 28)) w.heap.size (.slice (some ⟨w.heap.size, 0, none⟩) 0 0) [] := World.ownsRow_made w #[] 0 (Nat.le_refl _) (by decide) (by simp)
    have HOWN := Lib.hid hown
    clear hat hb0 hown
    have hnil : (binOp .eql 22 (.slice (some x) l.length cap) (.slice none 0 0)).run Tryd.prog w = .ok (.bool false) w := Lib.run_eql_slice_nil w 22 28 (some x) l.length cap 0 0 Tryd.underlying22
    obtain ⟨i0, hi, hz0, hz1, hz2⟩ := info_parts bd_info
    go_enter Tryd.func23, Tryd.ntmps23
    go_wp2_with (at_builtin; refine wpList_append_own_at _ rfl (.tmp 5) (.tmp 6) 22 rfl w.heap.size 28 i0 _ 4 56 Tryd.underlying22 hi hz0 hz1 hz2 rfl (by decide) _ 0 [] rfl HOWN.out x l.length cap (l.flatMap bdC) rfl (flats_length bdC_len l) (rows_src bdC_len (by decide) HAT.out) (bdC_one l) (by unfold maxLen; omega) (by omega) HB0.out.size ?_; intro v2 w2 hb2 hg2 _ _; have HB2 := Lib.hid hb2; have HBEL2 := Lib.hid (OwnB.grown HB0.out HOWN.out hg2 HB0.out.size); clear hb2 hg2)
    go_ret
    refine ⟨_, rfl, ?_, HBEL2.out⟩
    have := HB2.out
    rw [Nat.zero_add] at this
    exact this

end Go.Proofs.YtlghphmehlmehaaDoor.Rt
