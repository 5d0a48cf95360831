/-
  The library's IndexRune at a star and a cross, for runes that are neither.
  The library's ContainsAny at a star and a cross, of any text: short ones are gone over rune by rune.
  topic.Words, walked.
-/
import Derived.Test.YtiobcgolcoocnaaGreatDoorTCut
import Derived.Test.YtiobcgolcoocnaaGreatDoorUnroll
import Derived.Laws.RangeAny
import Derived.Laws.Runes
import Derived.Lib.OthersKept
import Derived.Lib.IndexAny
import Derived.Deep.LoopGhost
import Derived.Test.YtiobcgolcoocnaaGreatDoorScope

namespace Go.Proofs.YtiobcgolcoocnaaGreatDoor.Top
open Go.RowKit
set_option linter.unusedVariables false

theorem two_bytes {E : ByteArray} (h : E.size = 2) : ∃ a b, E = ⟨#[a, b]⟩ := by
  obtain ⟨⟨l⟩⟩ := E
  match l, h with
  | [a, b], _ => exact ⟨a, b, rfl⟩
theorem idx_none (b : UInt8) (w : World) : Calls Tryz.prog 123 #[.string ⟨#[]⟩, .int .u8 b.toNat] w fun e w' => e = .returned (.int .i64 (-1)) ∧ w' = w := by
  exact Tryz.strings_IndexByte ⟨#[]⟩ b.toNat w
set_option maxRecDepth 100000 in
set_option maxHeartbeats 2000000 in
theorem rune_none (r : Nat) (h1 : 128 ≤ r) (h2 : r ≤ 2147483647) (w : World) :
    Calls Tryz.prog 115 #[.string ⟨#[42, 35]⟩, .int .i32 r] w fun e w' => e = .returned (.int .i64 (-1)) ∧ Below w.heap.size w w' := by
  have c0 : (0 : Int) ≤ (r : Int) := by omega
  have c1 : ¬ (r : Int) < 128 := by omega
  go_enter Tryz.func115, Tryz.ntmps115
  by_cases h3 : (r : Int) = 65533
  · have c2 : ((r : Int) == 65533) = true := by rw [beq_iff_eq]; omega
    have n0 := fun ty => run_next_ascii (P := Tryz.prog) w ⟨#[42, 35]⟩ 0 ty (by decide) (by decide)
    have n1 := fun ty => run_next_ascii (P := Tryz.prog) w ⟨#[42, 35]⟩ 1 ty (by decide) (by decide)
    have n2 := fun ty => run_next_end (P := Tryz.prog) w ⟨#[42, 35]⟩ 2 ty (by decide)
    clear h3
    go_wp2_with fail
    refine wp_loop_rounds 5 ?_
    rw [rounds_succ]
    go_wp2_with fail
    rw [rounds_succ]
    go_wp2_with fail
    rw [rounds_succ]
    go_wp2_with fail
    go_ret
    exact ⟨rfl, (Below.refl _ _).alloc (Nat.le_refl _) _⟩
  · have c2 : ((r : Int) == 65533) = false := by rw [beq_eq_false_iff_ne]; omega
    by_cases hv : Utf8.valid (r : Int) = true
    · obtain ⟨e1, e2, e3⟩ := encode_facts (r : Int) hv (by omega)
      have hv' : Lib.validRune (r : Int) = true := by
        rw [validRune_eq] at hv
        exact hv
      have hcv := fun wx => run_convert_int_string (P := Tryz.prog) wx 21 9 .i32 (r : Int) (by kernel_rfl) Tryz.underlying9
      go_wp2_with (go_at_call 124; refine (Tryz.utf8_ValidRune _ _).mono ?_; rintro e w' ⟨rfl, hw⟩; subst hw; rw [hv'])
      clear hcv
      generalize hE : Utf8.encode (r : Int) = E at e1 e2 e3
      obtain ⟨x, hx⟩ : ∃ x, E[E.size - 1]'(by omega) = x := ⟨_, rfl⟩
      have hx1 : 128 ≤ x.toNat := by rw [← hx]; exact e3 _
      clear e3 hv hv'
      have hcv : ∀ wx, (convert 21 9 (.int .i32 (r : Int))).run Tryz.prog wx = .ok (.string E) wx := fun wx => by
        rw [run_convert_int_string (P := Tryz.prog) wx 21 9 .i32 (r : Int) (by kernel_rfl) Tryz.underlying9, hE]
      refine wp_scope_unroll 0 ?_
      go_wp2_with fail
      refine wp_loop_rounds 2 ?_
      rw [rounds_succ]
      by_cases hs : E.size = 2
      · obtain ⟨a, b, rfl⟩ : ∃ a b, E = ⟨#[a, b]⟩ := two_bytes hs
        obtain rfl : b = x := hx
        have hb : ((((⟨#[42, 35]⟩ : ByteArray)[1]'(by decide)).toNat : Int) != (((⟨#[a, b]⟩ : ByteArray)[1]'(by show 1 < 2; omega)).toNat : Int)) = true := by
          show ((35 : Int) != (b.toNat : Int)) = true
          rw [bne_iff_ne]; omega
        clear hs hE e1 e2 c0 c2 h3 h1 h2 c1
        go_wp2_with fail
        refine wp_scope_unroll 0 ?_
        go_wp2_with fail
        go_quiet (fail)
        obtain ⟨w2, hw2⟩ : ∃ w2, w2 = w'.drewN nq := ⟨_, rfl⟩
        have hb2 : Below w'.heap.size w' w2 := by rw [hw2]; exact Below.drewN (Below.refl _ _) _
        rw [← hw2]
        have HB2 := Lib.hid hb2
        clear hw2 hb2
        have hwr : IntKind.i64.wrap 2 = 2 := by decide
        have hsl : ∀ wx, (Instr.slice 9 (.string ⟨#[42, 35]⟩) (some (.int .i64 2)) none none).run Tryz.prog wx = .ok (.string ⟨#[]⟩) wx := fun wx => by
          rw [run_slice_string_from_if (P := Tryz.prog) wx 9 ⟨#[42, 35]⟩ .i64 2 Tryz.underlying9]
          rfl
        go_wp2_with fail
        go_quiet ((go_at_call 123; exact Calls.quiet_of_same (idx_none b _)))
        obtain ⟨w3, hw3⟩ : ∃ w3, w3 = w2.drewN nq := ⟨_, rfl⟩
        have hb3 : Below w'.heap.size w' w3 := by rw [hw3]; exact Below.drewN HB2.out _
        rw [← hw3]
        clear hw3
        go_wp2_with fail
        simp only [unroll, Exit.inBlock]
        go_ret
        exact ⟨rfl, hb3⟩
      · have hs3 : ¬ (E.size : Int) - 1 < 2 := by omega
        clear hx hs hE
        go_wp2_with fail
        simp only [unroll, Exit.inBlock]
        go_ret
        exact ⟨rfl, Below.refl _ _⟩
    · have hv' : Lib.validRune (r : Int) = false := by
        rw [validRune_eq] at hv
        exact Bool.eq_false_iff.2 hv
      go_wp2_with (go_at_call 124; refine (Tryz.utf8_ValidRune _ _).mono ?_; rintro e w' ⟨rfl, hw⟩; subst hw; rw [hv'])
      go_ret
      exact ⟨rfl, Below.refl _ _⟩
end Go.Proofs.YtiobcgolcoocnaaGreatDoor.Top

namespace Go.Proofs.YtiobcgolcoocnaaGreatDoor.Top
open Go.RowKit
set_option linter.unusedVariables false

theorem get_list (s : ByteArray) (i : Nat) (b : UInt8) (h : s.data.toList[i]? = some b) : (s.get! i).toNat = b.toNat := by
  obtain ⟨hi, he⟩ := List.getElem?_eq_some_iff.1 h
  have hi' : i < s.size := by simpa using hi
  have e := get_at s i hi'
  rw [Nat.add_zero] at e
  rw [e]
  exact congrArg UInt8.toNat he
/-- the bytes of a rune that is none of ASCII are none of ASCII. -/
theorem decode_wide (s : ByteArray) (pos : Nat) (h : pos < s.size) (ha : 128 ≤ (s[pos]'h).toNat) (j : Nat) (b : UInt8) (h1 : pos ≤ j) (h2 : j < pos + (Utf8.decode s pos).2) (hb : s.data.toList[j]? = some b) : 128 ≤ b.toNat := by
  have hg := get_list s j b hb
  have hn : ¬ (s[pos]'h).toNat < 128 := by omega
  have h0 := get_at s pos h
  rw [← hg]
  obtain ⟨k, rfl⟩ : ∃ k, j = pos + k := ⟨j - pos, by omega⟩
  have hk : k < (Utf8.decode s pos).2 := by omega
  clear h2 h1 hb hg
  simp only [Utf8.decode, h0, hn, if_false] at hk
  have hk0 : k = 0 → 128 ≤ (s.get! (pos + k)).toNat := by rintro rfl; rw [h0]; exact ha
  repeat' split at hk
  all_goals simp only [Bool.and_eq_true, decide_eq_true_eq, beq_iff_eq] at *
  all_goals first
    | exact hk0 (by omega)
    | (have hc : k = 0 ∨ k = 1 ∨ k = 2 ∨ k = 3 := by omega
       rcases hc with rfl | rfl | rfl | rfl
       · exact hk0 rfl
       all_goals omega)

theorem any_is : ∀ l : List UInt8, decide (0 ≤ Lib.indexAny l [42, 35]) = (l.contains 42 || l.contains 35)
  | [] => rfl
  | b :: l => by
    have ih := any_is l
    have hge := Lib.indexAny_ge [42, 35] l
    rw [Lib.indexAny]
    by_cases h1 : b = 42
    · subst h1; simp
    · by_cases h2 : b = 35
      · subst h2; simp
      · have e1 : (42 : UInt8) ≠ b := fun h => h1 h.symm
        have e2 : (35 : UInt8) ≠ b := fun h => h2 h.symm
        have hc : ([42, 35] : List UInt8).contains b = false := by simp [h1, h2]
        rw [hc, List.contains_cons, List.contains_cons]
        have e3 : ((42 : UInt8) == b) = false := by simpa using e1
        have e4 : ((35 : UInt8) == b) = false := by simpa using e2
        rw [e3, e4, Bool.false_or, Bool.false_or, ← ih]
        by_cases hm : Lib.indexAny l [42, 35] = -1
        · simp [hm]
        · have : (Lib.indexAny l [42, 35] == -1) = false := by rw [beq_eq_false_iff_ne]; exact hm
          simp only [this, Bool.false_eq_true, if_false]
          rw [Bool.eq_iff_iff, decide_eq_true_eq, decide_eq_true_eq]
          omega

def shortRel (s : ByteArray) (w : World) (g : Nat) (v9 v10 : Value) (wx : World) : Prop :=
  ∃ i : Nat, g = s.size - i ∧ wx.heap[w.heap.size]? = some (.stringIter s i) ∧ Below w.heap.size w wx ∧ Lib.NoAny s.data.toList [42, 35] i

set_option maxRecDepth 100000 in
set_option maxHeartbeats 4000000 in
theorem indexAny_short (s : ByteArray) (h8 : s.size ≤ 8) (w : World) :
    Calls Tryz.prog 111 #[.string s, .string ⟨#[42, 35]⟩] w fun e w' => e = .returned (.int .i64 (Lib.indexAny s.data.toList [42, 35])) ∧ Below w.heap.size w w' := by
  have h8z : decide ((8 : Int) < (s.size : Int)) = false := decide_eq_false (by omega)
  go_enter Tryz.func111, Tryz.ntmps111
  go_wp2_with (go_at_call 116; refine (Tryz.strings_shouldUseASCIISet _ _).mono ?_; rintro e w' ⟨rfl, hw⟩; rw [hw, h8z])
  go_loopg [9, 10] s.size (shortRel s w)
  case atStart => exact ⟨0, by omega, World.iter_heap w s 0, (Below.refl _ _).alloc (Nat.le_refl _) _, Lib.NoAny.zero _ _⟩
  case round =>
    obtain ⟨i, rfl, hit, hb, hno⟩ := hrel
    have HN := Lib.hid hno
    have HB := Lib.hid hb
    have HIT := Lib.hid hit
    clear hno hb hit
    by_cases hi : i < s.size
    · by_cases ha : (s[i]'hi).toNat < 128
      · have hnx := fun ty => Go.Lib.run_next_ascii_at (P := Tryz.prog) wr w.heap.size s i ty HIT.out hi ha
        obtain ⟨x, hx⟩ : ∃ x : UInt8, s[i]'hi = x := ⟨_, rfl⟩
        have hxl : s.data.toList[i]? = some x := by rw [← hx]; exact Lib.data_getElem? s i hi
        rw [hx] at hnx ha
        have Hx := Lib.hid hxl
        have HIT2 := Lib.hid (Go.Lib.iterAt_heap wr w.heap.size s i (i + 1) HIT.out)
        have HB2 := Lib.hid (Go.Lib.below_iterAt HB.out (Nat.le_refl _) s (i + 1))
        clear hxl hx
        generalize wr.iterAt w.heap.size s (i + 1) = w2 at *
        have hcon := Lib.contains_iff_indexByte [42, 35] x
        have hback : ((x.toNat : Int)).toNat.toUInt8 = x := by simp
        cases hin : ([42, 35] : List UInt8).contains x
        · rw [hin] at hcon
          have hlt : ¬ ((0 : Int) ≤ Lib.indexByte [42, 35] x) := of_decide_eq_false hcon.symm
          have HIN := Lib.hid hin
          clear hcon hin
          go_wp2_with (go_at_call 115; refine (Tryz.strings_IndexRune_ascii _ _ _ (by omega) (by omega)).mono ?_; rintro e w' ⟨rfl, hw⟩; rw [hw, hback])
          go_roundg (s.size - (i + 1))
          case measure => omega
          case rel => exact ⟨i + 1, rfl, HIT2.out, HB2.out, HN.out.succ Hx.out HIN.out⟩
        · rw [hin] at hcon
          have hge : (0 : Int) ≤ Lib.indexByte [42, 35] x := of_decide_eq_true hcon.symm
          have HIN := Lib.hid hin
          clear hcon hin
          go_wp2_with (go_at_call 115; refine (Tryz.strings_IndexRune_ascii _ _ _ (by omega) (by omega)).mono ?_; rintro e w' ⟨rfl, hw⟩; rw [hw, hback])
          go_ret
          exact ⟨by rw [Lib.indexAny_hit HN.out Hx.out HIN.out]; rfl, HB2.out⟩
      · have hge : 128 ≤ (s[i]'hi).toNat := by omega
        have hnx := fun ty => Go.Lib.run_next_any_at (P := Tryz.prog) wr w.heap.size s i ty HIT.out hi
        obtain ⟨d1, d2⟩ := decode_high s i hi hge
        have d3 := decode_le s i
        have hw := decode_wide s i hi hge
        generalize Utf8.decode s i = d at *
        obtain ⟨c, n⟩ := d
        simp only at d1 d2 d3 hw hnx
        have hnw : Lib.NoAny s.data.toList [42, 35] (i + n) := fun j b hj hb => by
          by_cases hji : j < i
          · exact HN.out j b hji hb
          · have := hw j b (by omega) hj hb
            have e1 : b ≠ 42 := fun e => by rw [e] at this; exact absurd this (by decide)
            have e2 : b ≠ 35 := fun e => by rw [e] at this; exact absurd this (by decide)
            simp [e1, e2]
        have HNW := Lib.hid hnw
        have HIT2 := Lib.hid (Go.Lib.iterAt_heap wr w.heap.size s i (i + n) HIT.out)
        have HB2 := Lib.hid (Go.Lib.below_iterAt HB.out (Nat.le_refl _) s (i + n))
        clear hw ha hge hnw
        generalize wr.iterAt w.heap.size s (i + n) = w2 at *
        go_wp2_with fail
        refine (rune_none c d1 d3 _).mono ?_
        rintro e w3 ⟨rfl, hb3⟩
        have HB3 := Lib.hid hb3
        clear hb3
        go_wp2_with fail
        go_roundg (s.size - (i + n))
        case measure => omega
        case rel => exact ⟨i + n, rfl, (HB3.out.block _ (Array.getElem?_eq_some_iff.1 HIT2.out).1).trans HIT2.out, HB2.out.trans (HB3.out.mono HB2.out.size), HNW.out⟩
    · have hnx := fun ty => Go.Lib.run_next_end_at (P := Tryz.prog) wr w.heap.size s i ty HIT.out hi
      go_wp2_with fail
      go_ret
      refine ⟨?_, HB.out⟩
      rw [Lib.indexAny_none (fun j b hj hb => HN.out j b (by rw [← Lib.size_eq] at hj; omega) hb)]
      rfl

theorem zero_set : ∀ w, (zeroValue 158).run Tryz.prog w = .ok (.agg (Array.replicate 256 (.bool false))) w := (zero_of_info (n := 256) (by kernel_rfl)).1
theorem contains_any (l : List UInt8) (hl : l.length ≤ 1000000) (w : World) :
    Calls Tryz.prog 101 #[.string ⟨l.toArray⟩, .string ⟨#[42, 35]⟩] w fun e w' => e = .returned (.bool (l.contains 42 || l.contains 35)) ∧ Below w.heap.size w w' := by
  have hsz : (⟨l.toArray⟩ : ByteArray).size = l.length := rfl
  have c : Calls Tryz.prog 111 #[.string ⟨l.toArray⟩, .string ⟨#[42, 35]⟩] w fun e w' => e = .returned (.int .i64 (Lib.indexAny l [42, 35])) ∧ Below w.heap.size w w' := by
    by_cases h8 : l.length ≤ 8
    · exact indexAny_short ⟨l.toArray⟩ h8 w
    · refine (Tryz.strings_IndexAny_long zero_set ⟨l.toArray⟩ ⟨#[42, 35]⟩ w (by decide) (by omega) (by omega) (by decide) ?_).mono fun e w' ⟨h1, h2⟩ => ⟨h1, ?_⟩
      · intro j b hb
        match j, hb with
        | 0, hb => cases hb; decide
        | 1, hb => cases hb; decide
      · rw [h2]
        exact ((Below.refl _ _).alloc (Nat.le_refl _) _).alloc (by simp) _
  rw [← any_is]
  go_enter Tryz.func101, Tryz.ntmps101
  go_wp2_with (go_at_call 111; refine c.mono ?_; rintro e w' ⟨rfl, hb⟩; have HB := Lib.hid hb; clear hb)
  go_ret
  exact ⟨rfl, HB.out⟩
end Go.Proofs.YtiobcgolcoocnaaGreatDoor.Top

namespace Go.Proofs.YtiobcgolcoocnaaGreatDoor.Top
open Go.RowKit
set_option linter.unusedVariables false

def WordsR (l : List UInt8) (w : World) (e : Ending) (w' : World) : Prop :=
  Below w.heap.size w w' ∧ ∃ a cap, e = .returned (.slice a (wds l).length cap) ∧ cap ≤ maxLen ∧ StrsAt w' a cap (wds l)

def wordsRel (l : List UInt8) (w : World) (m : Nat) (a' : Act) (w' : World) : Prop :=
  ∃ (r : List UInt8) (got : List (List UInt8)) (lv : Value) (u4 u5 u6 u7 u8 u9 u10 u11 u12 u13 u14 u15 u16 u17 u18 u19 u20 u21 u22 u23 u24 u25 : Value), a' = { tmps := #[.string ⟨r.toArray⟩, undef, .slice none 0 0, lv, u4, u5, u6, u7, u8, u9, u10, u11, u12, u13, u14, u15, u16, u17, u18, u19, u20, u21, u22, u23, u24, u25], defers := [] } ∧
    m = r.length ∧ l ≠ [] ∧ spl l = got ++ spl r ∧ got.length + r.length ≤ l.length ∧ Below w.heap.size w w' ∧ Own w' w.heap.size lv got

set_option maxRecDepth 100000 in
set_option maxHeartbeats 2000000 in
theorem words_any (l : List UInt8) (hl : l.length ≤ 1000000) (w : World) :
    Calls Tryz.prog 89 #[.string ⟨l.toArray⟩] w (WordsR l w) := by
  have hc0 : l.count 46 ≤ l.length := List.count_le_length
  have c4 : IntKind.i64.wrap ((l.count 46 : Int) + 1) = (l.count 46 : Int) + 1 := IntWalk.i64_in _ (by omega)
  go_enter Tryz.func89, Tryz.ntmps89
  go_wp2_with fail
  refine wp_scope_ghost 0 (wordsRel l w) rfl ?_ ?_
  · intro H hb'
    have HBK := Lib.hid hb'
    clear hb'
    by_cases h0 : l = []
    · subst h0
      go_wp2_with fail
      simp only [Exit.jump]
      go_ret
      exact ⟨Below.refl _ _, none, 0, rfl, by simp [maxLen], StrsAt.nil _ _ _⟩
    have HN := Lib.hid h0
    have hn : l.isEmpty = false := by simpa using h0
    clear h0
    obtain ⟨hmk0, hown⟩ := make_own w (l.count 46 + 1) (by omega)
    have hmk : (Instr.makeSlice 36 (.int .i64 0) (.int .i64 ((l.count 46 : Int) + 1))).run Tryz.prog w = .ok (.slice (some ⟨w.heap.size, 0, none⟩) 0 (l.count 46 + 1)) (w.alloc (.cells (madeCells #[.string ⟨#[]⟩] (l.count 46 + 1)) 9)) := hmk0
    clear hmk0
    have HOWN := Lib.hid hown
    clear hown
    go_wp2_with (go_at_call 95; refine (count_one _ _).mono ?_; rintro e w' ⟨rfl, rfl⟩)
    go_step3
    rename_i hK
    refine hK _ _ (HBK.out l.length _ _ ⟨l, [], .slice (some ⟨w.heap.size, 0, none⟩) 0 (l.count 46 + 1), ?_⟩)
    repeat apply Exists.intro
    exact ⟨rfl, rfl, HN.out, rfl, by simp, (Below.refl _ _).alloc (Nat.le_refl _) _, HOWN.out⟩
  · rintro m a' w' ⟨r, got, lv, u4, u5, u6, u7, u8, u9, u10, u11, u12, u13, u14, u15, u16, u17, u18, u19, u20, u21, u22, u23, u24, u25, rfl, rfl, hln, hsp, hle, hbel, hown⟩ H hH
    obtain ⟨la, lc, rfl⟩ := hown.form
    have HB := Lib.hid hbel
    have HOWN := Lib.hid hown
    have HSP := Lib.hid hsp
    have HH := Lib.hid hH
    have HLN := Lib.hid hln
    clear hbel hown hsp hH c4 hln
    have hr1 : r.length ≤ 1000000000 := by omega
    have hgl : got.length ≤ 1000000000 := by omega
    go_wp2_with fail
    refine (cut_one r hr1 _).mono ?_
    rintro e w1 ⟨hb1, h⟩
    have HB1 := Lib.hid hb1
    have hw1 : w.heap.size ≤ w1.heap.size := Nat.le_trans HB.out.size HB1.out.size
    have HOWN1 := Lib.hid (World.ownsRow.below1 HOWN.out HB1.out)
    have HBB := Lib.hid (HB.out.trans (HB1.out.mono HB.out.size))
    clear hb1
    rcases h with ⟨h1, rfl⟩ | ⟨a, b, h1, h2, rfl⟩
    · have hs1 := spl_none r h1
      have HS := Lib.hid (HSP.out.trans (by rw [hs1]))
      clear h1 hs1
      go_wp2_with (at_builtin; refine put_str r rfl (.tmp 19) (.tmp 21) rfl HOWN1.out hw1 hgl rfl _ rfl rfl ?_; intro g4 cap4 w4 hown4 hg4 hat4; have HOWN4 := Lib.hid hown4; have HG4 := Lib.hid hg4; clear hown4 hg4 hat4)
      simp only [Exit.jump]
      go_ret
      obtain ⟨a1, c1, he, hc1, hat⟩ := HOWN4.out.strs
      have hw : wds l = got ++ [r] := by
        rw [wds_of HLN.out, HS.out]
      refine ⟨Own.grown HBB.out HOWN1.out HG4.out hw1, a1, c1, ?_, hc1, ?_⟩
      · rw [hw, ← he]; simp
      · rw [hw]; exact hat
    · have hs1 := spl_at a b h2
      have HS := Lib.hid (HSP.out.trans (by rw [h1, hs1]))
      have hlb : r.length = a.length + 1 + b.length := by rw [h1]; simp; omega
      clear h1 h2 hs1
      go_wp2_with (at_builtin; refine put_str a rfl (.tmp 19) (.tmp 21) rfl HOWN1.out hw1 hgl rfl _ rfl rfl ?_; intro g4 cap4 w4 hown4 hg4 hat4; have HOWN4 := Lib.hid hown4; have HG4 := Lib.hid hg4; clear hown4 hg4 hat4)
      go_step3
      refine ⟨rfl, HH.out b.length _ _ (by omega) ⟨b, got ++ [a], .slice (some ⟨g4, 0, none⟩) (got.length + 1) cap4, ?_⟩⟩
      repeat apply Exists.intro
      exact ⟨rfl, rfl, HLN.out, by rw [HS.out]; simp, by simp; omega, Own.grown HBB.out HOWN1.out HG4.out hw1, HOWN4.out⟩
end Go.Proofs.YtiobcgolcoocnaaGreatDoor.Top
