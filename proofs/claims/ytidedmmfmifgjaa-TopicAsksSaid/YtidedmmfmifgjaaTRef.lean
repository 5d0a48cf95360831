/-
  The document's Words, mark, MayPattern, walked.
-/
import Derived.Test.YtidedmmfmifgjaaTMatch
import Derived.Deep.LoopGhost
namespace Go.Proofs.Ytidedmmfmifgjaa
open Go.RowKit
set_option linter.unusedVariables false

/-- what is done of a text's words: got; the others begin at 'from'. -/
structure Cuts (l : List UInt8) (got : List (List UInt8)) (fr i : Nat) : Prop where
  le : fr ≤ i
  top : i ≤ l.length
  none : 46 ∉ (l.drop fr).take (i - fr)
  all : spl l = got ++ spl (l.drop fr)
  few : got.length ≤ fr
theorem Cuts.start (l : List UInt8) : Cuts l [] 0 0 := ⟨Nat.le_refl _, Nat.zero_le _, by simp, rfl, Nat.le_refl _⟩
theorem Cuts.next {l : List UInt8} {got : List (List UInt8)} {fr i : Nat} (h : Cuts l got fr i) (hi : i < l.length) (hc : l[i] ≠ 46) : Cuts l got fr (i + 1) := by
  refine ⟨by have := h.le; omega, by omega, ?_, h.all, h.few⟩
  have hle := h.le
  rw [show i + 1 - fr = (i - fr) + 1 by omega, List.take_succ_eq_append_getElem (by rw [List.length_drop]; omega)]
  intro hm
  rcases List.mem_append.1 hm with hm | hm
  · exact h.none hm
  · simp only [List.mem_singleton, List.getElem_drop] at hm
    exact hc (by rw [hm]; congr 1; omega)
theorem Cuts.cut {l : List UInt8} {got : List (List UInt8)} {fr i : Nat} (h : Cuts l got fr i) (hi : i < l.length) (hc : l[i] = 46) : Cuts l (got ++ [(l.drop fr).take (i - fr)]) (i + 1) (i + 1) := by
  have hle := h.le
  refine ⟨Nat.le_refl _, by omega, by simp, ?_, by rw [List.length_append, List.length_singleton]; have := h.few; omega⟩
  rw [h.all]
  have e : l.drop fr = (l.drop fr).take (i - fr) ++ 46 :: l.drop (i + 1) := by
    conv => lhs; rw [← List.take_append_drop (i - fr) (l.drop fr), List.drop_drop, show fr + (i - fr) = i by omega, List.drop_eq_getElem_cons hi, hc]
  conv => lhs; rw [e]
  rw [spl_at _ _ h.none]
  simp
theorem Cuts.last {l : List UInt8} {got : List (List UInt8)} {fr : Nat} (h : Cuts l got fr l.length) (hn : l ≠ []) : wds l = got ++ [(l.drop fr).take (l.length - fr)] := by
  have e : (l.drop fr).take (l.length - fr) = l.drop fr := List.take_of_length_le (by simp)
  have hnone := h.none
  rw [e] at hnone ⊢
  rw [wds_of hn, h.all, spl_none _ hnone]

theorem slice_list (l : List UInt8) (i j : Nat) (hij : i ≤ j) (hj : j ≤ l.length) (w : World) : (Instr.slice 9 (.string ⟨l.toArray⟩) (some (.int .i64 i)) (some (.int .i64 j)) none).run Try.prog w = .ok (.string ⟨((l.drop i).take (j - i)).toArray⟩) w := by
  rw [run_slice_string (P := Try.prog) (w := w) 9 ⟨l.toArray⟩ .i64 .i64 i j Try.underlying9 (by omega) (by omega) (by show (j : Int) ≤ (l.length : Int); omega)]
  show Result.ok (Value.string ((⟨l.toArray⟩ : ByteArray).extract i j)) w = _
  rw [list_ext]
def rwordsRel (l : List UInt8) (w : World) (n : Nat) (v3 v4 v5 : Value) (wr : World) : Prop :=
  ∃ (got : List (List UInt8)) (fr i : Nat), n = l.length + 1 - i ∧ v4 = .int .i64 fr ∧ v5 = .int .i64 i ∧ Below w.heap.size w wr ∧ Own wr w.heap.size v3 got ∧ ((i ≤ l.length ∧ Cuts l got fr i) ∨ (i = l.length + 1 ∧ wds l = got))

set_option maxRecDepth 100000 in
set_option maxHeartbeats 2000000 in
theorem rwords_any (l : List UInt8) (hl : l.length ≤ 1000000) (w : World) :
    Calls Try.prog 10 #[.string ⟨l.toArray⟩] w (WordsR l w) := by
  have hsz : (⟨l.toArray⟩ : ByteArray).size = l.length := rfl
  by_cases h0 : l = []
  · subst h0
    go_enter Try.func10, Try.ntmps10
    go_wp2_with fail
    go_loopg [3, 4, 5] 0 (fun n v3 v4 v5 wr => v3 = .slice none 0 0 ∧ v5 = .int .i64 0 ∧ w = wr)
    case atStart => exact ⟨rfl, rfl, rfl⟩
    case round =>
      obtain ⟨rfl, rfl, rfl⟩ := hrel
      go_wp2_with fail
      go_ret
      exact ⟨Below.refl _ _, none, 0, rfl, by simp [maxLen], StrsAt.nil _ _ _⟩
  have hn : l.isEmpty = false := by simpa using h0
  have HN := Lib.hid h0
  clear h0
  go_enter Try.func10, Try.ntmps10
  go_wp2_with fail
  go_loopg [3, 4, 5] (l.length + 1) (rwordsRel l w)
  case atStart => exact ⟨[], 0, 0, by omega, rfl, rfl, Below.refl _ _, Own.nil _ _, .inl ⟨Nat.zero_le _, Cuts.start l⟩⟩
  case round =>
    obtain ⟨got, fr, i, rfl, rfl, rfl, hb, hown, hcs⟩ := hrel
    obtain ⟨la, lc, rfl⟩ := hown.form
    have HB := Lib.hid hb
    have HOWN := Lib.hid hown
    have hwr := hb.size
    clear hb hown
    rcases hcs with ⟨hi, hcs⟩ | ⟨rfl, hw⟩
    · have HC := Lib.hid hcs
      have hfr := hcs.le
      have hgl : got.length ≤ 1000000000 := by have := hcs.few; omega
      have i1 : (i : Int) ≤ (l.length : Int) := by omega
      have i2 : IntKind.i64.wrap ((i : Int) + 1) = (i : Int) + 1 := IntWalk.i64_in _ (by omega)
      have i3 : (0 : Int) ≤ (fr : Int) := by omega
      have i4 : (fr : Int) ≤ (i : Int) := by omega
      clear hcs
      by_cases hlt : i < l.length
      · have i5 : ((i : Int) == (l.length : Int)) = false := by rw [beq_eq_false_iff_ne]; omega
        have i6 : (i : Int) < (l.length : Int) := by omega
        obtain ⟨c, hc⟩ : ∃ c, l[i] = c := ⟨_, rfl⟩
        have hc' : (⟨l.toArray⟩ : ByteArray)[i]'(by rw [hsz]; exact hlt) = c := hc
        have hsl := slice_list l fr i hfr hi
        have HCC := Lib.hid hc
        clear hc
        by_cases h46 : c = 46
        · subst h46
          go_wp2_with (at_builtin; refine put_str ((l.drop fr).take (i - fr)) rfl (.tmp 26) (.tmp 31) rfl HOWN.out hwr hgl rfl _ rfl rfl ?_; intro g4 cap4 w4 hown4 hg4 hat4; have HOWN4 := Lib.hid hown4; have HG4 := Lib.hid hg4; clear hown4 hg4 hat4)
          go_roundg (l.length + 1 - (i + 1))
          case measure => omega
          case rel => exact ⟨_, i + 1, i + 1, rfl, rfl, rfl, Own.grown HB.out HOWN.out HG4.out hwr, HOWN4.out, .inl ⟨by omega, HC.out.cut hlt HCC.out⟩⟩
        · have h46' : ((c.toNat : Int) == 46) = false := by
            rw [beq_eq_false_iff_ne]
            intro e
            exact h46 (UInt8.toNat_inj.1 (by show c.toNat = 46; omega))
          have H46 := Lib.hid h46
          clear h46
          go_wp2_with fail
          go_roundg (l.length + 1 - (i + 1))
          case measure => omega
          case rel => exact ⟨got, fr, i + 1, rfl, rfl, rfl, HB.out, HOWN.out, .inl ⟨by omega, HC.out.next hlt (by rw [HCC.out]; exact H46.out)⟩⟩
      · obtain rfl : i = l.length := by omega
        have hsl := slice_list l fr l.length hfr hi
        go_wp2_with (at_builtin; refine put_str ((l.drop fr).take (l.length - fr)) rfl (.tmp 26) (.tmp 31) rfl HOWN.out hwr hgl rfl _ rfl rfl ?_; intro g4 cap4 w4 hown4 hg4 hat4; have HOWN4 := Lib.hid hown4; have HG4 := Lib.hid hg4; clear hown4 hg4 hat4)
        go_roundg 0
        case measure => omega
        case rel => exact ⟨_, _, l.length + 1, by omega, rfl, rfl, Own.grown HB.out HOWN.out HG4.out hwr, HOWN4.out, .inr ⟨rfl, HC.out.last HN.out⟩⟩
    · have i1 : ¬ ((l.length + 1 : Nat) : Int) ≤ (l.length : Int) := by omega
      have HW := Lib.hid hw
      clear hw
      go_wp2_with fail
      go_ret
      obtain ⟨a1, c1, he, hc1, hat⟩ := HOWN.out.strs
      exact ⟨HB.out, a1, c1, by rw [HW.out, ← he]; rfl, hc1, by rw [HW.out]; exact hat⟩
end Go.Proofs.Ytidedmmfmifgjaa
