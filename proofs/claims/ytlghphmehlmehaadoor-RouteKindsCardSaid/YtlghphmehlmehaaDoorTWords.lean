/-
  topic.Words, walked.
-/
import Derived.Test.YtlghphmehlmehaaDoorTCut
import Derived.Test.YtlghphmehlmehaaDoorScope
namespace Go.Proofs.YtlghphmehlmehaaDoor.Top
open Go.RowKit
set_option linter.unusedVariables false

def WordsR (l : List UInt8) (w : World) (e : Ending) (w' : World) : Prop :=
  Below w.heap.size w w' ∧ ∃ a cap, e = .returned (.slice a (wds l).length cap) ∧ cap ≤ maxLen ∧ StrsAt w' a cap (wds l)

def wordsRel (l : List UInt8) (w : World) (m : Nat) (a' : Act) (w' : World) : Prop :=
  ∃ (r : List UInt8) (got : List (List UInt8)) (lv : Value) (u4 u5 u6 u7 u8 u9 u10 u11 u12 u13 u14 u15 u16 u17 u18 u19 u20 u21 u22 u23 u24 u25 : Value), a' = { tmps := #[.string ⟨r.toArray⟩, undef, .slice none 0 0, lv, u4, u5, u6, u7, u8, u9, u10, u11, u12, u13, u14, u15, u16, u17, u18, u19, u20, u21, u22, u23, u24, u25], defers := [] } ∧
    m = r.length ∧ l ≠ [] ∧ spl l = got ++ spl r ∧ got.length + r.length ≤ l.length ∧ Below w.heap.size w w' ∧ Own w' w.heap.size lv got

set_option maxRecDepth 100000 in
set_option maxHeartbeats 2000000 in
theorem words_any (l : List UInt8) (hl : l.length ≤ 1000000) (w : World) :
    Calls Tryd.prog 22 #[.string ⟨l.toArray⟩] w (WordsR l w) := by
  have hc0 : l.count 46 ≤ l.length := List.count_le_length
  have c4 : IntKind.i64.wrap ((l.count 46 : Int) + 1) = (l.count 46 : Int) + 1 := IntWalk.i64_in _ (by omega)
  go_enter Tryd.func22, Tryd.ntmps22
  go_wp2_with fail
  refine wp_scope_ghost 0 (wordsRel l w) rfl ?_ ?_
  · intro H hb'
    have HBK := Lib.hid hb'
    clear hb'
    by_cases h0 : l = []
    · subst h0
      go_wp2_with fail
      simp only [Exit.jump]
      go_ret
      exact ⟨Below.refl _ _, none, 0, rfl, by simp [maxLen], StrsAt.nil _ _ _⟩
    have HN := Lib.hid h0
    have hn : l.isEmpty = false := by simpa using h0
    clear h0
    obtain ⟨hmk0, hown⟩ := make_own w (l.count 46 + 1) (by omega)
    have hmk : (Instr.makeSlice 31 (.int .i64 0) (.int .i64 ((l.count 46 : Int) + 1))).run Tryd.prog w = .ok (.slice (some ⟨w.heap.size, 0, none⟩) 0 (l.count 46 + 1)) (w.alloc (.cells (madeCells #[.string ⟨#[]⟩] (l.count 46 + 1)) 9)) := hmk0
    clear hmk0
    have HOWN := Lib.hid hown
    clear hown
    go_wp2_with (go_at_call 35; refine (count_one _ _).mono ?_; rintro e w' ⟨rfl, rfl⟩)
    go_step3
    rename_i hK
    refine hK _ _ (HBK.out l.length _ _ ⟨l, [], .slice (some ⟨w.heap.size, 0, none⟩) 0 (l.count 46 + 1), ?_⟩)
    repeat apply Exists.intro
    exact ⟨rfl, rfl, HN.out, rfl, by simp, (Below.refl _ _).alloc (Nat.le_refl _) _, HOWN.out⟩
  · rintro m a' w' ⟨r, got, lv, u4, u5, u6, u7, u8, u9, u10, u11, u12, u13, u14, u15, u16, u17, u18, u19, u20, u21, u22, u23, u24, u25, rfl, rfl, hln, hsp, hle, hbel, hown⟩ H hH
    obtain ⟨la, lc, rfl⟩ := hown.form
    have HB := Lib.hid hbel
    have HOWN := Lib.hid hown
    have HSP := Lib.hid hsp
    have HH := Lib.hid hH
    have HLN := Lib.hid hln
    clear hbel hown hsp hH c4 hln
    have hr1 : r.length ≤ 1000000000 := by omega
    have hgl : got.length ≤ 1000000000 := by omega
    go_wp2_with fail
    refine (cut_one r hr1 _).mono ?_
    rintro e w1 ⟨hb1, h⟩
    have HB1 := Lib.hid hb1
    have hw1 : w.heap.size ≤ w1.heap.size := Nat.le_trans HB.out.size HB1.out.size
    have HOWN1 := Lib.hid (World.ownsRow.below1 HOWN.out HB1.out)
    have HBB := Lib.hid (HB.out.trans (HB1.out.mono HB.out.size))
    clear hb1
    rcases h with ⟨h1, rfl⟩ | ⟨a, b, h1, h2, rfl⟩
    · have hs1 := spl_none r h1
      have HS := Lib.hid (HSP.out.trans (by rw [hs1]))
      clear h1 hs1
      go_wp2_with (at_builtin; refine put_str r rfl (.tmp 19) (.tmp 21) rfl HOWN1.out hw1 hgl rfl _ rfl rfl ?_; intro g4 cap4 w4 hown4 hg4 hat4; have HOWN4 := Lib.hid hown4; have HG4 := Lib.hid hg4; clear hown4 hg4 hat4)
      simp only [Exit.jump]
      go_ret
      obtain ⟨a1, c1, he, hc1, hat⟩ := HOWN4.out.strs
      have hw : wds l = got ++ [r] := by
        rw [wds_of HLN.out, HS.out]
      refine ⟨Own.grown HBB.out HOWN1.out HG4.out hw1, a1, c1, ?_, hc1, ?_⟩
      · rw [hw, ← he]; simp
      · rw [hw]; exact hat
    · have hs1 := spl_at a b h2
      have HS := Lib.hid (HSP.out.trans (by rw [h1, hs1]))
      have hlb : r.length = a.length + 1 + b.length := by rw [h1]; simp; omega
      clear h1 h2 hs1
      go_wp2_with (at_builtin; refine put_str a rfl (.tmp 19) (.tmp 21) rfl HOWN1.out hw1 hgl rfl _ rfl rfl ?_; intro g4 cap4 w4 hown4 hg4 hat4; have HOWN4 := Lib.hid hown4; have HG4 := Lib.hid hg4; clear hown4 hg4 hat4)
      go_step3
      refine ⟨rfl, HH.out b.length _ _ (by omega) ⟨b, got ++ [a], .slice (some ⟨g4, 0, none⟩) (got.length + 1) cap4, ?_⟩⟩
      repeat apply Exists.intro
      exact ⟨rfl, rfl, HLN.out, by rw [HS.out]; simp, by simp; omega, Own.grown HBB.out HOWN1.out HG4.out hw1, HOWN4.out⟩
end Go.Proofs.YtlghphmehlmehaaDoor.Top
