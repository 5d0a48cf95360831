/-
  What Put and Get of a call answer, in short.
-/
import Derived.Test.YtenpcadgelpbgaaMPut
import Derived.Test.YtenpcadgelpbgaaMGetM
namespace Go.Proofs.Ytenpcadgelpbgaa
open Go.RowKit
set_option linter.unusedVariables false

theorem putM_le {m : Me} (h : Good m) : (putM m).length ≤ 20000 := by
  obtain ⟨l, hl, _⟩ := h.may
  have h1 := (partsOf_some hl).1
  have h2 := encL_le h.few (l := l) (fun p _ => mayM_all h.may p)
  rw [putM_eq hl, List.length_append, headM_length]
  omega
/-- Put of a call that may be. -/
theorem put_good {m : Me} {w : World} {e : Ending} {w' : World} (hg : Good m) (h : PutMR m w e w') :
    Below w.heap.size w w' ∧ ∃ g cap, e = .returned (.tuple #[.slice (some ⟨g, 0, none⟩) (putM m).length cap, .int .i64 0]) ∧ w.heap.size ≤ g ∧ Bytes1 w' g cap (putM m) := by
  obtain ⟨hb, h⟩ := h
  refine ⟨hb, ?_⟩
  rcases h with ⟨h, _⟩ | ⟨_, h, _⟩ | ⟨_, v, h3, h4⟩
  · exact absurd hg.may h
  · have := hg.few; omega
  · obtain ⟨g, cap, rfl, hg2, hb1⟩ := h4.bytes1 (by have := putM_short m hg; omega)
    exact ⟨g, cap, h3, hg2, hb1⟩
/-- .. of one that may not. -/
theorem put_bad {m : Me} {w : World} {e : Ending} {w' : World} (hn : ¬ MayM m) (h : PutMR m w e w') : Below w.heap.size w w' ∧ e = .returned (.tuple #[.slice none 0 0, .int .i64 1]) := by
  obtain ⟨hb, h⟩ := h
  refine ⟨hb, ?_⟩
  rcases h with ⟨_, h⟩ | ⟨h, _⟩ | ⟨h, _⟩
  · exact h
  · exact absurd h hn
  · exact absurd h.may hn
/-- Put, in two. -/
theorem putM_two {m : Me} {w : World} {e : Ending} {w' : World} (h : PutMR m w e w') :
    Below w.heap.size w w' ∧ ((∃ c : Int, e = .returned (.tuple #[.slice none 0 0, .int .i64 c]) ∧ (c == 0) = false ∧ ¬ c = 0) ∨
      (Good m ∧ ∃ g cap, e = .returned (.tuple #[.slice (some ⟨g, 0, none⟩) (putM m).length cap, .int .i64 0]) ∧ w.heap.size ≤ g ∧ Bytes1 w' g cap (putM m))) := by
  have h0 := h
  obtain ⟨hb, h⟩ := h
  refine ⟨hb, ?_⟩
  rcases h with ⟨_, h⟩ | ⟨_, _, h⟩ | ⟨hg, _⟩
  · exact .inl ⟨1, h, by decide, by decide⟩
  · exact .inl ⟨502, h, by decide, by decide⟩
  · exact .inr ⟨hg, (put_good hg h0).2⟩
/-- Get of a call's bytes. -/
theorem get_good {m : Me} {w : World} {e : Ending} {w' : World} (hg : Good m) (h : GetMR (putM m) w e w') :
    Below w.heap.size w w' ∧ ∃ a cap bs, e = .returned (.tuple #[.agg (meC m a cap), .int .i64 0]) ∧ SlAt w' bs a cap m.args ∧ Own w' w.heap.size bs := by
  obtain ⟨hb, h⟩ := h
  refine ⟨hb, ?_⟩
  rcases h with ⟨_, _, h⟩ | ⟨_, _, h⟩ | ⟨m2, a, cap, bs, g1, g2, g3, g4, g5⟩
  · exact (h m hg rfl).elim
  · obtain ⟨pl, _, k, _⟩ := putM_head m hg
    exact (h pl k).elim
  · obtain rfl := putM_inj g1 hg g2
    exact ⟨a, cap, bs, g3, g4, g5⟩
/-- Get of what is no call's bytes, though its head is one's, or it is too short. -/
theorem get_syn {b : List UInt8} {w : World} {e : Ending} {w' : World} (hn : ∀ m, Good m → putM m = b → False) (hh : b.length < 4 ∨ ∃ pl, HeadOk b pl) (h : GetMR b w e w') :
    Below w.heap.size w w' ∧ e = .returned (.tuple #[.agg (meC (Me.of 0) none 0), .int .i64 502]) := by
  obtain ⟨hb, h⟩ := h
  refine ⟨hb, ?_⟩
  rcases h with ⟨h, _⟩ | ⟨_, h4, h⟩ | ⟨m2, a, cap, bs, g1, g2, g3, g4, g5⟩
  · exact h
  · rcases hh with hh | ⟨pl, hh⟩
    · omega
    · exact (h pl hh).elim
  · exact (hn m2 g1 g2).elim
/-- Get of four bytes that are no call's head. -/
theorem get_cmd {b : List UInt8} {w : World} {e : Ending} {w' : World} (h4 : 4 ≤ b.length) (hh : ∀ pl, ¬ HeadOk b pl) (h : GetMR b w e w') :
    Below w.heap.size w w' ∧ e = .returned (.tuple #[.agg (meC (Me.of 0) none 0), .int .i64 503]) := by
  obtain ⟨hb, h⟩ := h
  refine ⟨hb, ?_⟩
  rcases h with ⟨_, h, _⟩ | ⟨h, _⟩ | ⟨m2, a, cap, bs, g1, g2, g3, g4, g5⟩
  · rcases h with h | ⟨pl, h⟩
    · omega
    · exact (hh pl h).elim
  · exact h
  · obtain ⟨pl, _, k, _⟩ := putM_head m2 g1
    rw [g2] at k
    exact (hh pl k).elim

/-- bytes written out. -/
theorem lit_in {w : World} {g : Nat} {l : List UInt8} (h : w.heap[g]? = some (.cells (cellsOf l).toArray 5 (0, 0))) (hl : l.length ≤ 1000) : BytesIn w.heap.size w (.slice (some ⟨g, 0, none⟩) l.length l.length) l := by
  refine ⟨_, _, rfl, Nat.le_refl _, by unfold maxLen; omega, fun h0 => ⟨g, 0, rfl, (Array.getElem?_eq_some_iff.1 h).1, fun i hi => ?_⟩⟩
  rw [cell_of_row w _ _ _ _ _ h]
  simp [cellsOf, List.getElem?_eq_getElem hi]

end Go.Proofs.Ytenpcadgelpbgaa
