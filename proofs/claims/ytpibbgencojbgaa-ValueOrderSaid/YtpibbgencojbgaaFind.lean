/-
  Find: of a name that is not there; of the first item, where it has no items within.
-/
import Derived.Test.YtpibbgencojbgaaOwn
namespace Go.Proofs.Ytpibbgencojbgaa
open Go.RowKit
set_option linter.unusedVariables false

set_option maxRecDepth 100000 in
set_option maxHeartbeats 1000000 in
theorem find_not {a : Option Addr} {cap : Nat} {l : List It} (nm : ByteArray) (w : World) (hl : Tb w a cap l) (hn : ∀ y ∈ l, y.name ≠ nm) :
    Calls Try.prog 27 #[.slice a l.length cap, .string nm] w fun e w' => e = .returned (.agg #[.int .i64 0, .int .i64 0, .string ⟨#[]⟩, .slice none 0 0]) ∧ Below w.heap.size w w' := by
  have HL := Lib.hid hl
  have HN := Lib.hid hn
  clear hl hn
  go_enter Try.func27, Try.ntmps27
  go_wp2_with fail
  have hbA : Below w.heap.size w (w.alloc (.cells #[.int .i64 0, .int .i64 0, .string ⟨#[]⟩, .slice none 0 0] 24)) := (Below.refl _ _).alloc (Nat.le_refl _) _
  refine (index_any nm _ (HL.out.below hbA)).mono ?_
  rintro e w2 ⟨r, hr, rfl, rfl⟩
  have hr1 : r = -1 := by
    rcases hr with ⟨h, _⟩ | ⟨i, hi, _, hq, _⟩
    · exact h
    · exact absurd hq (HN.out _ (List.getElem_mem hi))
  subst hr1
  have HB := Lib.hid hbA
  clear hbA hr
  go_wp2_with fail
  refine bodyPost_ret (v := .agg #[.int .i64 0, .int .i64 0, .string ⟨#[]⟩, .slice none 0 0]) (by simp [results, Try.results27, go_sem, *]) rfl ?_
  refine ⟨rfl, ?_⟩
  first | exact HB.out | exact (((HB.out.setCell (by simp) _).setCell (by simp) _).setCell (by simp) _).setCell (by simp) _

set_option maxRecDepth 100000 in
set_option maxHeartbeats 1000000 in
theorem find_first {b o cap : Nat} {x : It} {r : List It} (w : World) (hl : Tb w (some ⟨b, o, none⟩) cap (x :: r)) (h4 : w.cell? ⟨b, o + 4, none⟩ = some (.slice none 0 0)) :
    Calls Try.prog 27 #[.slice (some ⟨b, o, none⟩) (x :: r).length cap, .string x.name] w fun e w' => e = .returned (.agg #[.int .i64 x.kind, .int .i64 x.n, .string x.s, .slice none 0 0]) ∧ Below w.heap.size w w' := by
  obtain ⟨b', o', a1, cap1, e1, _, hi, _⟩ := hl.get (i := 0) (by simp)
  obtain ⟨rfl, rfl⟩ : b = b' ∧ o = o' := by
    have := Option.some.inj e1
    cases this
    exact ⟨rfl, rfl⟩
  have hlen := hl.len
  unfold maxLen at hlen
  have HL := Lib.hid hl
  clear hl e1
  have c1 : w.cell? ⟨b, o + 1, none⟩ = some (.int .i64 x.kind) := by simpa using hi.c1
  have c2 : w.cell? ⟨b, o + 2, none⟩ = some (.int .i64 x.n) := by simpa using hi.c2
  have c3 : w.cell? ⟨b, o + 3, none⟩ = some (.string x.s) := by simpa using hi.c3
  have hbl := lt_of_cell h4
  clear hi
  go_enter Try.func27, Try.ntmps27
  go_wp2_with fail
  have hbA : Below w.heap.size w (w.alloc (.cells #[.int .i64 0, .int .i64 0, .string ⟨#[]⟩, .slice none 0 0] 24)) := (Below.refl _ _).alloc (Nat.le_refl _) _
  have hrow := heap_alloc_new w (.cells #[.int .i64 0, .int .i64 0, .string ⟨#[]⟩, .slice none 0 0] 24)
  refine (index_any x.name _ (HL.out.below hbA)).mono ?_
  rintro e w2 ⟨q, hr, rfl, rfl⟩
  have hr1 : q = 0 := by
    rcases hr with ⟨_, h⟩ | ⟨i, hi, e, hq, hb⟩
    · exact absurd rfl (h x (by simp))
    · rw [e]
      cases i with
      | zero => rfl
      | succ i => exact absurd rfl (hb x (by simp))
  subst hr1
  have d1 := (hbA.cell (p := ⟨b, o + 1, none⟩) hbl).trans c1
  have d2 := (hbA.cell (p := ⟨b, o + 2, none⟩) hbl).trans c2
  have d3 := (hbA.cell (p := ⟨b, o + 3, none⟩) hbl).trans c3
  have d4 := (hbA.cell (p := ⟨b, o + 4, none⟩) hbl).trans h4
  have HB := Lib.hid hbA
  have HR := Lib.hid hrow
  clear hbA hr hrow c1 c2 c3 h4 hbl
  generalize w.alloc (.cells #[.int .i64 0, .int .i64 0, .string ⟨#[]⟩, .slice none 0 0] 24) = w2 at *
  go_wp2_with fail
  refine (own_none x.kind x.n x.s w2).mono ?_
  rintro e w3 ⟨rfl, hb3⟩
  obtain ⟨⟨r0, r1, r2, r3⟩, f0, f1, f2, f3⟩ := cells4 ((hb3.block _ (Array.getElem?_eq_some_iff.1 HR.out).1).trans HR.out)
  have HB3 := Lib.hid (HB.out.trans (hb3.mono HB.out.size))
  clear hb3 d1 d2 d3 d4
  go_wp2_with fail
  refine bodyPost_ret (v := .agg #[.int .i64 x.kind, .int .i64 x.n, .string x.s, .slice none 0 0]) (by simp [results, Try.results27, go_sem, *]) rfl ?_
  exact ⟨rfl, (((HB3.out.setCell (Nat.le_refl _) _).setCell (Nat.le_refl _) _).setCell (Nat.le_refl _) _).setCell (Nat.le_refl _) _⟩

end Go.Proofs.Ytpibbgencojbgaa
