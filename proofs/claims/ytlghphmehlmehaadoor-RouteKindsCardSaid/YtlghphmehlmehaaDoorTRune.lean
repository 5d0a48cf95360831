/-
  The library's IndexRune at a star and a cross, for runes that are neither.
-/
import Derived.Test.YtlghphmehlmehaaDoorTCut
import Derived.Test.YtlghphmehlmehaaDoorUnroll
import Derived.Laws.RangeAny
import Derived.Laws.Runes
namespace Go.Proofs.YtlghphmehlmehaaDoor.Top
open Go.RowKit
set_option linter.unusedVariables false

theorem two_bytes {E : ByteArray} (h : E.size = 2) : ∃ a b, E = ⟨#[a, b]⟩ := by
  obtain ⟨⟨l⟩⟩ := E
  match l, h with
  | [a, b], _ => exact ⟨a, b, rfl⟩
theorem idx_none (b : UInt8) (w : World) : Calls Tryd.prog 62 #[.string ⟨#[]⟩, .int .u8 b.toNat] w fun e w' => e = .returned (.int .i64 (-1)) ∧ w' = w := by
  exact Tryd.strings_IndexByte ⟨#[]⟩ b.toNat w
set_option maxRecDepth 100000 in
set_option maxHeartbeats 2000000 in
theorem rune_none (r : Nat) (h1 : 128 ≤ r) (h2 : r ≤ 2147483647) (w : World) :
    Calls Tryd.prog 50 #[.string ⟨#[42, 35]⟩, .int .i32 r] w fun e w' => e = .returned (.int .i64 (-1)) ∧ Below w.heap.size w w' := by
  have c0 : (0 : Int) ≤ (r : Int) := by omega
  have c1 : ¬ (r : Int) < 128 := by omega
  go_enter Tryd.func50, Tryd.ntmps50
  by_cases h3 : (r : Int) = 65533
  · have c2 : ((r : Int) == 65533) = true := by rw [beq_iff_eq]; omega
    have n0 := fun ty => run_next_ascii (P := Tryd.prog) w ⟨#[42, 35]⟩ 0 ty (by decide) (by decide)
    have n1 := fun ty => run_next_ascii (P := Tryd.prog) w ⟨#[42, 35]⟩ 1 ty (by decide) (by decide)
    have n2 := fun ty => run_next_end (P := Tryd.prog) w ⟨#[42, 35]⟩ 2 ty (by decide)
    clear h3
    go_wp2_with fail
    refine wp_loop_rounds 5 ?_
    rw [rounds_succ]
    go_wp2_with fail
    rw [rounds_succ]
    go_wp2_with fail
    rw [rounds_succ]
    go_wp2_with fail
    go_ret
    exact ⟨rfl, (Below.refl _ _).alloc (Nat.le_refl _) _⟩
  · have c2 : ((r : Int) == 65533) = false := by rw [beq_eq_false_iff_ne]; omega
    by_cases hv : Utf8.valid (r : Int) = true
    · obtain ⟨e1, e2, e3⟩ := encode_facts (r : Int) hv (by omega)
      have hv' : Lib.validRune (r : Int) = true := by
        rw [validRune_eq] at hv
        exact hv
      have hcv := fun wx => run_convert_int_string (P := Tryd.prog) wx 21 9 .i32 (r : Int) (by kernel_rfl) Tryd.underlying9
      go_wp2_with (go_at_call 63; refine (Tryd.utf8_ValidRune _ _).mono ?_; rintro e w' ⟨rfl, hw⟩; subst hw; rw [hv'])
      clear hcv
      generalize hE : Utf8.encode (r : Int) = E at e1 e2 e3
      obtain ⟨x, hx⟩ : ∃ x, E[E.size - 1]'(by omega) = x := ⟨_, rfl⟩
      have hx1 : 128 ≤ x.toNat := by rw [← hx]; exact e3 _
      clear e3 hv hv'
      have hcv : ∀ wx, (convert 21 9 (.int .i32 (r : Int))).run Tryd.prog wx = .ok (.string E) wx := fun wx => by
        rw [run_convert_int_string (P := Tryd.prog) wx 21 9 .i32 (r : Int) (by kernel_rfl) Tryd.underlying9, hE]
      refine wp_scope_unroll 0 ?_
      go_wp2_with fail
      refine wp_loop_rounds 2 ?_
      rw [rounds_succ]
      by_cases hs : E.size = 2
      · obtain ⟨a, b, rfl⟩ : ∃ a b, E = ⟨#[a, b]⟩ := two_bytes hs
        obtain rfl : b = x := hx
        have hb : ((((⟨#[42, 35]⟩ : ByteArray)[1]'(by decide)).toNat : Int) != (((⟨#[a, b]⟩ : ByteArray)[1]'(by show 1 < 2; omega)).toNat : Int)) = true := by
          show ((35 : Int) != (b.toNat : Int)) = true
          rw [bne_iff_ne]; omega
        clear hs hE e1 e2 c0 c2 h3 h1 h2 c1
        go_wp2_with fail
        refine wp_scope_unroll 0 ?_
        go_wp2_with fail
        go_quiet (fail)
        obtain ⟨w2, hw2⟩ : ∃ w2, w2 = w'.drewN nq := ⟨_, rfl⟩
        have hb2 : Below w'.heap.size w' w2 := by rw [hw2]; exact Below.drewN (Below.refl _ _) _
        rw [← hw2]
        have HB2 := Lib.hid hb2
        clear hw2 hb2
        have hwr : IntKind.i64.wrap 2 = 2 := by decide
        have hsl : ∀ wx, (Instr.slice 9 (.string ⟨#[42, 35]⟩) (some (.int .i64 2)) none none).run Tryd.prog wx = .ok (.string ⟨#[]⟩) wx := fun wx => by
          rw [run_slice_string_from_if (P := Tryd.prog) wx 9 ⟨#[42, 35]⟩ .i64 2 Tryd.underlying9]
          rfl
        go_wp2_with fail
        go_quiet ((go_at_call 62; exact Calls.quiet_of_same (idx_none b _)))
        obtain ⟨w3, hw3⟩ : ∃ w3, w3 = w2.drewN nq := ⟨_, rfl⟩
        have hb3 : Below w'.heap.size w' w3 := by rw [hw3]; exact Below.drewN HB2.out _
        rw [← hw3]
        clear hw3
        go_wp2_with fail
        simp only [unroll, Exit.inBlock]
        go_ret
        exact ⟨rfl, hb3⟩
      · have hs3 : ¬ (E.size : Int) - 1 < 2 := by omega
        clear hx hs hE
        go_wp2_with fail
        simp only [unroll, Exit.inBlock]
        go_ret
        exact ⟨rfl, Below.refl _ _⟩
    · have hv' : Lib.validRune (r : Int) = false := by
        rw [validRune_eq] at hv
        exact Bool.eq_false_iff.2 hv
      go_wp2_with (go_at_call 63; refine (Tryd.utf8_ValidRune _ _).mono ?_; rintro e w' ⟨rfl, hw⟩; subst hw; rw [hv'])
      go_ret
      exact ⟨rfl, Below.refl _ _⟩
end Go.Proofs.YtlghphmehlmehaaDoor.Top
