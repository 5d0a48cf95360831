/-
  own of a value with no items.
-/
import Derived.Test.YtpibbgencojbgaaEnd
import Derived.StillTailTactics
namespace Go.Proofs.Ytpibbgencojbgaa
open Go.RowKit
set_option linter.unusedVariables false

set_option maxRecDepth 100000 in
theorem clone_none (w : World) : Calls Try.prog 73 #[.slice none 0 0] w fun e w' => e = .returned (.slice none 0 0) ∧ w = w' := by
  go_enter Try.func73, Try.ntmps73
  have hb : (binOp .eql 22 (.slice none 0 0) (.slice none 0 0)).run Try.prog w = .ok (.bool true) w := by kernel_rfl
  go_wp2
  go_ret
  exact ⟨rfl, rfl⟩

/-- a look-up in an empty map. -/
theorem run_look_empty {t et : TypeId} {z : Value} (ht : Try.prog.underlying t = some (.map 90 et)) {w : World} (hz : (zeroValue et).run Try.prog w = .ok z w) {M : Nat} (hM : w.heap[M]? = some (.map #[] 0)) (p : Option Addr) (n : Int) :
    (Instr.lookup t (.map (some M)) (.agg #[.pointer p, .int .i64 n]) true).run Try.prog w = .ok (.tuple #[z, .bool false]) w := by
  have hf : (Instr.findKey 90 (.agg #[.pointer p, .int .i64 n]) []).run Try.prog w = .ok none w := by simp [Instr.findKey, Instr.findNow, run_underlying Try.underlying90]
  have hc := run_check_place w true p n
  simp [Instr.lookup, run_underlying ht, MapKept.run_getObj_map hM, hc, hf, hz]

/-- own's blocks: the box X, the result R, the map M, the stack T. -/
structure OwnS (w : World) (k n : Int) (s : ByteArray) (M T : Nat) (w1 : World) : Prop where
  x : w1.heap[w.heap.size]? = some (.cells #[.int .i64 k, .int .i64 n, .string s, .slice none 0 0] 24 (0, 0))
  r : w1.heap[w.heap.size + 1]? = some (.cells #[.int .i64 0, .int .i64 0, .string ⟨#[]⟩, .slice none 0 0] 24 (0, 0))
  m : w1.heap[M]? = some (.map #[] 0)
  t : w1.heap[T]? = some (.cells #[.pointer (some ⟨w.heap.size, 0, none⟩)] 114 (0, 0))
  b : Below w.heap.size w w1
theorem OwnS.keep {w w1 w2 : World} {k n : Int} {s : ByteArray} {M T : Nat} (h : OwnS w k n s M T w1) (hb : Below w1.heap.size w1 w2) : OwnS w k n s M T w2 := by
  have lt : ∀ {i : Nat} {o : Obj}, w1.heap[i]? = some o → i < w1.heap.size := fun h => (Array.getElem?_eq_some_iff.1 h).1
  exact ⟨(hb.block _ (lt h.x)).trans h.x, (hb.block _ (lt h.r)).trans h.r, (hb.block _ (lt h.m)).trans h.m, (hb.block _ (lt h.t)).trans h.t, h.b.trans (hb.mono h.b.size)⟩

theorem OwnS.set {w w1 : World} {k n : Int} {s : ByteArray} {M T : Nat} (h : OwnS w k n s M T w1) : OwnS w k n s M T (w1.setCell ⟨w.heap.size, 3, none⟩ (.slice none 0 0)) := by
  have ne : ∀ {i : Nat} {o : Obj}, w1.heap[i]? = some o → (o = .map #[] 0 ∨ o = .cells #[.pointer (some ⟨w.heap.size, 0, none⟩)] 114 (0, 0)) → i ≠ w.heap.size := by
    rintro i o hi ho rfl
    rw [h.x] at hi
    rcases ho with rfl | rfl <;> cases hi
  refine ⟨?_, (Below.heap_setCell _ _ _ _ (by simp)).trans h.r, (Below.heap_setCell _ _ _ _ (ne h.m (.inl rfl))).trans h.m, (Below.heap_setCell _ _ _ _ (ne h.t (.inr rfl))).trans h.t, h.b.setCell (Nat.le_refl _) _⟩
  have := set_heap h.x 3 (.slice none 0 0)
  simpa using this

set_option maxRecDepth 100000 in
set_option maxHeartbeats 4000000 in
theorem own_none (k n : Int) (s : ByteArray) (w : World) :
    Calls Try.prog 54 #[.agg #[.int .i64 k, .int .i64 n, .string s, .slice none 0 0]] w fun e w' => e = .returned (.agg #[.int .i64 k, .int .i64 n, .string s, .slice none 0 0]) ∧ Below w.heap.size w w' := by
  go_enter Try.func54, Try.ntmps54
  go_wp2_with fail
  refine wp_scope_passes 1 0 rfl ?_
  go_wp2_with fail
  refine (endless_none _).mono ?_
  rintro e w1 ⟨rfl, hb1⟩
  have hmk : (Instr.makeMap 113 none).run Try.prog w1 = .ok (.map (some w1.heap.size)) (w1.alloc (.map #[] 0)) := by kernel_rfl
  have HB1 := Lib.hid hb1
  clear hb1
  go_wp2_with fail
  have hx1 : w1.heap[w.heap.size]? = some (.cells #[.int .i64 k, .int .i64 n, .string s, .slice none 0 0] 24 (0, 0)) := by
    have := heap_alloc_new w (.cells #[.int .i64 k, .int .i64 n, .string s, .slice none 0 0] 24)
    rw [HB1.out.block _ (by simp; omega), Below.heap_alloc _ _ _ (by simp)]
    exact this
  have e1 : (w.alloc (.cells #[.int .i64 k, .int .i64 n, .string s, .slice none 0 0] 24)).heap.size = w.heap.size + 1 := by simp
  have hr1 : w1.heap[w.heap.size + 1]? = some (.cells #[.int .i64 0, .int .i64 0, .string ⟨#[]⟩, .slice none 0 0] 24 (0, 0)) := by
    have := heap_alloc_new (w.alloc (.cells #[.int .i64 k, .int .i64 n, .string s, .slice none 0 0] 24)) (.cells #[.int .i64 0, .int .i64 0, .string ⟨#[]⟩, .slice none 0 0] 24)
    rw [e1] at this
    rw [HB1.out.block _ (by simp)]
    exact this
  have hb1 : Below w.heap.size w w1 := (((Below.refl _ _).alloc (Nat.le_refl _) _).alloc (by simp) _).trans (HB1.out.mono (by simp; omega))
  have e2 : (w1.alloc (.map #[] 0)).heap.size = w1.heap.size + 1 := by simp
  have hos : OwnS w k n s w1.heap.size (w1.heap.size + 1) ((w1.alloc (.map #[] 0)).alloc (.cells #[.pointer (some ⟨w.heap.size, 0, none⟩)] 114)) := by
    have hs1 := (Array.getElem?_eq_some_iff.1 hr1).1
    refine ⟨?_, ?_, ?_, ?_, (hb1.alloc hb1.size _).alloc (by rw [e2]; have := hb1.size; omega) _⟩
    · rw [Below.heap_alloc _ _ _ (by rw [e2]; omega), Below.heap_alloc _ _ _ (by omega)]; exact hx1
    · rw [Below.heap_alloc _ _ _ (by rw [e2]; omega), Below.heap_alloc _ _ _ (by omega)]; exact hr1
    · rw [Below.heap_alloc _ _ _ (by rw [e2]; omega)]; exact heap_alloc_new w1 _
    · have := heap_alloc_new (w1.alloc (.map #[] 0)) (.cells #[.pointer (some ⟨w.heap.size, 0, none⟩)] 114)
      rw [e2] at this
      exact this
  have HOS := Lib.hid hos
  have HLT := Lib.hid (Array.getElem?_eq_some_iff.1 hr1).1
  clear hx1 e1 hr1 hb1 e2 hos hmk
  generalize ((w1.alloc (.map #[] 0)).alloc (.cells #[.pointer (some ⟨w.heap.size, 0, none⟩)] 114)) = w2 at *
  have t0 : w2.cell? ⟨w1.heap.size + 1, 0, none⟩ = some (.pointer (some ⟨w.heap.size, 0, none⟩)) := by rw [cell_of_row w2 _ _ _ _ _ HOS.out.t]; rfl
  obtain ⟨⟨x0, x1, x2, x3⟩, fx0, fx1, fx2, fx3⟩ := cells4 HOS.out.x
  go_step3
  go_wp2_with fail
  clear t0 x0 x1 x2 x3 fx0 fx1 fx2 fx3
  refine (placeOf_any (l := []) w2 (Tb.nil w2 none (by decide))).mono ?_
  rintro e w3 ⟨he, hb3⟩
  replace he : e = .returned (.agg #[.pointer none, .int .i64 0]) := he
  subst he
  have hos3 := HOS.out.keep hb3
  have hbp : Below w3.heap.size w3 (w3.alloc (.cells #[.pointer none, .int .i64 0] 90)) := (Below.refl _ _).alloc (Nat.le_refl _) _
  have hos4 := hos3.keep hbp
  have hp := heap_alloc_new w3 (.cells #[.pointer none, .int .i64 0] 90)
  have hz : (zeroValue 22).run Try.prog (w3.alloc (.cells #[.pointer none, .int .i64 0] 90)) = .ok (.slice none 0 0) (w3.alloc (.cells #[.pointer none, .int .i64 0] 90)) := by kernel_rfl
  have HLK := Lib.hid (run_look_empty Try.underlying113 hz hos4.m none 0)
  have hne : w3.heap.size ≠ w.heap.size := by have := hos3.b.size; have := (Array.getElem?_eq_some_iff.1 hos3.x).1; omega
  have HNE := Lib.hid hne
  have HOS4 := Lib.hid hos4
  have HP := Lib.hid hp
  have y3 := (cells4 hos4.x).1.2.2.2
  clear hos3 hbp hos4 hp hz hne hb3 HOS
  go_wp2_with (at_lookup; refine wpList_lookup_run rfl (.tmp 37) (.tmp 38) _ true rfl rfl rfl HLK.out ?_)
  refine (clone_none _).mono ?_
  rintro e w5 ⟨rfl, rfl⟩
  clear y3 HLK
  generalize w3.alloc (.cells #[.pointer none, .int .i64 0] 90) = w4 at *
  obtain ⟨⟨x0, x1, x2, x3⟩, fx0, fx1, fx2, fx3⟩ := cells4 HOS4.out.x
  go_wp2_with fail
  clear x0 x1 x2 x3 fx0 fx1 fx2 fx3
  have HOS5 := Lib.hid HOS4.out.set
  have HP5 := Lib.hid ((Below.heap_setCell w4 ⟨w.heap.size, 3, none⟩ (.slice none 0 0) w3.heap.size HNE.out).trans HP.out)
  clear HOS4 HP
  generalize w4.setCell ⟨w.heap.size, 3, none⟩ (.slice none 0 0) = w5 at *
  have q0 : w5.cell? ⟨w3.heap.size, 0, none⟩ = some (.pointer none) := by rw [cell_of_row w5 _ _ _ _ _ HP5.out]; rfl
  have q1 : w5.cell? ⟨w3.heap.size, 1, none⟩ = some (.int .i64 0) := by rw [cell_of_row w5 _ _ _ _ _ HP5.out]; rfl
  have x3 := (cells4 HOS5.out.x).1.2.2.2
  go_still_tail 6, (by kernel_rfl)
  change wpList _ _ _ _ _ w5.drew
  clear q0 q1 x3
  have HOS6 := Lib.hid (HOS5.out.keep (Below.refl _ w5).drew)
  have hp6 : w5.drew.heap[w3.heap.size]? = some (.cells #[.pointer none, .int .i64 0] 90 (0, 0)) := HP5.out
  clear HOS5 HP5
  generalize w5.drew = w6 at *
  obtain ⟨w7, hup, hg⟩ := run_put_empty Try.underlying113 HOS6.out.m none 0 (.slice none 0 0)
  have hlt := HLT.out
  have hX7 := (hg.block _ (Array.getElem?_eq_some_iff.1 HOS6.out.x).1 (fun e => by have := Option.some.inj e; omega)).trans HOS6.out.x
  have hR7 := (hg.block _ (Array.getElem?_eq_some_iff.1 HOS6.out.r).1 (fun e => by have := Option.some.inj e; omega)).trans HOS6.out.r
  have hb7 : Below w.heap.size w w7 := HOS6.out.b.grown hg HOS6.out.b.size (fun k e => by have := Option.some.inj e; omega)
  have HUP := Lib.hid hup
  obtain ⟨⟨x0, x1, x2, x4⟩, fx0, fx1, fx2, fx3⟩ := cells4 hX7
  obtain ⟨⟨r0, r1, r2, r3⟩, fr0, fr1, fr2, fr3⟩ := cells4 hR7
  have HB7 := Lib.hid hb7
  clear hup hg hX7 hR7 hb7 hlt hp6
  go_wp2_with (at_mapUpdate; refine wpList_update_run rfl (.tmp 58) (.tmp 59) (.tmp 63) _ rfl rfl rfl rfl HUP.out ?_)
  refine wp_loop_rounds 1 ?_
  rw [rounds_succ]
  go_wp2_with fail
  go_step3
  refine ⟨rfl, ?_⟩
  rw [passes_succ]
  go_wp2_with fail
  refine jump_ret ?_
  refine bodyPost_ret (v := .agg #[.int .i64 k, .int .i64 n, .string s, .slice none 0 0]) (by simp [results, Try.results54, go_sem, *]) rfl ?_
  refine ⟨rfl, ?_⟩
  exact (((HB7.out.setCell (by simp) _).setCell (by simp) _).setCell (by simp) _).setCell (by simp) _

end Go.Proofs.Ytpibbgencojbgaa
