/-
  endless and own of an empty list.
-/
import Derived.Test.YtpibbgencojbgaaMap
import Derived.Test.YtpibbgencojbgaaSame
import Derived.Test.YtpibbgencojbgaaLaws
import Derived.BigQuiet
namespace Go.Proofs.Ytpibbgencojbgaa
open Go.RowKit
set_option linter.unusedVariables false

theorem three_made (w : World) (o1 o2 o3 : Obj) : (((w.alloc o1).alloc o2).alloc o3).heap[w.heap.size]? = some o1 ∧ (((w.alloc o1).alloc o2).alloc o3).heap[w.heap.size + 1]? = some o2 ∧ (((w.alloc o1).alloc o2).alloc o3).heap[w.heap.size + 1 + 1]? = some o3 ∧ Below w.heap.size w (((w.alloc o1).alloc o2).alloc o3) := by
  have e1 : (w.alloc o1).heap.size = w.heap.size + 1 := by simp
  have e2 : ((w.alloc o1).alloc o2).heap.size = w.heap.size + 1 + 1 := by simp
  refine ⟨?_, ?_, ?_, (((Below.refl _ _).alloc (Nat.le_refl _) _).alloc (by simp) _).alloc (by simp; omega) _⟩
  · rw [Below.heap_alloc _ _ _ (by rw [e2]; omega), Below.heap_alloc _ _ _ (by rw [e1]; omega)]
    exact heap_alloc_new w o1
  · rw [Below.heap_alloc _ _ _ (by rw [e2]; omega)]
    have := heap_alloc_new (w.alloc o1) o2
    rw [e1] at this
    exact this
  · have := heap_alloc_new ((w.alloc o1).alloc o2) o3
    rw [e2] at this
    exact this

theorem run_check_place (w : World) (e : Bool) (p : Option Addr) (n : Int) : (Instr.checkKey e 10000 90 (.agg #[.pointer p, .int .i64 n])).run Try.prog w = .ok () w := by
  have c1 : ∀ d, (Instr.checkKey e (d + 1) 88 (.pointer p)).run Try.prog w = .ok () w := fun d => by
    simp [Instr.checkKey, run_underlying Try.underlying88]
  have c2 : ∀ d, (Instr.checkKey e (d + 1) 3 (.int .i64 n)).run Try.prog w = .ok () w := fun d => by
    simp [Instr.checkKey, run_underlying Try.underlying3]
  have pa : (part 88 #[.pointer p, .int .i64 n] 0).run Try.prog w = .ok (.pointer p) w := by simp [part, isAgg, run_underlying Try.underlying88]
  have pc : (part 3 #[.pointer p, .int .i64 n] 1).run Try.prog w = .ok (.int .i64 n) w := by simp [part, isAgg, run_underlying Try.underlying3]
  rw [show (10000 : Nat) = 9999 + 1 from rfl, Instr.checkKey]
  simp [run_underlying Try.underlying90, pa, pc, c1 9998, c2 9998]

/-- a store into an empty map. -/
theorem run_put_empty {t et : TypeId} (ht : Try.prog.underlying t = some (.map 90 et)) {w : World} {M : Nat} (hM : w.heap[M]? = some (.map #[] 0)) (p : Option Addr) (n : Int) (v : Value) :
    ∃ w', (Instr.mapUpdate t (.map (some M)) (.agg #[.pointer p, .int .i64 n]) v).run Try.prog w = .ok () w' ∧ w.grownBy w' (some M) := by
  have hf : (Instr.findKey 90 (.agg #[.pointer p, .int .i64 n]) []).run Try.prog w = .ok none w := by simp [Instr.findKey, Instr.findNow, run_underlying Try.underlying90]
  have hc := run_check_place w false p n
  refine ⟨{ w with heap := w.heap.setIfInBounds M (.map #[{ key := .agg #[.pointer p, .int .i64 n], val := v, born := 0 }] 1) }, by simp [Instr.mapUpdate, run_underlying ht, MapKept.run_getObj_map hM, hc, hf, MapKept.run_setObj_map _ hM], ⟨rfl, rfl, rfl, by simp, fun i hi hne => (MapKept.heap_set (w := w) hM).2 i (fun e => hne (by rw [e]))⟩⟩

/-- endless's three blocks. -/
def EndS (w : World) (next : Int) (w1 : World) : Prop :=
  w1.heap[w.heap.size]? = some (.map #[] 0) ∧ w1.heap[w.heap.size + 1]? = some (.cells #[.string ⟨#[]⟩, .int .i64 0, .int .i64 0, .string ⟨#[]⟩, .slice none 0 0] 28 (0, 0)) ∧
  w1.heap[w.heap.size + 1 + 1]? = some (.cells #[.slice (some ⟨w.heap.size + 1, 0, none⟩) 1 1, .int .i64 next] 123 (0, 0)) ∧ Below w.heap.size w w1
theorem EndS.drewN {w w1 : World} {next : Int} (h : EndS w next w1) (n : Nat) : EndS w next (w1.drewN n) := ⟨h.1, h.2.1, h.2.2.1, Go.Proofs.Ytpibbgencojbgaa.Below.drewN h.2.2.2 n⟩
theorem EndS.set {w w1 : World} {next : Int} (h : EndS w next w1) (k : Int) : EndS w k (w1.setCell ⟨w.heap.size + 1 + 1, 1, none⟩ (.int .i64 k)) := by
  obtain ⟨h1, h2, h3, h4⟩ := h
  refine ⟨(Below.heap_setCell _ _ _ _ (by simp; omega)).trans h1, (Below.heap_setCell _ _ _ _ (by simp)).trans h2, ?_, h4.setCell (by simp; omega) _⟩
  have := set_heap h3 1 (.int .i64 k)
  simpa using this
theorem EndS.cells {w w1 : World} {next : Int} (h : EndS w next w1) :
    w1.cell? ⟨w.heap.size + 1 + 1, 0, none⟩ = some (.slice (some ⟨w.heap.size + 1, 0, none⟩) 1 1) ∧ w1.cell? ⟨w.heap.size + 1 + 1, 1, none⟩ = some (.int .i64 next) ∧ w1.frozen? ⟨w.heap.size + 1 + 1, 1, none⟩ = false ∧ w1.cell? ⟨w.heap.size + 1, 4, none⟩ = some (.slice none 0 0) := by
  obtain ⟨h1, h2, h3, h4⟩ := h
  refine ⟨?_, ?_, by simp [World.frozen?, h3], ?_⟩
  · rw [cell_of_row w1 _ _ _ _ _ h3]; rfl
  · rw [cell_of_row w1 _ _ _ _ _ h3]; rfl
  · rw [cell_of_row w1 _ _ _ _ _ h2]; rfl
theorem EndS.tb {w w1 : World} {next : Int} (h : EndS w next w1) : Tb w1 (some ⟨w.heap.size + 1, 0, none⟩) 1 [.mk ⟨#[]⟩ 0 0 ⟨#[]⟩ []] := by
  obtain ⟨h1, h2, h3, h4⟩ := h
  refine ⟨_, .intro (w.heap.size + 1) 0 (fun _ => (none, 0)) (fun _ => []) (by simp) (by decide) (fun _ => rfl) (fun _ => by simp [World.frozen?, h2]) (fun i hi => ?_) (fun i hi => ?_)⟩
  · have e : i = 0 := by simpa using hi
    subst e
    refine ⟨?_, ?_, ?_, ?_, ?_, Nat.zero_le maxLen, (by show -9223372036854775808 ≤ (0 : Int) ∧ (0 : Int) ≤ 9223372036854775807; decide), (by show -9223372036854775808 ≤ (0 : Int) ∧ (0 : Int) ≤ 9223372036854775807; decide), Nat.zero_le maxLen⟩
    all_goals (rw [cell_of_row w1 _ _ _ _ _ h2]; rfl)
  · have e : i = 0 := by simpa using hi
    subst e
    exact SlAt.nil w1 none (by decide)

set_option maxRecDepth 100000 in
set_option maxHeartbeats 4000000 in
theorem endless_none (w : World) :
    Calls Try.prog 72 #[.slice none 0 0] w fun e w' => e = .returned (.bool false) ∧ Below w.heap.size w w' := by
  have hmk : (Instr.makeMap 121 none).run Try.prog w = .ok (.map (some w.heap.size)) (w.alloc (.map #[] 0)) := by kernel_rfl
  go_enter Try.func72, Try.ntmps72
  go_wp2_with fail
  refine wp_scope_passes 2 0 rfl ?_
  go_wp2_with fail
  obtain ⟨hM, hI, hV, hb⟩ := three_made w (.map #[] 0) (.cells #[.string ⟨#[]⟩, .int .i64 0, .int .i64 0, .string ⟨#[]⟩, .slice none 0 0] 28) (.cells #[.slice (some ⟨w.heap.size + 1, 0, none⟩) 1 1, .int .i64 0] 123)
  generalize (((w.alloc (.map #[] 0)).alloc (.cells #[.string ⟨#[]⟩, .int .i64 0, .int .i64 0, .string ⟨#[]⟩, .slice none 0 0] 28)).alloc (.cells #[.slice (some ⟨w.heap.size + 1, 0, none⟩) 1 1, .int .i64 0] 123)) = w1 at *
  have he : EndS w 0 w1 := ⟨hM, hI, hV, hb⟩
  have HE := Lib.hid he
  obtain ⟨v0, v1, v2, v4⟩ := he.cells
  clear hM hI hV hb hmk he
  go_step3
  go_wp2_with fail
  go_quiet (fail)
  go_wp2_with fail
  clear v0 v1 v2 v4
  have HE2 := Lib.hid (HE.out.drewN nq)
  clear HE
  generalize w1.drewN nq = w2 at *
  obtain ⟨v0, v1, v2, v4⟩ := HE2.out.cells
  go_quiet (fail)
  go_wp2_with fail
  clear v0 v1 v2 v4
  have HE3 := Lib.hid ((HE2.out.drewN nq).set 1)
  clear HE2
  generalize (w2.drewN nq).setCell ⟨w.heap.size + 1 + 1, 1, none⟩ (.int .i64 1) = w3 at *
  go_step3
  refine ⟨rfl, ?_⟩
  rw [passes_succ]
  obtain ⟨v0, v1, v2, v4⟩ := HE3.out.cells
  go_wp2_with fail
  go_quiet (fail)
  go_wp2_with fail
  clear v0 v1 v2 v4
  have HE4 := Lib.hid (HE3.out.drewN nq)
  clear HE3
  generalize w3.drewN nq = w4 at *
  refine (placeOf_any (l := [.mk ⟨#[]⟩ 0 0 ⟨#[]⟩ []]) w4 HE4.out.tb).mono ?_
  rintro e w5 ⟨rfl, hb5⟩
  have hlt : w.heap.size < w4.heap.size := (Array.getElem?_eq_some_iff.1 HE4.out.1).1
  have hM5 := (hb5.block _ hlt).trans HE4.out.1
  have hbel5 := HE4.out.2.2.2.trans (hb5.mono HE4.out.2.2.2.size)
  obtain ⟨w6, hup, hg⟩ := run_put_empty Try.underlying121 hM5 (pl (some ⟨w.heap.size + 1, 0, none⟩) [.mk ⟨#[]⟩ 0 0 ⟨#[]⟩ []]) ([It.mk ⟨#[]⟩ 0 0 ⟨#[]⟩ []].length : Int) (.int .i64 2)
  have HUP := Lib.hid hup
  have HB6 := Lib.hid (hbel5.grown hg hbel5.size (fun k e => by cases e; exact Nat.le_refl _))
  clear hlt hM5 hbel5 hup hg hb5 HE4
  go_wp2_with (at_mapUpdate; refine wpList_update_run rfl (.tmp 32) (.tmp 37) (.const (.int .i64 2)) _ rfl rfl rfl rfl HUP.out ?_)
  go_step3
  refine ⟨rfl, ?_⟩
  rw [passes_succ]
  go_wp2_with fail
  refine jump_ret ?_
  go_ret
  exact ⟨rfl, HB6.out⟩

end Go.Proofs.Ytpibbgencojbgaa
