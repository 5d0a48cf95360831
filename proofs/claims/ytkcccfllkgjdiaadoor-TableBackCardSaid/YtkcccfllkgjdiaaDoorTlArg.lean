/-
  How a table that came in is read; which tables are few.
-/
import Derived.Test.YtkcccfllkgjdiaaDoorTlSame
import Derived.Test.YtkcccfllkgjdiaaDoorRgArg
namespace Go.Proofs.YtkcccfllkgjdiaaDoor.Tl
open Go.ChangeShapes Go.WideShapes Go.ChangeAt Go.RowKit Go.Deep Rg
set_option linter.unusedVariables false

/-- a table that came in: its rows in memory, its arcs points on the ring. -/
structure TaArg (w : World) (aa : Option Addr) (ac : Nat) (na : Option Addr) (nc : Nat) (t : Ta) : Prop where
  at' : TaAt w aa ac na nc t
  wf : Wf t.arcs
  none : aa = none → ac = 0
theorem cells_ta : Tryd.prog.cellsOf 26 = 3 := by kernel_rfl
theorem cells_ars : Tryd.prog.cellsOf 24 = 1 := by kernel_rfl
theorem cells_ws : Tryd.prog.cellsOf 22 = 1 := by kernel_rfl

section
variable {H : Type} {enc : TypeId × Value → H} {w : World} {base : Nat} {held : Bool}
theorem three {α : Type} {l : List α} (h : l.length = 3) : ∃ a b c, l = [a, b, c] := by
  match l, h with
  | [a, b, c], _ => exact ⟨a, b, c, rfl⟩
theorem ta_of {n : Nat} {cs : List Value} {y : DataW H × List MemPlace} (hcs : cs.length = 3) (h : DataW.trod enc Tryd.prog w base (fun _ => true) held n 26 cs = some y) :
    ∃ (t : Ta) (aa : Option Addr) (ac : Nat) (na : Option Addr) (nc : Nat), cs = [.int .i64 t.ep, .slice aa t.arcs.length ac, .slice na t.nodes.length nc] ∧ TaArg w aa ac na nc t := by
  obtain ⟨c0, c1, c2, rfl⟩ := three hcs
  obtain ⟨ys, m, hm, rfl, hl, hlen, hat⟩ := DataW.trod_struct Tryd.underlying26 h
  have t1 := hat 0 _ rfl
  have t2 := hat 1 _ rfl
  have t3 := hat 2 _ rfl
  simp only [List.getElem_toArray, List.getElem_cons_zero, List.getElem_cons_succ, cells_int, cells_ars, cells_ws, List.drop_zero, List.drop_succ_cons, List.take_succ_cons, List.take_zero] at t1 t2 t3
  simp only [List.size_toArray, List.length_cons, List.length_nil] at hlen
  match ys, hlen with
  | [y0, y1, y2], _ =>
    obtain ⟨k, e1, _, w1⟩ := DataW.trod_int Tryd.underlying3 t1
    have e2 : ∃ a len cap, c1 = .slice a len cap := by
      rcases DataW.trod_slice Tryd.underlying24 t2 with ⟨hv, _⟩ | ⟨ad, len, cap, elems, rest, m', hn, hv, _⟩
      · exact ⟨_, _, _, by simpa using hv⟩
      · exact ⟨_, _, _, by simpa using hv⟩
    have e3 : ∃ a len cap, c2 = .slice a len cap := by
      rcases DataW.trod_slice Tryd.underlying22 t3 with ⟨hv, _⟩ | ⟨ad, len, cap, elems, rest, m', hn, hv, _⟩
      · exact ⟨_, _, _, by simpa using hv⟩
      · exact ⟨_, _, _, by simpa using hv⟩
    have ht2 : DataW.Trod enc Tryd.prog w base (fun _ => true) held 24 c1 y1.1 y1.2 := by
      obtain ⟨a, len, cap, rfl⟩ := e2
      exact ⟨m, by simpa [Value.cells] using t2⟩
    obtain ⟨aa, ac, l, rfl, harg⟩ := ars_arg ht2 e2
    obtain ⟨na, len, nc, rfl⟩ := e3
    have ht3 : DataW.Trod enc Tryd.prog w base (fun _ => true) held 22 (.slice na len nc) y2.1 y2.2 := ⟨m, by simpa [Value.cells] using t3⟩
    obtain ⟨z, hz⟩ := isRow_of Tryd.underlying22 Tryd.underlying3 cells_int ht3
    obtain ⟨hzl, hws⟩ := ws_of_row hz
    refine ⟨⟨k, l, z.take len⟩, aa, ac, na, nc, ?_, ⟨harg.at', hws⟩, harg.wf, harg.none⟩
    simp only [List.cons.injEq, and_true] at e1
    rw [e1]
    show _ = [_, _, Value.slice na (z.take len).length nc]
    rw [hzl]

set_option maxRecDepth 100000 in
/-- an argument that is a table. -/
theorem ta_arg {v : Value} {d : DataW H} {p : List MemPlace} (h : DataW.Trod enc Tryd.prog w base (fun _ => true) held 26 v d p) {r : Reach} {b0 : Nat} (hv : Value.okWide Tryd.prog w r b0 26 v) :
    ∃ (t : Ta) (aa : Option Addr) (ac : Nat) (na : Option Addr) (nc : Nat), v = .agg #[.int .i64 t.ep, .slice aa t.arcs.length ac, .slice na t.nodes.length nc] ∧ TaArg w aa ac na nc t := by
  obtain ⟨cs, rfl, hsz⟩ := okWide_struct Tryd.underlying26 hv
  obtain ⟨n, h⟩ := h
  obtain ⟨l⟩ := cs
  rw [cells_ta] at hsz
  obtain ⟨t, aa, ac, na, nc, he, hf⟩ := ta_of (by simpa using hsz) (by simpa [Value.cells] using h)
  exact ⟨t, aa, ac, na, nc, by rw [he], hf⟩
end

def FewT (t : Ta) : Prop := t.arcs.length ≤ 60 ∧ t.nodes.length ≤ 20
instance (t : Ta) : Decidable (FewT t) := inferInstanceAs (Decidable (_ ∧ _))
set_option maxHeartbeats 400000 in
theorem few9_any (a : Option Addr) (cap : Nat) (n : Nat) (w : World) :
    Calls Tryd.prog 23 #[.slice a n cap] w fun e w' => e = .returned (.bool (decide (n ≤ 60))) ∧ w = w' := by
  obtain ⟨q, hq⟩ : ∃ q, decide (n ≤ 60) = q := ⟨_, rfl⟩
  have h : decide ((n : Int) ≤ 60) = q := by rw [← hq, decide_eq_decide]; omega
  rw [hq]
  clear hq
  go_enter Tryd.func23, Tryd.ntmps23
  go_wp2_with fail
  go_ret
  exact ⟨ret_bool (by first | exact h | simp [← h]), rfl⟩
set_option maxHeartbeats 1000000 in
theorem few_any (t : Ta) (aa : Option Addr) (ac : Nat) (na : Option Addr) (nc : Nat) (w : World) :
    Calls Tryd.prog 9 #[.agg #[.int .i64 t.ep, .slice aa t.arcs.length ac, .slice na t.nodes.length nc]] w fun e w' => e = .returned (.bool (decide (FewT t))) ∧ Below w.heap.size w w' := by
  have hb0 : Below w.heap.size w (w.alloc (.cells #[.int .i64 t.ep, .slice aa t.arcs.length ac, .slice na t.nodes.length nc] 26)) := (Below.refl _ _).alloc (Nat.le_refl _) _
  have HB0 := Lib.hid hb0
  have HF9 := Lib.hid fun wx => few9_any aa ac t.arcs.length wx
  obtain ⟨q, hq⟩ : ∃ q, decide (FewT t) = q := ⟨_, rfl⟩
  have HQ := Lib.hid hq
  rw [hq]
  clear hb0 hq
  by_cases h1 : t.arcs.length ≤ 60
  · rw [decide_eq_true h1] at HF9
    have h2 : decide ((t.nodes.length : Int) ≤ 20) = q := by
      rw [← HQ.out, decide_eq_decide]
      exact ⟨fun h => ⟨h1, by omega⟩, fun h => by have := h.2; omega⟩
    have HQ2 := Lib.hid h2
    clear h1 h2
    go_enter Tryd.func9, Tryd.ntmps9
    go_wp2_with fail
    refine (HF9.out _).mono ?_
    rintro e w1 ⟨rfl, rfl⟩
    go_wp2_with fail
    go_ret
    exact ⟨ret_bool (by first | exact HQ2.out | simp [← HQ2.out]), HB0.out⟩
  · rw [decide_eq_false h1] at HF9
    have HQ2 : Hid (q = false) := Lib.hid (by rw [← HQ.out]; exact decide_eq_false fun h => h1 h.1)
    clear h1
    go_enter Tryd.func9, Tryd.ntmps9
    go_wp2_with fail
    refine (HF9.out _).mono ?_
    rintro e w1 ⟨rfl, rfl⟩
    go_wp2_with fail
    go_ret
    exact ⟨by rw [HQ2.out]; rfl, HB0.out⟩

end Go.Proofs.YtkcccfllkgjdiaaDoor.Tl
