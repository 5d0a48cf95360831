/-
  How a frame, and a slice of frames, that came in are read.
-/
import Derived.Test.YtpibbgencojbgaaAll4
import Derived.Deep.Slices
import Derived.Deep.Draws
namespace Go.Proofs.Ytpibbgencojbgaa
open Go.ChangeShapes Go.WideShapes Go.ChangeAt Go.RowKit Go.Deep
set_option linter.unusedVariables false

/-- a frame that came in, its data at a. -/
structure FrArg (w : World) (a : Option Addr) (cap : Nat) (f : Fr) : Prop where
  len : f.data.length ≤ cap
  max : cap ≤ maxLen
  dat : BytesAt w.heap.size w a f.data

theorem cells_frame : Try.prog.cellsOf 48 = 3 := by kernel_rfl
theorem cells_int : Try.prog.cellsOf 3 = 1 := by kernel_rfl
theorem cells_u8 : Try.prog.cellsOf 5 = 1 := by kernel_rfl
theorem cells_u8s : Try.prog.cellsOf 25 = 1 := by kernel_rfl

section
variable {H : Type} {enc : TypeId × Value → H} {w : World} {base : Nat} {held : Bool}
theorem three {α : Type} {l : List α} (h : l.length = 3) : ∃ a b c, l = [a, b, c] := by
  match l, h with
  | [a, b, c], _ => exact ⟨a, b, c, rfl⟩
theorem frame_of {n : Nat} {cs : List Value} {y : DataW H × List MemPlace} (hcs : cs.length = 3) (h : DataW.trod enc Try.prog w base (fun _ => true) held n 48 cs = some y) :
    ∃ (f : Fr) (a : Option Addr) (cap : Nat), cs = [.int .i64 f.kind, .int .i64 f.chan, .slice a f.data.length cap] ∧ FrArg w a cap f := by
  obtain ⟨c0, c1, c2, rfl⟩ := three hcs
  obtain ⟨ys, m, hm, rfl, hl, hlen, hat⟩ := DataW.trod_struct Try.underlying48 h
  have t1 := hat 0 _ rfl
  have t2 := hat 1 _ rfl
  have t3 := hat 2 _ rfl
  simp only [List.getElem_toArray, List.getElem_cons_zero, List.getElem_cons_succ, cells_int, cells_u8s, List.drop_zero, List.drop_succ_cons, List.take_succ_cons, List.take_zero] at t1 t2 t3
  simp only [List.size_toArray, List.length_cons, List.length_nil] at hlen
  match ys, hlen with
  | [y0, y1, y2], _ =>
    obtain ⟨k, e1, _, w1⟩ := DataW.trod_int Try.underlying3 t1
    obtain ⟨q, e2, _, w2⟩ := DataW.trod_int Try.underlying3 t2
    have e3 : ∃ a len cap, c2 = .slice a len cap := by
      rcases DataW.trod_slice Try.underlying25 t3 with ⟨hv, _⟩ | ⟨ad, len, cap, elems, rest, m', hn, hv, _⟩
      · exact ⟨_, _, _, by simpa using hv⟩
      · exact ⟨_, _, _, by simpa using hv⟩
    obtain ⟨a, len, cap, rfl⟩ := e3
    have ht : DataW.Trod enc Try.prog w base (fun _ => true) held 25 (.slice a len cap) y2.1 y2.2 := ⟨m, by simpa [Value.cells] using t3⟩
    obtain ⟨z, hz⟩ := isRow_of Try.underlying25 Try.underlying5 cells_u8 ht
    obtain ⟨l, rfl, a', cap', hv, h1, h2, h3⟩ := bytes_of_row hz
    obtain ⟨rfl, -, rfl⟩ := Value.slice.inj hv
    refine ⟨⟨k, q, l⟩, a, cap, ?_, h1, h2, h3⟩
    simp only [List.cons.injEq, and_true] at e1 e2
    rw [e1, e2]

set_option maxRecDepth 100000 in
/-- an argument that is a frame. -/
theorem frame_arg {v : Value} {d : DataW H} {p : List MemPlace} (h : DataW.Trod enc Try.prog w base (fun _ => true) held 48 v d p) {r : Reach} {b0 : Nat} (hv : Value.okWide Try.prog w r b0 48 v) :
    ∃ (f : Fr) (a : Option Addr) (cap : Nat), v = .agg #[.int .i64 f.kind, .int .i64 f.chan, .slice a f.data.length cap] ∧ FrArg w a cap f := by
  obtain ⟨cs, rfl, hsz⟩ := okWide_struct Try.underlying48 hv
  obtain ⟨n, h⟩ := h
  obtain ⟨l⟩ := cs
  rw [cells_frame] at hsz
  obtain ⟨f, a, cap, he, hf⟩ := frame_of (by simpa using hsz) (by simpa [Value.cells] using h)
  exact ⟨f, a, cap, by rw [he], hf⟩

/-- an argument that is a slice of frames. -/
theorem frames_arg {v : Value} {d : DataW H} {p : List MemPlace} (h : DataW.Trod enc Try.prog w base (fun _ => true) held 55 v d p) (hv : ∃ a len cap, v = .slice a len cap) :
    ∃ (a : Option Addr) (cap : Nat) (l : List Fr), v = .slice a l.length cap ∧ FrsAt w a cap l := by
  obtain ⟨n, h⟩ := h
  obtain ⟨a, len, cap, rfl⟩ := hv
  rcases DataW.trod_slice Try.underlying55 (by simpa [Value.cells] using h) with ⟨hv, _⟩ | ⟨ad, len', cap', elems, rest, m, hn, hv, _, hb, hlc, hcm, hel, hat, _, _⟩
  · have hv : Value.slice a len cap = .slice none 0 0 := by simpa using hv
    obtain ⟨rfl, rfl, rfl⟩ := Value.slice.inj hv
    exact ⟨none, 0, [], rfl, by simp, by simp [maxLen], fun i hi => by simp at hi⟩
  · have hv : Value.slice a len cap = .slice (some ad) len' cap' := by simpa using hv
    obtain ⟨rfl, rfl, rfl⟩ := Value.slice.inj hv
    obtain ⟨b, o, spot⟩ := ad
    have hrow : ∀ i, i < len → ∃ p : Fr × (Option Addr × Nat), spot = none ∧ (b < w.heap.size ∧ w.cell? ⟨b, o + i * 3, none⟩ = some (.int .i64 p.1.kind) ∧ w.cell? ⟨b, o + i * 3 + 1, none⟩ = some (.int .i64 p.1.chan) ∧ w.cell? ⟨b, o + i * 3 + 2, none⟩ = some (.slice p.2.1 p.1.data.length p.2.2)) ∧ FrArg w p.2.1 p.2.2 p.1 := by
      intro i hi
      have h1 := hat i hi
      have he : elems[i]? = some (elems[i]'(by omega)) := List.getElem?_eq_getElem (by omega)
      rw [he, Option.bind_eq_some_iff] at h1
      obtain ⟨cs, hcs, ht⟩ := h1
      rw [cells_frame] at hcs
      obtain ⟨_, hl3, hcell⟩ := World.cells?_some hcs
      obtain ⟨f, fa, fc, rfl, hf⟩ := frame_of hl3 ht
      have hsp : spot = none := by
        have h00 := hat 0 (by omega)
        have he0 : elems[0]? = some (elems[0]'(by omega)) := List.getElem?_eq_getElem (by omega)
        rw [he0, Option.bind_eq_some_iff] at h00
        obtain ⟨cs0, hcs0, _⟩ := h00
        simp only [cells_frame] at hcs0
        obtain ⟨_, hl30, hcell0⟩ := World.cells?_some hcs0
        have e00 := hcell0 0 (by omega)
        rw [List.getElem?_eq_getElem (by omega)] at e00
        simpa [Addr.add] using World.cell?_spot e00
      subst hsp
      have hadd : ∀ j, ((⟨b, o, none⟩ : Addr).add (i * 3)).add j = ⟨b, o + i * 3 + j, none⟩ := fun j => by rw [add_at, add_at]
      have f0 := hcell 0 (by omega)
      have f1 := hcell 1 (by omega)
      have f2 := hcell 2 (by omega)
      simp only [hadd] at f0 f1 f2
      exact ⟨(f, (fa, fc)), rfl, ⟨lt_of_cell f0, f0, f1, f2⟩, hf⟩
    haveI : Inhabited Fr := ⟨⟨0, 0, []⟩⟩
    obtain ⟨f, hfn⟩ := choose_lt hrow
    refine ⟨some ⟨b, o, spot⟩, cap, (List.range len).map fun i => (f i).1, by simp, by simpa using hlc, hcm, fun i hi => ?_⟩
    simp only [List.length_map, List.length_range] at hi
    obtain ⟨rfl, ⟨h0, h1, h2, h3⟩, hf⟩ := hfn i hi
    simp only [List.getElem_map, List.getElem_range]
    exact ⟨b, o, (f i).2.1, (f i).2.2, rfl, h0, h1, h2, h3, hf.len, hf.max, hf.dat⟩
end

end Go.Proofs.Ytpibbgencojbgaa
