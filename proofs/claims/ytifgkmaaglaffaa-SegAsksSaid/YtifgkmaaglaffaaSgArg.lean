/-
  How a slice of byte slices, and a slice of a log's steps, that came in are read.
-/
import Derived.Test.YtifgkmaaglaffaaSgRows
import Derived.Deep.Slices
import Derived.Deep.Draws
namespace Go.Proofs.Ytifgkmaaglaffaa.Sg
open Go.ChangeShapes Go.WideShapes Go.ChangeAt Go.RowKit Go.Deep
set_option linter.unusedVariables false

theorem cells_int : Try.prog.cellsOf 3 = 1 := by kernel_rfl
theorem cells_u8 : Try.prog.cellsOf 5 = 1 := by kernel_rfl
theorem cells_u8s : Try.prog.cellsOf 22 = 1 := by kernel_rfl

section
variable {H : Type} {enc : TypeId × Value → H} {w : World} {base : Nat} {held : Bool}
theorem one {α : Type} {l : List α} (h : l.length = 1) : ∃ a, l = [a] := by
  match l, h with
  | [a], _ => exact ⟨a, rfl⟩
theorem bytes_of {n : Nat} {cs : List Value} {y : DataW H × List MemPlace} (hcs : cs.length = 1) (h : DataW.trod enc Try.prog w base (fun _ => true) held n 22 cs = some y) :
    ∃ (l : List UInt8) (a : Option Addr) (cap : Nat), cs = [.slice a l.length cap] ∧ l.length ≤ cap ∧ cap ≤ maxLen ∧ BytesAt w.heap.size w a l := by
  obtain ⟨c, rfl⟩ := one hcs
  have e3 : ∃ a len cap, c = .slice a len cap := by
    rcases DataW.trod_slice Try.underlying22 h with ⟨hv, _⟩ | ⟨ad, len, cap, elems, rest, m', hn, hv, _⟩
    · exact ⟨_, _, _, by simpa using hv⟩
    · exact ⟨_, _, _, by simpa using hv⟩
  obtain ⟨a, len, cap, rfl⟩ := e3
  have ht : DataW.Trod enc Try.prog w base (fun _ => true) held 22 (.slice a len cap) y.1 y.2 := ⟨n, by simpa [Value.cells] using h⟩
  obtain ⟨z, hz⟩ := isRow_of Try.underlying22 Try.underlying5 cells_u8 ht
  obtain ⟨l, rfl, a', cap', hv, h1, h2, h3⟩ := bytes_of_row hz
  obtain ⟨rfl, -, rfl⟩ := Value.slice.inj hv
  exact ⟨l, a, cap, rfl, h1, h2, h3⟩

/-- an argument that is a slice of byte slices. -/
theorem bbs_arg {v : Value} {d : DataW H} {p : List MemPlace} (h : DataW.Trod enc Try.prog w base (fun _ => true) held 23 v d p) (hv : ∃ a len cap, v = .slice a len cap) :
    ∃ (a : Option Addr) (cap : Nat) (l : List (List UInt8)), v = .slice a l.length cap ∧ BbsAt w.heap.size w a cap l := by
  obtain ⟨n, h⟩ := h
  obtain ⟨a, len, cap, rfl⟩ := hv
  rcases DataW.trod_slice Try.underlying23 (by simpa [Value.cells] using h) with ⟨hv, _⟩ | ⟨ad, len', cap', elems, rest, m, hn, hv, _, hb, hlc, hcm, hel, hat, _, _⟩
  · have hv : Value.slice a len cap = .slice none 0 0 := by simpa using hv
    obtain ⟨rfl, rfl, rfl⟩ := Value.slice.inj hv
    exact ⟨none, 0, [], rfl, BbsAt.nil _ _⟩
  · have hv : Value.slice a len cap = .slice (some ad) len' cap' := by simpa using hv
    obtain ⟨rfl, rfl, rfl⟩ := Value.slice.inj hv
    obtain ⟨b, o, spot⟩ := ad
    have hrow : ∀ i, i < len → ∃ p : List UInt8 × (Option Addr × Nat), spot = none ∧ (b < w.heap.size ∧ w.cell? ⟨b, o + i, none⟩ = some (.slice p.2.1 p.1.length p.2.2)) ∧ p.1.length ≤ p.2.2 ∧ p.2.2 ≤ maxLen ∧ BytesAt w.heap.size w p.2.1 p.1 := by
      intro i hi
      have h1 := hat i hi
      have he : elems[i]? = some (elems[i]'(by omega)) := List.getElem?_eq_getElem (by omega)
      rw [he, Option.bind_eq_some_iff] at h1
      obtain ⟨cs, hcs, ht⟩ := h1
      rw [cells_u8s] at hcs
      obtain ⟨_, hl3, hcell⟩ := World.cells?_some hcs
      obtain ⟨l, fa, fc, rfl, hf⟩ := bytes_of hl3 ht
      have hsp : spot = none := by
        have h00 := hat 0 (by omega)
        have he0 : elems[0]? = some (elems[0]'(by omega)) := List.getElem?_eq_getElem (by omega)
        rw [he0, Option.bind_eq_some_iff] at h00
        obtain ⟨cs0, hcs0, _⟩ := h00
        simp only [cells_u8s] at hcs0
        obtain ⟨_, hl30, hcell0⟩ := World.cells?_some hcs0
        have e00 := hcell0 0 (by omega)
        rw [List.getElem?_eq_getElem (by omega)] at e00
        simpa [Addr.add] using World.cell?_spot e00
      subst hsp
      have f0 := hcell 0 (by omega)
      simp only [Nat.mul_one, add_at, Nat.add_zero, List.getElem?_cons_zero] at f0
      exact ⟨(l, (fa, fc)), rfl, ⟨lt_of_cell f0, f0⟩, hf⟩
    haveI : Inhabited (List UInt8) := ⟨[]⟩
    obtain ⟨f, hfn⟩ := choose_lt hrow
    refine ⟨some ⟨b, o, spot⟩, cap, (List.range len).map fun i => (f i).1, by simp, by simpa using hlc, hcm, fun i hi => ?_⟩
    simp only [List.length_map, List.length_range] at hi
    obtain ⟨rfl, ⟨h0, h1⟩, hf1, hf2, hf3⟩ := hfn i hi
    simp only [List.getElem_map, List.getElem_range]
    exact ⟨b, o, (f i).2.1, (f i).2.2, rfl, h0, h1, hf1, hf2, hf3⟩

/-- a step of a log as plain data. -/
structure StepD where
  kind : Int
  num : Int
  b : List UInt8
/-- these steps, in a slice at a. -/
structure StepsAt (C : Nat) (w : World) (a : Option Addr) (cap : Nat) (l : List StepD) : Prop where
  len : l.length ≤ cap
  max : cap ≤ maxLen
  get : ∀ (i : Nat) (h : i < l.length), ∃ b o da dc, a = some ⟨b, o, none⟩ ∧ b < C ∧ w.cell? ⟨b, o + i * 3, none⟩ = some (.int .i64 l[i].kind) ∧ w.cell? ⟨b, o + i * 3 + 1, none⟩ = some (.int .i64 l[i].num) ∧ w.cell? ⟨b, o + i * 3 + 2, none⟩ = some (.slice da l[i].b.length dc) ∧ l[i].b.length ≤ dc ∧ dc ≤ maxLen ∧ BytesAt C w da l[i].b ∧
    -9223372036854775808 ≤ l[i].kind ∧ l[i].kind ≤ 9223372036854775807
theorem StepsAt.under {C : Nat} {w w' : World} {a : Option Addr} {cap : Nat} {l : List StepD} (h : StepsAt C w a cap l) (hb : Below C w w') : StepsAt C w' a cap l := by
  refine ⟨h.len, h.max, fun i hi => ?_⟩
  obtain ⟨b, o, da, dc, ha, hlt, h0, h1, h2, h3, h4, h5, h6⟩ := h.get i hi
  exact ⟨b, o, da, dc, ha, hlt, (hb.cell (p := ⟨b, o + i * 3, none⟩) hlt).trans h0, (hb.cell (p := ⟨b, o + i * 3 + 1, none⟩) hlt).trans h1, (hb.cell (p := ⟨b, o + i * 3 + 2, none⟩) hlt).trans h2, h3, h4, h5.under hb, h6⟩

theorem cells_step : Try.prog.cellsOf 49 = 3 := by kernel_rfl
theorem three {α : Type} {l : List α} (h : l.length = 3) : ∃ a b c, l = [a, b, c] := by
  match l, h with
  | [a, b, c], _ => exact ⟨a, b, c, rfl⟩
theorem step_of {n : Nat} {cs : List Value} {y : DataW H × List MemPlace} (hcs : cs.length = 3) (h : DataW.trod enc Try.prog w base (fun _ => true) held n 49 cs = some y) :
    ∃ (f : StepD) (a : Option Addr) (cap : Nat), cs = [.int .i64 f.kind, .int .i64 f.num, .slice a f.b.length cap] ∧ (f.b.length ≤ cap ∧ cap ≤ maxLen ∧ BytesAt w.heap.size w a f.b) ∧ -9223372036854775808 ≤ f.kind ∧ f.kind ≤ 9223372036854775807 := by
  obtain ⟨c0, c1, c2, rfl⟩ := three hcs
  obtain ⟨ys, m, hm, rfl, hl, hlen, hat⟩ := DataW.trod_struct Try.underlying49 h
  have t1 := hat 0 _ rfl
  have t2 := hat 1 _ rfl
  have t3 := hat 2 _ rfl
  simp only [List.getElem_toArray, List.getElem_cons_zero, List.getElem_cons_succ, cells_int, cells_u8s, List.drop_zero, List.drop_succ_cons, List.take_succ_cons, List.take_zero] at t1 t2 t3
  simp only [List.size_toArray, List.length_cons, List.length_nil] at hlen
  match ys, hlen with
  | [y0, y1, y2], _ =>
    obtain ⟨k, e1, _, w1⟩ := DataW.trod_int Try.underlying3 t1
    obtain ⟨q, e2, _, w2⟩ := DataW.trod_int Try.underlying3 t2
    obtain ⟨l, a, cap, e3, h1, h2, h3⟩ := bytes_of rfl t3
    refine ⟨⟨k, q, l⟩, a, cap, ?_, ⟨h1, h2, h3⟩, in_i64 w1⟩
    simp only [List.cons.injEq, and_true] at e1 e2 e3
    rw [e1, e2, e3]

/-- an argument that is a slice of steps. -/
theorem steps_arg {v : Value} {d : DataW H} {p : List MemPlace} (h : DataW.Trod enc Try.prog w base (fun _ => true) held 44 v d p) (hv : ∃ a len cap, v = .slice a len cap) :
    ∃ (a : Option Addr) (cap : Nat) (l : List StepD), v = .slice a l.length cap ∧ StepsAt w.heap.size w a cap l := by
  obtain ⟨n, h⟩ := h
  obtain ⟨a, len, cap, rfl⟩ := hv
  rcases DataW.trod_slice Try.underlying44 (by simpa [Value.cells] using h) with ⟨hv, _⟩ | ⟨ad, len', cap', elems, rest, m, hn, hv, _, hb, hlc, hcm, hel, hat, _, _⟩
  · have hv : Value.slice a len cap = .slice none 0 0 := by simpa using hv
    obtain ⟨rfl, rfl, rfl⟩ := Value.slice.inj hv
    exact ⟨none, 0, [], rfl, Nat.le_refl _, by simp [maxLen], fun i hi => by simp at hi⟩
  · have hv : Value.slice a len cap = .slice (some ad) len' cap' := by simpa using hv
    obtain ⟨rfl, rfl, rfl⟩ := Value.slice.inj hv
    obtain ⟨b, o, spot⟩ := ad
    have hrow : ∀ i, i < len → ∃ p : StepD × (Option Addr × Nat), spot = none ∧ (b < w.heap.size ∧ w.cell? ⟨b, o + i * 3, none⟩ = some (.int .i64 p.1.kind) ∧ w.cell? ⟨b, o + i * 3 + 1, none⟩ = some (.int .i64 p.1.num) ∧ w.cell? ⟨b, o + i * 3 + 2, none⟩ = some (.slice p.2.1 p.1.b.length p.2.2)) ∧ (p.1.b.length ≤ p.2.2 ∧ p.2.2 ≤ maxLen ∧ BytesAt w.heap.size w p.2.1 p.1.b) ∧ -9223372036854775808 ≤ p.1.kind ∧ p.1.kind ≤ 9223372036854775807 := by
      intro i hi
      have h1 := hat i hi
      have he : elems[i]? = some (elems[i]'(by omega)) := List.getElem?_eq_getElem (by omega)
      rw [he, Option.bind_eq_some_iff] at h1
      obtain ⟨cs, hcs, ht⟩ := h1
      rw [cells_step] at hcs
      obtain ⟨_, hl3, hcell⟩ := World.cells?_some hcs
      obtain ⟨f, fa, fc, rfl, hf, hk⟩ := step_of hl3 ht
      have hsp : spot = none := by
        have h00 := hat 0 (by omega)
        have he0 : elems[0]? = some (elems[0]'(by omega)) := List.getElem?_eq_getElem (by omega)
        rw [he0, Option.bind_eq_some_iff] at h00
        obtain ⟨cs0, hcs0, _⟩ := h00
        simp only [cells_step] at hcs0
        obtain ⟨_, hl30, hcell0⟩ := World.cells?_some hcs0
        have e00 := hcell0 0 (by omega)
        rw [List.getElem?_eq_getElem (by omega)] at e00
        simpa [Addr.add] using World.cell?_spot e00
      subst hsp
      have hadd : ∀ j, ((⟨b, o, none⟩ : Addr).add (i * 3)).add j = ⟨b, o + i * 3 + j, none⟩ := fun j => by rw [add_at, add_at]
      have f0 := hcell 0 (by omega)
      have f1 := hcell 1 (by omega)
      have f2 := hcell 2 (by omega)
      simp only [hadd] at f0 f1 f2
      exact ⟨(f, (fa, fc)), rfl, ⟨lt_of_cell f0, f0, f1, f2⟩, hf, hk⟩
    haveI : Inhabited StepD := ⟨⟨0, 0, []⟩⟩
    obtain ⟨f, hfn⟩ := choose_lt hrow
    refine ⟨some ⟨b, o, spot⟩, cap, (List.range len).map fun i => (f i).1, by simp, by simpa using hlc, hcm, fun i hi => ?_⟩
    simp only [List.length_map, List.length_range] at hi
    obtain ⟨rfl, ⟨h0, h1, h2, h3⟩, ⟨hf1, hf2, hf3⟩, hk⟩ := hfn i hi
    simp only [List.getElem_map, List.getElem_range]
    exact ⟨b, o, (f i).2.1, (f i).2.2, rfl, h0, h1, h2, h3, hf1, hf2, hf3, hk⟩
end

end Go.Proofs.Ytifgkmaaglaffaa.Sg
