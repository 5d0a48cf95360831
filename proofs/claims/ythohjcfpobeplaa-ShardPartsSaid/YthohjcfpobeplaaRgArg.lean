/-
  How a slice of arcs that came in is read.
-/
import Derived.Test.YthohjcfpobeplaaRgMem
import Derived.Deep.Slices
import Derived.Deep.Draws
import Derived.SizedLaws
namespace Go.Proofs.Ythohjcfpobeplaa.Rg
open Go.ChangeShapes Go.WideShapes Go.ChangeAt Go.RowKit Go.Deep
set_option linter.unusedVariables false

/-- arcs that came in: in memory, with points on the ring. -/
structure AArg (w : World) (a : Option Addr) (cap : Nat) (l : List Ar) : Prop where
  at' : AsAt w a cap l
  wf : Wf l
  none : a = none → cap = 0

theorem cells_ar : Try.prog.cellsOf 115 = 2 := by kernel_rfl
theorem cells_u32 : Try.prog.cellsOf 59 = 1 := by kernel_rfl
theorem cells_int : Try.prog.cellsOf 3 = 1 := by kernel_rfl

section
variable {H : Type} {enc : TypeId × Value → H} {w : World} {base : Nat} {held : Bool}
theorem two' {α : Type} {l : List α} (h : l.length = 2) : ∃ a b, l = [a, b] := by
  match l, h with
  | [a, b], _ => exact ⟨a, b, rfl⟩
theorem ar_of {n : Nat} {cs : List Value} {y : DataW H × List MemPlace} (hcs : cs.length = 2) (h : DataW.trod enc Try.prog w base (fun _ => true) held n 115 cs = some y) :
    ∃ b : Ar, cs = arC b ∧ 0 ≤ b.f ∧ b.f < 4294967296 := by
  obtain ⟨c0, c1, rfl⟩ := two' hcs
  obtain ⟨ys, m, hm, rfl, hl, hlen, hat⟩ := DataW.trod_struct Try.underlying115 h
  have t0 := hat 0 _ rfl
  have t1 := hat 1 _ rfl
  simp only [List.getElem_toArray, List.getElem_cons_zero, List.getElem_cons_succ, cells_int, cells_u32, List.drop_zero, List.drop_succ_cons, List.take_succ_cons, List.take_zero] at t0 t1
  simp only [List.size_toArray, List.length_cons, List.length_nil] at hlen
  match ys, hlen with
  | [y0, y1], _ =>
    obtain ⟨k0, e0, _, w0⟩ := DataW.trod_int Try.underlying59 t0
    obtain ⟨k1, e1, _, w1⟩ := DataW.trod_int Try.underlying3 t1
    refine ⟨⟨k0, k1⟩, ?_, in_u32 w0⟩
    simp only [List.cons.injEq, and_true] at e0 e1
    rw [e0, e1]
    rfl

/-- an argument that is a slice of arcs. -/
theorem ars_arg {v : Value} {d : DataW H} {p : List MemPlace} (h : DataW.Trod enc Try.prog w base (fun _ => true) held 27 v d p) (hv : ∃ a len cap, v = .slice a len cap) :
    ∃ (a : Option Addr) (cap : Nat) (l : List Ar), v = .slice a l.length cap ∧ AArg w a cap l := by
  obtain ⟨n, h⟩ := h
  obtain ⟨a, len, cap, rfl⟩ := hv
  rcases DataW.trod_slice Try.underlying27 (by simpa [Value.cells] using h) with ⟨hv, _⟩ | ⟨ad, len', cap', elems, rest, m, hn, hv, hd, hb, hlc, hcm, hel, hat, _, _⟩
  · have hv : Value.slice a len cap = .slice none 0 0 := by simpa using hv
    obtain ⟨rfl, rfl, rfl⟩ := Value.slice.inj hv
    exact ⟨none, 0, [], rfl, RowsAt.nil _ _ _ _ _ (by simp [maxLen]), (fun a h => by cases h), fun _ => rfl⟩
  · have hv : Value.slice a len cap = .slice (some ad) len' cap' := by simpa using hv
    obtain ⟨rfl, rfl, rfl⟩ := Value.slice.inj hv
    obtain ⟨b, o, spot⟩ := ad
    have hrow : ∀ i, i < len → ∃ e : Ar, spot = none ∧ (0 ≤ e.f ∧ e.f < 4294967296) ∧ ∀ (r : Nat) (v : Value), (arC e)[r]? = some v → w.cell? ⟨b, o + i * 2 + r, none⟩ = some v := by
      intro i hi
      have h1 := hat i hi
      have he : elems[i]? = some (elems[i]'(by omega)) := List.getElem?_eq_getElem (by omega)
      rw [he, Option.bind_eq_some_iff] at h1
      obtain ⟨cs, hcs, ht⟩ := h1
      rw [cells_ar] at hcs
      obtain ⟨_, hl4, hcell⟩ := World.cells?_some hcs
      obtain ⟨e, rfl, hef⟩ := ar_of hl4 ht
      have hsp : spot = none := by
        have h00 := hat 0 (by omega)
        have he0 : elems[0]? = some (elems[0]'(by omega)) := List.getElem?_eq_getElem (by omega)
        rw [he0, Option.bind_eq_some_iff] at h00
        obtain ⟨cs0, hcs0, _⟩ := h00
        simp only [cells_ar] at hcs0
        obtain ⟨_, hl40, hcell0⟩ := World.cells?_some hcs0
        have e00 := hcell0 0 (by omega)
        rw [List.getElem?_eq_getElem (by omega)] at e00
        simpa [Addr.add] using World.cell?_spot e00
      subst hsp
      have hadd : ∀ j, ((⟨b, o, none⟩ : Addr).add (i * 2)).add j = ⟨b, o + i * 2 + j, none⟩ := fun j => by rw [add_at, add_at]
      refine ⟨e, rfl, hef, fun r v hv => ?_⟩
      have hr : r < 2 := (List.getElem?_eq_some_iff.1 hv).1
      have f0 := hcell r (by omega)
      rw [hadd] at f0
      rw [f0, hv]
    haveI : Inhabited Ar := ⟨⟨0, 0⟩⟩
    obtain ⟨f, hfn⟩ := choose_lt hrow
    refine ⟨some ⟨b, o, spot⟩, cap, (List.range len).map f, by simp, ⟨by simpa using hlc, hcm, fun h0 => ?_⟩, fun x hx => ?_, fun h => by cases h⟩
    · simp only [List.length_map, List.length_range] at h0
      obtain ⟨rfl, _⟩ := hfn 0 h0
      refine ⟨b, o, rfl, fun i hi r v hv => ?_⟩
      simp only [List.length_map, List.length_range] at hi
      simp only [List.getElem_map, List.getElem_range] at hv
      exact (hfn i hi).2.2 r v hv
    · obtain ⟨i, hi, rfl⟩ := List.mem_map.1 hx
      exact (hfn i (List.mem_range.1 hi)).2.1
end

end Go.Proofs.Ythohjcfpobeplaa.Rg
