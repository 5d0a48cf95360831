/-
  How a slice of bindings that came in is read.
-/
import Derived.Test.YtlghphmehlmehaaDoorRtMem
import Derived.Deep.Slices
import Derived.Deep.Draws
import Derived.SizedLaws
namespace Go.Proofs.YtlghphmehlmehaaDoor.Rt
open Go.ChangeShapes Go.WideShapes Go.ChangeAt Go.RowKit Go.Deep Top
set_option linter.unusedVariables false

/-- bindings that came in: in memory, and no more than a machine holds. -/
structure BArg (w : World) (a : Option Addr) (cap : Nat) (l : List Bd) : Prop where
  at' : BsAt w a cap l
  size : l.length * 56 ≤ 140737488351232
  none : a = none → cap = 0

theorem cells_bd : Tryd.prog.cellsOf 28 = 4 := by kernel_rfl
theorem cells_int : Tryd.prog.cellsOf 3 = 1 := by kernel_rfl
theorem cells_str : Tryd.prog.cellsOf 9 = 1 := by kernel_rfl
theorem bytes_bd : Tryd.prog.bytesOf 28 = 56 := by kernel_rfl

section
variable {H : Type} {enc : TypeId × Value → H} {w : World} {base : Nat} {held : Bool}
theorem four' {α : Type} {l : List α} (h : l.length = 4) : ∃ a b c d, l = [a, b, c, d] := by
  match l, h with
  | [a, b, c, d], _ => exact ⟨a, b, c, d, rfl⟩
theorem bd_of {n : Nat} {cs : List Value} {y : DataW H × List MemPlace} (hcs : cs.length = 4) (h : DataW.trod enc Tryd.prog w base (fun _ => true) held n 28 cs = some y) :
    ∃ b : Bd, cs = bdC b := by
  obtain ⟨c0, c1, c2, c3, rfl⟩ := four' hcs
  obtain ⟨ys, m, hm, rfl, hl, hlen, hat⟩ := DataW.trod_struct Tryd.underlying28 h
  have t0 := hat 0 _ rfl
  have t1 := hat 1 _ rfl
  have t2 := hat 2 _ rfl
  have t3 := hat 3 _ rfl
  simp only [List.getElem_toArray, List.getElem_cons_zero, List.getElem_cons_succ, cells_int, cells_str, List.drop_zero, List.drop_succ_cons, List.take_succ_cons, List.take_zero] at t0 t1 t2 t3
  simp only [List.size_toArray, List.length_cons, List.length_nil] at hlen
  match ys, hlen with
  | [y0, y1, y2, y3], _ =>
    obtain ⟨s0, e0, _, w0⟩ := DataW.trod_string Tryd.underlying9 t0
    obtain ⟨s1, e1, _, w1⟩ := DataW.trod_string Tryd.underlying9 t1
    obtain ⟨s2, e2, _, w2⟩ := DataW.trod_string Tryd.underlying9 t2
    obtain ⟨k, e3, _, w3⟩ := DataW.trod_int Tryd.underlying3 t3
    refine ⟨⟨s0.data.toList, s1.data.toList, s2.data.toList, k⟩, ?_⟩
    simp only [List.cons.injEq, and_true] at e0 e1 e2 e3
    rw [e0, e1, e2, e3]
    rfl

/-- an argument that is a slice of bindings. -/
theorem bs_arg {v : Value} {d : DataW H} {p : List MemPlace} (h : DataW.Trod enc Tryd.prog w base (fun _ => true) held 22 v d p) (hv : ∃ a len cap, v = .slice a len cap)
    (hz : ∀ elems spare : List (DataW H), d = .slice elems spare → (elems.length + spare.length) * Tryd.prog.bytesOf 28 ≤ reachBytes) :
    ∃ (a : Option Addr) (cap : Nat) (l : List Bd), v = .slice a l.length cap ∧ BArg w a cap l := by
  obtain ⟨n, h⟩ := h
  obtain ⟨a, len, cap, rfl⟩ := hv
  rcases DataW.trod_slice Tryd.underlying22 (by simpa [Value.cells] using h) with ⟨hv, _⟩ | ⟨ad, len', cap', elems, rest, m, hn, hv, hd, hb, hlc, hcm, hel, hat, _, _⟩
  · have hv : Value.slice a len cap = .slice none 0 0 := by simpa using hv
    obtain ⟨rfl, rfl, rfl⟩ := Value.slice.inj hv
    exact ⟨none, 0, [], rfl, RowsAt.nil _ _ _ _ _ (by simp [maxLen]), by simp, fun _ => rfl⟩
  · have hv : Value.slice a len cap = .slice (some ad) len' cap' := by simpa using hv
    obtain ⟨rfl, rfl, rfl⟩ := Value.slice.inj hv
    simp only [Prod.mk.injEq] at hd
    have hsz := hz _ _ hd.1
    rw [bytes_bd, List.length_map, List.length_map, hel] at hsz
    unfold reachBytes at hsz
    obtain ⟨b, o, spot⟩ := ad
    have hrow : ∀ i, i < len → ∃ e : Bd, spot = none ∧ ∀ (r : Nat) (v : Value), (bdC e)[r]? = some v → w.cell? ⟨b, o + i * 4 + r, none⟩ = some v := by
      intro i hi
      have h1 := hat i hi
      have he : elems[i]? = some (elems[i]'(by omega)) := List.getElem?_eq_getElem (by omega)
      rw [he, Option.bind_eq_some_iff] at h1
      obtain ⟨cs, hcs, ht⟩ := h1
      rw [cells_bd] at hcs
      obtain ⟨_, hl4, hcell⟩ := World.cells?_some hcs
      obtain ⟨e, rfl⟩ := bd_of hl4 ht
      have hsp : spot = none := by
        have h00 := hat 0 (by omega)
        have he0 : elems[0]? = some (elems[0]'(by omega)) := List.getElem?_eq_getElem (by omega)
        rw [he0, Option.bind_eq_some_iff] at h00
        obtain ⟨cs0, hcs0, _⟩ := h00
        simp only [cells_bd] at hcs0
        obtain ⟨_, hl40, hcell0⟩ := World.cells?_some hcs0
        have e00 := hcell0 0 (by omega)
        rw [List.getElem?_eq_getElem (by omega)] at e00
        simpa [Addr.add] using World.cell?_spot e00
      subst hsp
      have hadd : ∀ j, ((⟨b, o, none⟩ : Addr).add (i * 4)).add j = ⟨b, o + i * 4 + j, none⟩ := fun j => by rw [add_at, add_at]
      refine ⟨e, rfl, fun r v hv => ?_⟩
      have hr : r < 4 := (List.getElem?_eq_some_iff.1 hv).1
      have f0 := hcell r (by omega)
      rw [hadd] at f0
      rw [f0, hv]
    haveI : Inhabited Bd := ⟨⟨[], [], [], 0⟩⟩
    obtain ⟨f, hfn⟩ := choose_lt hrow
    refine ⟨some ⟨b, o, spot⟩, cap, (List.range len).map f, by simp, ⟨by simpa using hlc, hcm, fun h0 => ?_⟩, by simp; omega, fun h => by cases h⟩
    simp only [List.length_map, List.length_range] at h0
    obtain ⟨rfl, _⟩ := hfn 0 h0
    refine ⟨b, o, rfl, fun i hi r v hv => ?_⟩
    simp only [List.length_map, List.length_range] at hi
    simp only [List.getElem_map, List.getElem_range] at hv
    exact (hfn i hi).2 r v hv
end

end Go.Proofs.YtlghphmehlmehaaDoor.Rt
