/-
  A slice of law 13's calls that came in is read.
-/
import Derived.Test.YthohjcfpobeplaaBtTwo
import Derived.Test.YthohjcfpobeplaaShArg
namespace Go.Proofs.Ythohjcfpobeplaa.Bt
open Go.ChangeShapes Go.WideShapes Go.ChangeAt Go.RowKit Go.Deep Rg Sh
set_option linter.unusedVariables false
set_option linter.unusedSimpArgs false

theorem cells_call : Try.prog.cellsOf 73 = 6 := by kernel_rfl
section
variable {H : Type} {enc : TypeId × Value → H} {w : World} {base : Nat} {held : Bool}
theorem call_of {n : Nat} {cs : List Value} {y : DataW H × List MemPlace} (hcs : cs.length = 6) (h : DataW.trod enc Try.prog w base (fun _ => true) held n 73 cs = some y) :
    ∃ c : Cl, cs = clC c := by
  obtain ⟨c0, c1, c2, c3, c4, c5, rfl⟩ := six' hcs
  obtain ⟨ys, m, hm, rfl, hl, hlen, hat⟩ := DataW.trod_struct Try.underlying73 h
  have t0 := hat 0 _ rfl
  have t1 := hat 1 _ rfl
  have t2 := hat 2 _ rfl
  have t3 := hat 3 _ rfl
  have t4 := hat 4 _ rfl
  have t5 := hat 5 _ rfl
  simp only [List.getElem_toArray, List.getElem_cons_zero, List.getElem_cons_succ, cells_int, cells_str, List.drop_zero, List.drop_succ_cons, List.take_succ_cons, List.take_zero] at t0 t1 t2 t3 t4 t5
  simp only [List.size_toArray, List.length_cons, List.length_nil] at hlen
  match ys, hlen with
  | [y0, y1, y2, y3, y4, y5], _ =>
    obtain ⟨k0, e0, _, w0⟩ := DataW.trod_int Try.underlying3 t0
    obtain ⟨k1, e1, _, w1⟩ := DataW.trod_int Try.underlying3 t1
    obtain ⟨k2, e2, _, w2⟩ := DataW.trod_int Try.underlying3 t2
    obtain ⟨k3, e3, _, w3⟩ := DataW.trod_int Try.underlying3 t3
    obtain ⟨k4, e4, _, w4⟩ := DataW.trod_int Try.underlying3 t4
    obtain ⟨s5, e5, _, w5⟩ := DataW.trod_string Try.underlying9 t5
    refine ⟨⟨k0, k1, k2, k3, k4, s5.data.toList⟩, ?_⟩
    simp only [List.cons.injEq, and_true] at e0 e1 e2 e3 e4 e5
    rw [e0, e1, e2, e3, e4, e5]
    rfl

/-- an argument that is a slice of calls. -/
theorem calls_of {n : Nat} {cs : List Value} {y : DataW H × List MemPlace} (hcs : cs.length = 1) (h : DataW.trod enc Try.prog w base (fun _ => true) held n 65 cs = some y) :
    ∃ (a : Option Addr) (cap : Nat) (l : List Cl), cs = [.slice a l.length cap] ∧ RowsAt 6 clC w a cap l ∧ (a = none → cap = 0) := by
  obtain ⟨c, rfl⟩ := one hcs
  have e3 : ∃ a len cap, c = .slice a len cap := by
    rcases DataW.trod_slice Try.underlying65 h with ⟨hv, _⟩ | ⟨ad, len, cap, elems, rest, m', hn, hv, _⟩
    · exact ⟨_, _, _, by simpa using hv⟩
    · exact ⟨_, _, _, by simpa using hv⟩
  obtain ⟨a, len, cap, rfl⟩ := e3
  rcases DataW.trod_slice Try.underlying65 h with ⟨hv, _⟩ | ⟨ad, len', cap', elems, rest, m, hn, hv, hd, hb, hlc, hcm, hel, hat, _, _⟩
  · have hv : Value.slice a len cap = .slice none 0 0 := by simpa using hv
    obtain ⟨rfl, rfl, rfl⟩ := Value.slice.inj hv
    exact ⟨none, 0, [], rfl, RowsAt.nil _ _ _ _ _ (by simp [maxLen]), fun _ => rfl⟩
  · have hv : Value.slice a len cap = .slice (some ad) len' cap' := by simpa using hv
    obtain ⟨rfl, rfl, rfl⟩ := Value.slice.inj hv
    obtain ⟨b, o, spot⟩ := ad
    have hrow : ∀ i, i < len → ∃ e : Cl, spot = none ∧ ∀ (r : Nat) (v : Value), (clC e)[r]? = some v → w.cell? ⟨b, o + i * 6 + r, none⟩ = some v := by
      intro i hi
      have h1 := hat i hi
      have he : elems[i]? = some (elems[i]'(by omega)) := List.getElem?_eq_getElem (by omega)
      rw [he, Option.bind_eq_some_iff] at h1
      obtain ⟨cs, hcs, ht⟩ := h1
      rw [cells_call] at hcs
      obtain ⟨_, hl4, hcell⟩ := World.cells?_some hcs
      obtain ⟨e, rfl⟩ := call_of hl4 ht
      have hsp : spot = none := by
        have h00 := hat 0 (by omega)
        have he0 : elems[0]? = some (elems[0]'(by omega)) := List.getElem?_eq_getElem (by omega)
        rw [he0, Option.bind_eq_some_iff] at h00
        obtain ⟨cs0, hcs0, _⟩ := h00
        simp only [cells_call] at hcs0
        obtain ⟨_, hl40, hcell0⟩ := World.cells?_some hcs0
        have e00 := hcell0 0 (by omega)
        rw [List.getElem?_eq_getElem (by omega)] at e00
        simpa [Addr.add] using World.cell?_spot e00
      subst hsp
      have hadd : ∀ j, ((⟨b, o, none⟩ : Addr).add (i * 6)).add j = ⟨b, o + i * 6 + j, none⟩ := fun j => by rw [add_at, add_at]
      refine ⟨e, rfl, fun r v hv => ?_⟩
      have hr : r < 6 := (List.getElem?_eq_some_iff.1 hv).1
      have f0 := hcell r (by omega)
      rw [hadd] at f0
      rw [f0, hv]
    haveI : Inhabited Cl := ⟨⟨0, 0, 0, 0, 0, []⟩⟩
    obtain ⟨f, hfn⟩ := choose_lt hrow
    refine ⟨some ⟨b, o, spot⟩, cap, (List.range len).map f, by simp, ⟨by simpa using hlc, hcm, fun h0 => ?_⟩, fun h => by cases h⟩
    simp only [List.length_map, List.length_range] at h0
    obtain ⟨rfl, _⟩ := hfn 0 h0
    refine ⟨b, o, rfl, fun i hi r v hv => ?_⟩
    simp only [List.length_map, List.length_range] at hi
    simp only [List.getElem_map, List.getElem_range] at hv
    exact (hfn i hi).2 r v hv
theorem calls_arg {v : Value} {d : DataW H} {p : List MemPlace} (h : DataW.Trod enc Try.prog w base (fun _ => true) held 65 v d p) (hv : ∃ a len cap, v = .slice a len cap) :
    ∃ (a : Option Addr) (cap : Nat) (l : List Cl), v = .slice a l.length cap ∧ RowsAt 6 clC w a cap l ∧ (a = none → cap = 0) := by
  obtain ⟨n, h⟩ := h
  obtain ⟨a, len, cap, rfl⟩ := hv
  obtain ⟨a', cap', l, e, h1, h2⟩ := calls_of (by simp [Value.cells]) h
  have e : Value.slice a len cap = .slice a' l.length cap' := by simpa [Value.cells] using e
  exact ⟨a', cap', l, e, h1, h2⟩

end

end Go.Proofs.Ythohjcfpobeplaa.Bt
