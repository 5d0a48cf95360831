/-
  How messages, held ones, marks, a shard, a step, a slice of steps that came in are read.
-/
import Derived.Test.YthohjcfpobeplaaShStep
import Derived.Test.YthohjcfpobeplaaShTold
import Derived.Deep.Slices
import Derived.Deep.Draws
import Derived.SizedLaws
namespace Go.Proofs.Ythohjcfpobeplaa.Sh
open Go.ChangeShapes Go.WideShapes Go.ChangeAt Go.RowKit Go.Deep Rg
set_option linter.unusedVariables false
set_option linter.unusedSimpArgs false

theorem cells_int : Try.prog.cellsOf 3 = 1 := by kernel_rfl
theorem cells_str : Try.prog.cellsOf 9 = 1 := by kernel_rfl
theorem cells_bool : Try.prog.cellsOf 4 = 1 := by kernel_rfl
theorem cells_msg : Try.prog.cellsOf 35 = 5 := by kernel_rfl
theorem cells_held : Try.prog.cellsOf 37 = 6 := by kernel_rfl
theorem cells_mark : Try.prog.cellsOf 93 = 3 := by kernel_rfl
theorem cells_msgs : Try.prog.cellsOf 22 = 1 := by kernel_rfl
theorem cells_helds : Try.prog.cellsOf 23 = 1 := by kernel_rfl
theorem cells_marks : Try.prog.cellsOf 24 = 1 := by kernel_rfl
theorem cells_op : Try.prog.cellsOf 48 = 6 := by kernel_rfl

section
variable {H : Type} {enc : TypeId × Value → H} {w : World} {base : Nat} {held : Bool}
theorem one {α : Type} {l : List α} (h : l.length = 1) : ∃ a, l = [a] := by
  match l, h with
  | [a], _ => exact ⟨a, rfl⟩
theorem three' {α : Type} {l : List α} (h : l.length = 3) : ∃ a b c, l = [a, b, c] := by
  match l, h with
  | [a, b, c], _ => exact ⟨a, b, c, rfl⟩
theorem five' {α : Type} {l : List α} (h : l.length = 5) : ∃ a b c d e, l = [a, b, c, d, e] := by
  match l, h with
  | [a, b, c, d, e], _ => exact ⟨a, b, c, d, e, rfl⟩
theorem six' {α : Type} {l : List α} (h : l.length = 6) : ∃ a b c d e f, l = [a, b, c, d, e, f] := by
  match l, h with
  | [a, b, c, d, e, f], _ => exact ⟨a, b, c, d, e, f, rfl⟩

theorem msg_of {n : Nat} {cs : List Value} {y : DataW H × List MemPlace} (hcs : cs.length = 5) (h : DataW.trod enc Try.prog w base (fun _ => true) held n 35 cs = some y) :
    ∃ m : Mg, cs = mgC m := by
  obtain ⟨c0, c1, c2, c3, c4, rfl⟩ := five' hcs
  obtain ⟨ys, m, hm, rfl, hl, hlen, hat⟩ := DataW.trod_struct Try.underlying35 h
  have t0 := hat 0 _ rfl
  have t1 := hat 1 _ rfl
  have t2 := hat 2 _ rfl
  have t3 := hat 3 _ rfl
  have t4 := hat 4 _ rfl
  simp only [List.getElem_toArray, List.getElem_cons_zero, List.getElem_cons_succ, cells_int, cells_str, cells_bool, List.drop_zero, List.drop_succ_cons, List.take_succ_cons, List.take_zero] at t0 t1 t2 t3 t4
  simp only [List.size_toArray, List.length_cons, List.length_nil] at hlen
  match ys, hlen with
  | [y0, y1, y2, y3, y4], _ =>
    obtain ⟨k0, e0, _, w0⟩ := DataW.trod_int Try.underlying3 t0
    obtain ⟨k1, e1, _, w1⟩ := DataW.trod_int Try.underlying3 t1
    obtain ⟨s2, e2, _, w2⟩ := DataW.trod_string Try.underlying9 t2
    obtain ⟨s3, e3, _, w3⟩ := DataW.trod_string Try.underlying9 t3
    obtain ⟨k4, e4, _⟩ := DataW.trod_bool Try.underlying4 t4
    refine ⟨⟨k0, k1, s2.data.toList, s3.data.toList, k4⟩, ?_⟩
    simp only [List.cons.injEq, and_true] at e0 e1 e2 e3 e4
    rw [e0, e1, e2, e3, e4]
    rfl
theorem held_of {n : Nat} {cs : List Value} {y : DataW H × List MemPlace} (hcs : cs.length = 6) (h : DataW.trod enc Try.prog w base (fun _ => true) held n 37 cs = some y) :
    ∃ m : Hd, cs = hdC m := by
  obtain ⟨c0, c1, c2, c3, c4, c5, rfl⟩ := six' hcs
  obtain ⟨ys, m, hm, rfl, hl, hlen, hat⟩ := DataW.trod_struct Try.underlying37 h
  have t0 := hat 0 _ rfl
  have t1 := hat 1 _ rfl
  simp only [List.getElem_toArray, List.getElem_cons_zero, List.getElem_cons_succ, cells_int, cells_msg, List.drop_zero, List.drop_succ_cons, List.take_succ_cons, List.take_zero] at t0 t1
  simp only [List.size_toArray, List.length_cons, List.length_nil] at hlen
  match ys, hlen with
  | [y0, y1], _ =>
    obtain ⟨k0, e0, _, w0⟩ := DataW.trod_int Try.underlying3 t0
    obtain ⟨g, e1⟩ := msg_of rfl t1
    refine ⟨⟨k0, g⟩, ?_⟩
    simp only [List.cons.injEq, and_true] at e0
    rw [e0, e1]
    rfl
theorem mark_of {n : Nat} {cs : List Value} {y : DataW H × List MemPlace} (hcs : cs.length = 3) (h : DataW.trod enc Try.prog w base (fun _ => true) held n 93 cs = some y) :
    ∃ m : Mk, cs = mkC m := by
  obtain ⟨c0, c1, c2, rfl⟩ := three' hcs
  obtain ⟨ys, m, hm, rfl, hl, hlen, hat⟩ := DataW.trod_struct Try.underlying93 h
  have t0 := hat 0 _ rfl
  have t1 := hat 1 _ rfl
  have t2 := hat 2 _ rfl
  simp only [List.getElem_toArray, List.getElem_cons_zero, List.getElem_cons_succ, cells_int, cells_str, List.drop_zero, List.drop_succ_cons, List.take_succ_cons, List.take_zero] at t0 t1 t2
  simp only [List.size_toArray, List.length_cons, List.length_nil] at hlen
  match ys, hlen with
  | [y0, y1, y2], _ =>
    obtain ⟨k0, e0, _, w0⟩ := DataW.trod_int Try.underlying3 t0
    obtain ⟨s1, e1, _, w1⟩ := DataW.trod_string Try.underlying9 t1
    obtain ⟨k2, e2, _, w2⟩ := DataW.trod_int Try.underlying3 t2
    refine ⟨⟨k0, s1.data.toList, k2⟩, ?_⟩
    simp only [List.cons.injEq, and_true] at e0 e1 e2
    rw [e0, e1, e2]
    rfl

/-- an argument that is a slice of msgs. -/
theorem msgs_of {n : Nat} {cs : List Value} {y : DataW H × List MemPlace} (hcs : cs.length = 1) (h : DataW.trod enc Try.prog w base (fun _ => true) held n 22 cs = some y) :
    ∃ (a : Option Addr) (cap : Nat) (l : List Mg), cs = [.slice a l.length cap] ∧ RowsAt 5 mgC w a cap l ∧ (a = none → cap = 0) := by
  obtain ⟨c, rfl⟩ := one hcs
  have e3 : ∃ a len cap, c = .slice a len cap := by
    rcases DataW.trod_slice Try.underlying22 h with ⟨hv, _⟩ | ⟨ad, len, cap, elems, rest, m', hn, hv, _⟩
    · exact ⟨_, _, _, by simpa using hv⟩
    · exact ⟨_, _, _, by simpa using hv⟩
  obtain ⟨a, len, cap, rfl⟩ := e3
  rcases DataW.trod_slice Try.underlying22 h with ⟨hv, _⟩ | ⟨ad, len', cap', elems, rest, m, hn, hv, hd, hb, hlc, hcm, hel, hat, _, _⟩
  · have hv : Value.slice a len cap = .slice none 0 0 := by simpa using hv
    obtain ⟨rfl, rfl, rfl⟩ := Value.slice.inj hv
    exact ⟨none, 0, [], rfl, RowsAt.nil _ _ _ _ _ (by simp [maxLen]), fun _ => rfl⟩
  · have hv : Value.slice a len cap = .slice (some ad) len' cap' := by simpa using hv
    obtain ⟨rfl, rfl, rfl⟩ := Value.slice.inj hv
    obtain ⟨b, o, spot⟩ := ad
    have hrow : ∀ i, i < len → ∃ e : Mg, spot = none ∧ ∀ (r : Nat) (v : Value), (mgC e)[r]? = some v → w.cell? ⟨b, o + i * 5 + r, none⟩ = some v := by
      intro i hi
      have h1 := hat i hi
      have he : elems[i]? = some (elems[i]'(by omega)) := List.getElem?_eq_getElem (by omega)
      rw [he, Option.bind_eq_some_iff] at h1
      obtain ⟨cs, hcs, ht⟩ := h1
      rw [cells_msg] at hcs
      obtain ⟨_, hl4, hcell⟩ := World.cells?_some hcs
      obtain ⟨e, rfl⟩ := msg_of hl4 ht
      have hsp : spot = none := by
        have h00 := hat 0 (by omega)
        have he0 : elems[0]? = some (elems[0]'(by omega)) := List.getElem?_eq_getElem (by omega)
        rw [he0, Option.bind_eq_some_iff] at h00
        obtain ⟨cs0, hcs0, _⟩ := h00
        simp only [cells_msg] at hcs0
        obtain ⟨_, hl40, hcell0⟩ := World.cells?_some hcs0
        have e00 := hcell0 0 (by omega)
        rw [List.getElem?_eq_getElem (by omega)] at e00
        simpa [Addr.add] using World.cell?_spot e00
      subst hsp
      have hadd : ∀ j, ((⟨b, o, none⟩ : Addr).add (i * 5)).add j = ⟨b, o + i * 5 + j, none⟩ := fun j => by rw [add_at, add_at]
      refine ⟨e, rfl, fun r v hv => ?_⟩
      have hr : r < 5 := (List.getElem?_eq_some_iff.1 hv).1
      have f0 := hcell r (by omega)
      rw [hadd] at f0
      rw [f0, hv]
    haveI : Inhabited Mg := ⟨mg0⟩
    obtain ⟨f, hfn⟩ := choose_lt hrow
    refine ⟨some ⟨b, o, spot⟩, cap, (List.range len).map f, by simp, ⟨by simpa using hlc, hcm, fun h0 => ?_⟩, fun h => by cases h⟩
    simp only [List.length_map, List.length_range] at h0
    obtain ⟨rfl, _⟩ := hfn 0 h0
    refine ⟨b, o, rfl, fun i hi r v hv => ?_⟩
    simp only [List.length_map, List.length_range] at hi
    simp only [List.getElem_map, List.getElem_range] at hv
    exact (hfn i hi).2 r v hv
theorem msgs_arg {v : Value} {d : DataW H} {p : List MemPlace} (h : DataW.Trod enc Try.prog w base (fun _ => true) held 22 v d p) (hv : ∃ a len cap, v = .slice a len cap) :
    ∃ (a : Option Addr) (cap : Nat) (l : List Mg), v = .slice a l.length cap ∧ RowsAt 5 mgC w a cap l ∧ (a = none → cap = 0) := by
  obtain ⟨n, h⟩ := h
  obtain ⟨a, len, cap, rfl⟩ := hv
  obtain ⟨a', cap', l, e, h1, h2⟩ := msgs_of (by simp [Value.cells]) h
  have e : Value.slice a len cap = .slice a' l.length cap' := by simpa [Value.cells] using e
  exact ⟨a', cap', l, e, h1, h2⟩

/-- an argument that is a slice of helds. -/
theorem helds_of {n : Nat} {cs : List Value} {y : DataW H × List MemPlace} (hcs : cs.length = 1) (h : DataW.trod enc Try.prog w base (fun _ => true) held n 23 cs = some y) :
    ∃ (a : Option Addr) (cap : Nat) (l : List Hd), cs = [.slice a l.length cap] ∧ RowsAt 6 hdC w a cap l ∧ (a = none → cap = 0) := by
  obtain ⟨c, rfl⟩ := one hcs
  have e3 : ∃ a len cap, c = .slice a len cap := by
    rcases DataW.trod_slice Try.underlying23 h with ⟨hv, _⟩ | ⟨ad, len, cap, elems, rest, m', hn, hv, _⟩
    · exact ⟨_, _, _, by simpa using hv⟩
    · exact ⟨_, _, _, by simpa using hv⟩
  obtain ⟨a, len, cap, rfl⟩ := e3
  rcases DataW.trod_slice Try.underlying23 h with ⟨hv, _⟩ | ⟨ad, len', cap', elems, rest, m, hn, hv, hd, hb, hlc, hcm, hel, hat, _, _⟩
  · have hv : Value.slice a len cap = .slice none 0 0 := by simpa using hv
    obtain ⟨rfl, rfl, rfl⟩ := Value.slice.inj hv
    exact ⟨none, 0, [], rfl, RowsAt.nil _ _ _ _ _ (by simp [maxLen]), fun _ => rfl⟩
  · have hv : Value.slice a len cap = .slice (some ad) len' cap' := by simpa using hv
    obtain ⟨rfl, rfl, rfl⟩ := Value.slice.inj hv
    obtain ⟨b, o, spot⟩ := ad
    have hrow : ∀ i, i < len → ∃ e : Hd, spot = none ∧ ∀ (r : Nat) (v : Value), (hdC e)[r]? = some v → w.cell? ⟨b, o + i * 6 + r, none⟩ = some v := by
      intro i hi
      have h1 := hat i hi
      have he : elems[i]? = some (elems[i]'(by omega)) := List.getElem?_eq_getElem (by omega)
      rw [he, Option.bind_eq_some_iff] at h1
      obtain ⟨cs, hcs, ht⟩ := h1
      rw [cells_held] at hcs
      obtain ⟨_, hl4, hcell⟩ := World.cells?_some hcs
      obtain ⟨e, rfl⟩ := held_of hl4 ht
      have hsp : spot = none := by
        have h00 := hat 0 (by omega)
        have he0 : elems[0]? = some (elems[0]'(by omega)) := List.getElem?_eq_getElem (by omega)
        rw [he0, Option.bind_eq_some_iff] at h00
        obtain ⟨cs0, hcs0, _⟩ := h00
        simp only [cells_held] at hcs0
        obtain ⟨_, hl40, hcell0⟩ := World.cells?_some hcs0
        have e00 := hcell0 0 (by omega)
        rw [List.getElem?_eq_getElem (by omega)] at e00
        simpa [Addr.add] using World.cell?_spot e00
      subst hsp
      have hadd : ∀ j, ((⟨b, o, none⟩ : Addr).add (i * 6)).add j = ⟨b, o + i * 6 + j, none⟩ := fun j => by rw [add_at, add_at]
      refine ⟨e, rfl, fun r v hv => ?_⟩
      have hr : r < 6 := (List.getElem?_eq_some_iff.1 hv).1
      have f0 := hcell r (by omega)
      rw [hadd] at f0
      rw [f0, hv]
    haveI : Inhabited Hd := ⟨hd0⟩
    obtain ⟨f, hfn⟩ := choose_lt hrow
    refine ⟨some ⟨b, o, spot⟩, cap, (List.range len).map f, by simp, ⟨by simpa using hlc, hcm, fun h0 => ?_⟩, fun h => by cases h⟩
    simp only [List.length_map, List.length_range] at h0
    obtain ⟨rfl, _⟩ := hfn 0 h0
    refine ⟨b, o, rfl, fun i hi r v hv => ?_⟩
    simp only [List.length_map, List.length_range] at hi
    simp only [List.getElem_map, List.getElem_range] at hv
    exact (hfn i hi).2 r v hv
theorem helds_arg {v : Value} {d : DataW H} {p : List MemPlace} (h : DataW.Trod enc Try.prog w base (fun _ => true) held 23 v d p) (hv : ∃ a len cap, v = .slice a len cap) :
    ∃ (a : Option Addr) (cap : Nat) (l : List Hd), v = .slice a l.length cap ∧ RowsAt 6 hdC w a cap l ∧ (a = none → cap = 0) := by
  obtain ⟨n, h⟩ := h
  obtain ⟨a, len, cap, rfl⟩ := hv
  obtain ⟨a', cap', l, e, h1, h2⟩ := helds_of (by simp [Value.cells]) h
  have e : Value.slice a len cap = .slice a' l.length cap' := by simpa [Value.cells] using e
  exact ⟨a', cap', l, e, h1, h2⟩

/-- an argument that is a slice of marks. -/
theorem marks_of {n : Nat} {cs : List Value} {y : DataW H × List MemPlace} (hcs : cs.length = 1) (h : DataW.trod enc Try.prog w base (fun _ => true) held n 24 cs = some y) :
    ∃ (a : Option Addr) (cap : Nat) (l : List Mk), cs = [.slice a l.length cap] ∧ RowsAt 3 mkC w a cap l ∧ (a = none → cap = 0) := by
  obtain ⟨c, rfl⟩ := one hcs
  have e3 : ∃ a len cap, c = .slice a len cap := by
    rcases DataW.trod_slice Try.underlying24 h with ⟨hv, _⟩ | ⟨ad, len, cap, elems, rest, m', hn, hv, _⟩
    · exact ⟨_, _, _, by simpa using hv⟩
    · exact ⟨_, _, _, by simpa using hv⟩
  obtain ⟨a, len, cap, rfl⟩ := e3
  rcases DataW.trod_slice Try.underlying24 h with ⟨hv, _⟩ | ⟨ad, len', cap', elems, rest, m, hn, hv, hd, hb, hlc, hcm, hel, hat, _, _⟩
  · have hv : Value.slice a len cap = .slice none 0 0 := by simpa using hv
    obtain ⟨rfl, rfl, rfl⟩ := Value.slice.inj hv
    exact ⟨none, 0, [], rfl, RowsAt.nil _ _ _ _ _ (by simp [maxLen]), fun _ => rfl⟩
  · have hv : Value.slice a len cap = .slice (some ad) len' cap' := by simpa using hv
    obtain ⟨rfl, rfl, rfl⟩ := Value.slice.inj hv
    obtain ⟨b, o, spot⟩ := ad
    have hrow : ∀ i, i < len → ∃ e : Mk, spot = none ∧ ∀ (r : Nat) (v : Value), (mkC e)[r]? = some v → w.cell? ⟨b, o + i * 3 + r, none⟩ = some v := by
      intro i hi
      have h1 := hat i hi
      have he : elems[i]? = some (elems[i]'(by omega)) := List.getElem?_eq_getElem (by omega)
      rw [he, Option.bind_eq_some_iff] at h1
      obtain ⟨cs, hcs, ht⟩ := h1
      rw [cells_mark] at hcs
      obtain ⟨_, hl4, hcell⟩ := World.cells?_some hcs
      obtain ⟨e, rfl⟩ := mark_of hl4 ht
      have hsp : spot = none := by
        have h00 := hat 0 (by omega)
        have he0 : elems[0]? = some (elems[0]'(by omega)) := List.getElem?_eq_getElem (by omega)
        rw [he0, Option.bind_eq_some_iff] at h00
        obtain ⟨cs0, hcs0, _⟩ := h00
        simp only [cells_mark] at hcs0
        obtain ⟨_, hl40, hcell0⟩ := World.cells?_some hcs0
        have e00 := hcell0 0 (by omega)
        rw [List.getElem?_eq_getElem (by omega)] at e00
        simpa [Addr.add] using World.cell?_spot e00
      subst hsp
      have hadd : ∀ j, ((⟨b, o, none⟩ : Addr).add (i * 3)).add j = ⟨b, o + i * 3 + j, none⟩ := fun j => by rw [add_at, add_at]
      refine ⟨e, rfl, fun r v hv => ?_⟩
      have hr : r < 3 := (List.getElem?_eq_some_iff.1 hv).1
      have f0 := hcell r (by omega)
      rw [hadd] at f0
      rw [f0, hv]
    haveI : Inhabited Mk := ⟨⟨0, [], 0⟩⟩
    obtain ⟨f, hfn⟩ := choose_lt hrow
    refine ⟨some ⟨b, o, spot⟩, cap, (List.range len).map f, by simp, ⟨by simpa using hlc, hcm, fun h0 => ?_⟩, fun h => by cases h⟩
    simp only [List.length_map, List.length_range] at h0
    obtain ⟨rfl, _⟩ := hfn 0 h0
    refine ⟨b, o, rfl, fun i hi r v hv => ?_⟩
    simp only [List.length_map, List.length_range] at hi
    simp only [List.getElem_map, List.getElem_range] at hv
    exact (hfn i hi).2 r v hv
theorem marks_arg {v : Value} {d : DataW H} {p : List MemPlace} (h : DataW.Trod enc Try.prog w base (fun _ => true) held 24 v d p) (hv : ∃ a len cap, v = .slice a len cap) :
    ∃ (a : Option Addr) (cap : Nat) (l : List Mk), v = .slice a l.length cap ∧ RowsAt 3 mkC w a cap l ∧ (a = none → cap = 0) := by
  obtain ⟨n, h⟩ := h
  obtain ⟨a, len, cap, rfl⟩ := hv
  obtain ⟨a', cap', l, e, h1, h2⟩ := marks_of (by simp [Value.cells]) h
  have e : Value.slice a len cap = .slice a' l.length cap' := by simpa [Value.cells] using e
  exact ⟨a', cap', l, e, h1, h2⟩

/-- a step that came in. -/
theorem op_of {n : Nat} {cs : List Value} {y : DataW H × List MemPlace} (hcs : cs.length = 6) (h : DataW.trod enc Try.prog w base (fun _ => true) held n 48 cs = some y) :
    ∃ (o : OpD) (a : Option Addr) (cap : Nat), cs = [.int .i64 o.kind, .int .i64 o.pub, .int .i64 o.key, .int .i64 o.many, .int .i64 o.n, .slice a o.l.length cap] ∧ OpAt w a cap o := by
  obtain ⟨c0, c1, c2, c3, c4, c5, rfl⟩ := six' hcs
  obtain ⟨ys, m, hm, rfl, hl, hlen, hat⟩ := DataW.trod_struct Try.underlying48 h
  have t0 := hat 0 _ rfl
  have t1 := hat 1 _ rfl
  have t2 := hat 2 _ rfl
  have t3 := hat 3 _ rfl
  have t4 := hat 4 _ rfl
  have t5 := hat 5 _ rfl
  simp only [List.getElem_toArray, List.getElem_cons_zero, List.getElem_cons_succ, cells_int, cells_msgs, List.drop_zero, List.drop_succ_cons, List.take_succ_cons, List.take_zero] at t0 t1 t2 t3 t4 t5
  simp only [List.size_toArray, List.length_cons, List.length_nil] at hlen
  match ys, hlen with
  | [y0, y1, y2, y3, y4, y5], _ =>
    obtain ⟨k0, e0, _, w0⟩ := DataW.trod_int Try.underlying3 t0
    obtain ⟨k1, e1, _, w1⟩ := DataW.trod_int Try.underlying3 t1
    obtain ⟨k2, e2, _, w2⟩ := DataW.trod_int Try.underlying3 t2
    obtain ⟨k3, e3, _, w3⟩ := DataW.trod_int Try.underlying3 t3
    obtain ⟨k4, e4, _, w4⟩ := DataW.trod_int Try.underlying3 t4
    obtain ⟨a, cap, l, e5, h1, h2⟩ := msgs_of rfl t5
    refine ⟨⟨k0, k1, k2, k3, k4, l⟩, a, cap, ?_, ⟨h1, h2⟩⟩
    simp only [List.cons.injEq, and_true] at e0 e1 e2 e3 e4 e5
    rw [e0, e1, e2, e3, e4, e5]
set_option maxRecDepth 100000 in
/-- an argument that is a step. -/
theorem op_arg {v : Value} {d : DataW H} {p : List MemPlace} (h : DataW.Trod enc Try.prog w base (fun _ => true) held 48 v d p) {r : Reach} {b0 : Nat} (hv : Value.okWide Try.prog w r b0 48 v) :
    ∃ (o : OpD) (a : Option Addr) (cap : Nat), v = .agg #[.int .i64 o.kind, .int .i64 o.pub, .int .i64 o.key, .int .i64 o.many, .int .i64 o.n, .slice a o.l.length cap] ∧ OpAt w a cap o := by
  obtain ⟨cs, rfl, hsz⟩ := okWide_struct Try.underlying48 hv
  obtain ⟨n, h⟩ := h
  obtain ⟨l⟩ := cs
  rw [cells_op] at hsz
  obtain ⟨f, a, cap, he, hf⟩ := op_of (by simpa using hsz) (by simpa [Value.cells] using h)
  exact ⟨f, a, cap, by rw [he], hf⟩

/-- a shard that came in: its rows may be long. -/
structure SdArg (w : World) (ra : Option Addr) (rc : Nat) (ha : Option Addr) (hc : Nat) (ma : Option Addr) (mc : Nat) (s : Sd) : Prop where
  rd : MgsAt w ra rc s.rd
  hd : HdsAt w ha hc s.hd
  ms : MksAt w ma mc s.ms
  nr : ra = none → rc = 0
  nh : ha = none → hc = 0
  nm : ma = none → mc = 0
theorem cells_sd : Try.prog.cellsOf 26 = 5 := by kernel_rfl
theorem shard_of {n : Nat} {cs : List Value} {y : DataW H × List MemPlace} (hcs : cs.length = 5) (h : DataW.trod enc Try.prog w base (fun _ => true) held n 26 cs = some y) :
    ∃ (s : Sd) (ra : Option Addr) (rc : Nat) (ha : Option Addr) (hc : Nat) (ma : Option Addr) (mc : Nat), cs = [.bool s.fr, .int .i64 s.nx, .slice ra s.rd.length rc, .slice ha s.hd.length hc, .slice ma s.ms.length mc] ∧ SdArg w ra rc ha hc ma mc s := by
  obtain ⟨c0, c1, c2, c3, c4, rfl⟩ := five' hcs
  obtain ⟨ys, m, hm, rfl, hl, hlen, hat⟩ := DataW.trod_struct Try.underlying26 h
  have t0 := hat 0 _ rfl
  have t1 := hat 1 _ rfl
  have t2 := hat 2 _ rfl
  have t3 := hat 3 _ rfl
  have t4 := hat 4 _ rfl
  simp only [List.getElem_toArray, List.getElem_cons_zero, List.getElem_cons_succ, cells_int, cells_bool, cells_msgs, cells_helds, cells_marks, List.drop_zero, List.drop_succ_cons, List.take_succ_cons, List.take_zero] at t0 t1 t2 t3 t4
  simp only [List.size_toArray, List.length_cons, List.length_nil] at hlen
  match ys, hlen with
  | [y0, y1, y2, y3, y4], _ =>
    obtain ⟨k0, e0, _⟩ := DataW.trod_bool Try.underlying4 t0
    obtain ⟨k1, e1, _, w1⟩ := DataW.trod_int Try.underlying3 t1
    obtain ⟨ra, rc, l2, e2, h2, n2⟩ := msgs_of rfl t2
    obtain ⟨ha, hc, l3, e3, h3, n3⟩ := helds_of rfl t3
    obtain ⟨ma, mc, l4, e4, h4, n4⟩ := marks_of rfl t4
    refine ⟨⟨k0, k1, l2, l3, l4⟩, ra, rc, ha, hc, ma, mc, ?_, ⟨h2, h3, h4, n2, n3, n4⟩⟩
    simp only [List.cons.injEq, and_true] at e0 e1 e2 e3 e4
    rw [e0, e1, e2, e3, e4]
set_option maxRecDepth 100000 in
/-- an argument that is a shard. -/
theorem shard_arg {v : Value} {d : DataW H} {p : List MemPlace} (h : DataW.Trod enc Try.prog w base (fun _ => true) held 26 v d p) {r : Reach} {b0 : Nat} (hv : Value.okWide Try.prog w r b0 26 v) :
    ∃ (s : Sd) (ra : Option Addr) (rc : Nat) (ha : Option Addr) (hc : Nat) (ma : Option Addr) (mc : Nat), v = .agg #[.bool s.fr, .int .i64 s.nx, .slice ra s.rd.length rc, .slice ha s.hd.length hc, .slice ma s.ms.length mc] ∧ SdArg w ra rc ha hc ma mc s := by
  obtain ⟨cs, rfl, hsz⟩ := okWide_struct Try.underlying26 hv
  obtain ⟨n, h⟩ := h
  obtain ⟨l⟩ := cs
  rw [cells_sd] at hsz
  obtain ⟨s, ra, rc, ha, hc, ma, mc, he, hf⟩ := shard_of (by simpa using hsz) (by simpa [Value.cells] using h)
  exact ⟨s, ra, rc, ha, hc, ma, mc, by rw [he], hf⟩

/-- an argument that is a slice of steps. -/
theorem ops_arg {v : Value} {d : DataW H} {p : List MemPlace} (h : DataW.Trod enc Try.prog w base (fun _ => true) held 45 v d p) (hv : ∃ a len cap, v = .slice a len cap) :
    ∃ (a : Option Addr) (cap : Nat) (l : List OpD), v = .slice a l.length cap ∧ OpsAt w a cap l := by
  obtain ⟨n, h⟩ := h
  obtain ⟨a, len, cap, rfl⟩ := hv
  rcases DataW.trod_slice Try.underlying45 (by simpa [Value.cells] using h) with ⟨hv, _⟩ | ⟨ad, len', cap', elems, rest, m, hn, hv, hd, hb, hlc, hcm, hel, hat, _, _⟩
  · have hv : Value.slice a len cap = .slice none 0 0 := by simpa using hv
    obtain ⟨rfl, rfl, rfl⟩ := Value.slice.inj hv
    exact ⟨none, 0, [], rfl, OpsAt.nil _⟩
  · have hv : Value.slice a len cap = .slice (some ad) len' cap' := by simpa using hv
    obtain ⟨rfl, rfl, rfl⟩ := Value.slice.inj hv
    obtain ⟨b, o, spot⟩ := ad
    have hrow : ∀ i, i < len → ∃ p : OpD × (Option Addr × Nat), spot = none ∧ (w.cell? ⟨b, o + i * 6, none⟩ = some (.int .i64 p.1.kind) ∧ w.cell? ⟨b, o + i * 6 + 1, none⟩ = some (.int .i64 p.1.pub) ∧ w.cell? ⟨b, o + i * 6 + 2, none⟩ = some (.int .i64 p.1.key) ∧ w.cell? ⟨b, o + i * 6 + 3, none⟩ = some (.int .i64 p.1.many) ∧ w.cell? ⟨b, o + i * 6 + 4, none⟩ = some (.int .i64 p.1.n) ∧ w.cell? ⟨b, o + i * 6 + 5, none⟩ = some (.slice p.2.1 p.1.l.length p.2.2)) ∧ OpAt w p.2.1 p.2.2 p.1 := by
      intro i hi
      have h1 := hat i hi
      have he : elems[i]? = some (elems[i]'(by omega)) := List.getElem?_eq_getElem (by omega)
      rw [he, Option.bind_eq_some_iff] at h1
      obtain ⟨cs, hcs, ht⟩ := h1
      rw [cells_op] at hcs
      obtain ⟨_, hl4, hcell⟩ := World.cells?_some hcs
      obtain ⟨e, ea, ec, rfl, hop⟩ := op_of hl4 ht
      have hsp : spot = none := by
        have h00 := hat 0 (by omega)
        have he0 : elems[0]? = some (elems[0]'(by omega)) := List.getElem?_eq_getElem (by omega)
        rw [he0, Option.bind_eq_some_iff] at h00
        obtain ⟨cs0, hcs0, _⟩ := h00
        simp only [cells_op] at hcs0
        obtain ⟨_, hl40, hcell0⟩ := World.cells?_some hcs0
        have e00 := hcell0 0 (by omega)
        rw [List.getElem?_eq_getElem (by omega)] at e00
        simpa [Addr.add] using World.cell?_spot e00
      subst hsp
      have hadd : ∀ j, ((⟨b, o, none⟩ : Addr).add (i * 6)).add j = ⟨b, o + i * 6 + j, none⟩ := fun j => by rw [add_at, add_at]
      have f0 := hcell 0 (by omega)
      have f1 := hcell 1 (by omega)
      have f2 := hcell 2 (by omega)
      have f3 := hcell 3 (by omega)
      have f4 := hcell 4 (by omega)
      have f5 := hcell 5 (by omega)
      simp only [hadd] at f0 f1 f2 f3 f4 f5
      exact ⟨(e, (ea, ec)), rfl, ⟨f0, f1, f2, f3, f4, f5⟩, hop⟩
    haveI : Inhabited OpD := ⟨⟨0, 0, 0, 0, 0, []⟩⟩
    obtain ⟨f, hfn⟩ := choose_lt hrow
    refine ⟨some ⟨b, o, spot⟩, cap, (List.range len).map fun i => (f i).1, by simp, ⟨by simpa using hlc, hcm, fun h0 => ?_⟩⟩
    simp only [List.length_map, List.length_range] at h0
    obtain ⟨rfl, _⟩ := hfn 0 h0
    refine ⟨b, o, rfl, fun i hi => ?_⟩
    simp only [List.length_map, List.length_range] at hi
    simp only [List.getElem_map, List.getElem_range]
    exact ⟨_, _, (hfn i hi).2.1, (hfn i hi).2.2⟩
end

end Go.Proofs.Ythohjcfpobeplaa.Sh
