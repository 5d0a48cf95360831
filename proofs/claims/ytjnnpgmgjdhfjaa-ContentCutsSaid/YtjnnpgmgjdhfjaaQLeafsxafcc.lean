/-
  A table in memory: how a slice of items reads as plain data, what keeps the reading, and that an argument reads so.
  The small functions of package value, walked.
-/
import Derived.Test.YtjnnpgmgjdhfjaaQOctDxbefc
import Derived.Test.YtjnnpgmgjdhfjaaQMDatxdcef
import Derived.Deep.Draws
import Derived.Lib.Hide
namespace Go.Proofs.Ytjnnpgmgjdhfjaa
open Go.ChangeShapes Go.WideShapes Go.ChangeAt Go.RowKit Go.Deep
set_option linter.unusedVariables false

/-- an item's five cells, v the last of them. -/
structure ItAt (w : World) (b o : Nat) (x : It) (v : Value) : Prop where
  c0 : w.cell? ⟨b, o, none⟩ = some (.string x.name)
  c1 : w.cell? ⟨b, o + 1, none⟩ = some (.int .i64 x.kind)
  c2 : w.cell? ⟨b, o + 2, none⟩ = some (.int .i64 x.n)
  c3 : w.cell? ⟨b, o + 3, none⟩ = some (.string x.s)
  c4 : w.cell? ⟨b, o + 4, none⟩ = some v
  m0 : x.name.size ≤ maxLen
  k1 : -9223372036854775808 ≤ x.kind ∧ x.kind ≤ 9223372036854775807
  k2 : -9223372036854775808 ≤ x.n ∧ x.n ≤ 9223372036854775807
  m3 : x.s.size ≤ maxLen

/-- the slice at a, with room for cap, reads as l; bs: the blocks in which l and the lists within it lie. -/
inductive SlAt (w : World) : List Nat → Option Addr → Nat → List It → Prop
  | intro {a : Option Addr} {cap : Nat} {l : List It} (b o : Nat) (vs : Nat → Option Addr × Nat) (bss : Nat → List Nat)
      (hcap : l.length ≤ cap) (hmax : cap ≤ maxLen) (ha : 0 < l.length → a = some ⟨b, o, none⟩) (hfr : 0 < l.length → w.frozen? ⟨b, o, none⟩ = false)
      (hc : ∀ (i : Nat) (h : i < l.length), ItAt w b (o + i * 5) l[i] (.slice (vs i).1 l[i].sub.length (vs i).2))
      (hs : ∀ (i : Nat) (h : i < l.length), SlAt w (bss i) (vs i).1 (vs i).2 l[i].sub) :
      SlAt w ((if l.length = 0 then [] else [b]) ++ (List.range l.length).flatMap bss) a cap l

/-- .. wherever it lies. -/
def Tb (w : World) (a : Option Addr) (cap : Nat) (l : List It) : Prop := ∃ bs, SlAt w bs a cap l

theorem SlAt.lt {w : World} {bs : List Nat} {a : Option Addr} {cap : Nat} {l : List It} (h : SlAt w bs a cap l) : ∀ b ∈ bs, b < w.heap.size := by
  induction h with
  | intro b o vs bss hcap hmax ha hfr hc hs ih =>
    rename_i l
    intro x hx
    rcases List.mem_append.1 hx with hx | hx
    · split at hx
      · simp at hx
      · rename_i h0
        have := (hc 0 (by omega)).c0
        simp only [List.mem_singleton] at hx
        subst hx
        exact lt_of_cell this
    · obtain ⟨i, hi, hx⟩ := List.mem_flatMap.1 hx
      exact ih i (List.mem_range.1 hi) x hx

theorem ItAt.keep {w w' : World} {b o : Nat} {x : It} {v : Value} (h : ItAt w b o x v) (hb : w'.heap[b]? = w.heap[b]?) : ItAt w' b o x v := by
  have e : ∀ o, w'.cell? ⟨b, o, none⟩ = w.cell? ⟨b, o, none⟩ := fun o => World.cell?_of_block (w := w) (a := ⟨b, o, none⟩) hb
  exact ⟨(e _).trans h.c0, (e _).trans h.c1, (e _).trans h.c2, (e _).trans h.c3, (e _).trans h.c4, h.m0, h.k1, h.k2, h.m3⟩

/-- what is in its blocks is as it was. -/
theorem SlAt.keep {w w' : World} {bs : List Nat} {a : Option Addr} {cap : Nat} {l : List It} (h : SlAt w bs a cap l) (hk : ∀ b ∈ bs, w'.heap[b]? = w.heap[b]?) : SlAt w' bs a cap l := by
  induction h with
  | intro b o vs bss hcap hmax ha hfr hc hs ih =>
    rename_i l
    have hb : 0 < l.length → w'.heap[b]? = w.heap[b]? := fun h0 => hk b (by rw [if_neg (by omega)]; simp)
    refine .intro b o vs bss hcap hmax ha (fun h0 => ?_) (fun i h => (hc i h).keep (hb (by omega))) (fun i h => ih i h fun x hx => hk x ?_)
    · rw [World.frozen?_of_block (w := w) (a := ⟨b, o, none⟩) (hb h0)]; exact hfr h0
    · exact List.mem_append.2 (.inr (List.mem_flatMap.2 ⟨i, List.mem_range.2 h, hx⟩))
theorem SlAt.under {w w' : World} {bs : List Nat} {a : Option Addr} {cap : Nat} {l : List It} {B : Nat} (h : SlAt w bs a cap l) (hb : Below B w w') (hB : ∀ b ∈ bs, b < B) : SlAt w' bs a cap l :=
  h.keep fun b hx => hb.block b (hB b hx)
theorem Tb.below {w w' : World} {a : Option Addr} {cap : Nat} {l : List It} (h : Tb w a cap l) (hb : Below w.heap.size w w') : Tb w' a cap l := by
  obtain ⟨bs, h⟩ := h
  exact ⟨bs, h.under hb h.lt⟩
theorem Tb.drewN {w : World} {a : Option Addr} {cap : Nat} {l : List It} (h : Tb w a cap l) (n : Nat) : Tb (w.drewN n) a cap l := by
  obtain ⟨bs, h⟩ := h
  exact ⟨bs, h.keep fun _ _ => rfl⟩
theorem Tb.len {w : World} {a : Option Addr} {cap : Nat} {l : List It} (h : Tb w a cap l) : l.length ≤ cap ∧ cap ≤ maxLen := by
  obtain ⟨bs, h⟩ := h
  cases h with | intro b o vs bss hcap hmax _ _ _ _ => exact ⟨hcap, hmax⟩
theorem Tb.nil (w : World) (a : Option Addr) {cap : Nat} (h : cap ≤ maxLen) : Tb w a cap [] := by
  refine ⟨_, .intro 0 0 (fun _ => (none, 0)) (fun _ => []) (by simp) h ?_ ?_ ?_ ?_⟩ <;> simp
theorem SlAt.nil (w : World) (a : Option Addr) {cap : Nat} (h : cap ≤ maxLen) : SlAt w [] a cap [] := by
  have := SlAt.intro (w := w) (a := a) (cap := cap) (l := []) 0 0 (fun _ => (none, 0)) (fun _ => []) (by simp) h (by simp) (by simp) (by simp) (by simp)
  simpa using this
/-- an item of it. -/
theorem Tb.get {w : World} {a : Option Addr} {cap : Nat} {l : List It} (h : Tb w a cap l) {i : Nat} (hi : i < l.length) :
    ∃ b o a' cap', a = some ⟨b, o, none⟩ ∧ w.frozen? ⟨b, o, none⟩ = false ∧ ItAt w b (o + i * 5) l[i] (.slice a' l[i].sub.length cap') ∧ Tb w a' cap' l[i].sub := by
  obtain ⟨bs, h⟩ := h
  cases h with
  | intro b o vs bss hcap hmax ha hfr hc hs => exact ⟨b, o, (vs i).1, (vs i).2, ha (by omega), hfr (by omega), hc i hi, _, hs i hi⟩
/-- a beginning of it. -/
theorem Tb.take {w : World} {a : Option Addr} {cap : Nat} {l : List It} (h : Tb w a cap l) {k : Nat} (hk : k ≤ l.length) : Tb w a cap (l.take k) := by
  obtain ⟨bs, h⟩ := h
  cases h with
  | intro b o vs bss hcap hmax ha hfr hc hs =>
    have hl : (l.take k).length = k := by simp; omega
    refine ⟨_, .intro b o vs bss (by omega) hmax (fun h0 => ha (by omega)) (fun h0 => hfr (by omega)) (fun i hi => ?_) (fun i hi => ?_)⟩
    · simp only [List.getElem_take]; exact hc i (by omega)
    · simp only [List.getElem_take]; exact hs i (by omega)
/-- .. in blocks below B. -/
def TbU (w : World) (B : Nat) (a : Option Addr) (cap : Nat) (l : List It) : Prop := ∃ bs, SlAt w bs a cap l ∧ ∀ b ∈ bs, b < B
theorem Tb.up {w : World} {a : Option Addr} {cap : Nat} {l : List It} (h : Tb w a cap l) : TbU w w.heap.size a cap l := by
  obtain ⟨bs, h⟩ := h
  exact ⟨bs, h, h.lt⟩
theorem TbU.tb {w : World} {B : Nat} {a : Option Addr} {cap : Nat} {l : List It} (h : TbU w B a cap l) : Tb w a cap l := by
  obtain ⟨bs, h, _⟩ := h
  exact ⟨bs, h⟩
theorem TbU.below {w w' : World} {B : Nat} {a : Option Addr} {cap : Nat} {l : List It} (h : TbU w B a cap l) (hb : Below B w w') : TbU w' B a cap l := by
  obtain ⟨bs, h, hl⟩ := h
  exact ⟨bs, h.under hb hl, hl⟩
theorem TbU.mono {w : World} {B B' : Nat} {a : Option Addr} {cap : Nat} {l : List It} (h : TbU w B a cap l) (hB : B ≤ B') : TbU w B' a cap l := by
  obtain ⟨bs, h, hl⟩ := h
  exact ⟨bs, h, fun b hb => Nat.lt_of_lt_of_le (hl b hb) hB⟩
theorem TbU.get {w : World} {B : Nat} {a : Option Addr} {cap : Nat} {l : List It} (h : TbU w B a cap l) {i : Nat} (hi : i < l.length) :
    ∃ b o a' cap', a = some ⟨b, o, none⟩ ∧ b < B ∧ w.frozen? ⟨b, o, none⟩ = false ∧ ItAt w b (o + i * 5) l[i] (.slice a' l[i].sub.length cap') ∧ TbU w B a' cap' l[i].sub := by
  obtain ⟨bs, h, hl⟩ := h
  cases h with
  | intro b o vs bss hcap hmax ha hfr hc hs =>
    refine ⟨b, o, (vs i).1, (vs i).2, ha (by omega), hl b ?_, hfr (by omega), hc i hi, _, hs i hi, fun x hx => hl x ?_⟩
    · rw [if_neg (by omega)]; simp
    · exact List.mem_append.2 (.inr (List.mem_flatMap.2 ⟨i, List.mem_range.2 hi, hx⟩))
theorem Tb.fits {w : World} {a : Option Addr} {cap : Nat} {l : List It} (h : Tb w a cap l) : Fits l := by
  obtain ⟨bs, h⟩ := h
  induction h with
  | intro b o vs bss hcap hmax ha hfr hc hs ih =>
    refine ⟨fun x hx => ?_, fun x hx => ?_⟩
    · obtain ⟨i, hi, rfl⟩ := List.getElem_of_mem hx
      exact (hc i hi).k2
    · obtain ⟨i, hi, rfl⟩ := List.getElem_of_mem hx
      exact ih i hi

/-! ### an argument reads so -/
theorem cells_item : Try.prog.cellsOf 74 = 5 := by kernel_rfl
theorem cells_value : Try.prog.cellsOf 72 = 4 := by kernel_rfl
theorem cells_str : Try.prog.cellsOf 9 = 1 := by kernel_rfl
theorem cells_int : Try.prog.cellsOf 3 = 1 := by kernel_rfl
theorem cells_i64 : Try.prog.cellsOf 2 = 1 := by kernel_rfl
theorem cells_items : Try.prog.cellsOf 23 = 1 := by kernel_rfl

section
variable {H : Type} {enc : TypeId × Value → H} {w : World} {base : Nat} {spare : Nat → Bool} {held : Bool}

/-- how a slice's one cell reads as a table. -/
def ReadsTb (w : World) (v : Value) : Prop := ∃ (a : Option Addr) (cap : Nat) (l : List It), v = .slice a l.length cap ∧ Tb w a cap l

theorem five {α : Type} {l : List α} (h : l.length = 5) : ∃ a b c d e, l = [a, b, c, d, e] := by
  match l, h with
  | [a, b, c, d, e], _ => exact ⟨a, b, c, d, e, rfl⟩

set_option maxRecDepth 100000 in
theorem value_of {n : Nat} {c1 c2 c3 c4 : Value} {y : DataW H × List MemPlace}
    (ih : ∀ m, m ≤ n → ∀ v x, DataW.trod enc Try.prog w base spare held m 23 [v] = some x → w.noneFrozen x.2 → ReadsTb w v)
    (h : DataW.trod enc Try.prog w base spare held (n + 1) 72 [c1, c2, c3, c4] = some y) (hf : w.noneFrozen y.2) :
    ∃ k m s, c1 = .int .i64 k ∧ c2 = .int .i64 m ∧ c3 = .string s ∧ (Lit.int .i64 k).wf = true ∧ (Lit.int .i64 m).wf = true ∧ s.size ≤ maxLen ∧ ReadsTb w c4 := by
  obtain ⟨ys, m, hm, rfl, hl, hlen, hat⟩ := DataW.trod_struct Try.underlying72 h
  have hm : m = n := by omega
  subst hm
  have t1 := hat 0 _ rfl
  have t2 := hat 1 _ rfl
  have t3 := hat 2 _ rfl
  have t4 := hat 3 _ rfl
  simp only [List.getElem_toArray, List.getElem_cons_zero, List.getElem_cons_succ, cells_int, cells_i64, cells_str, cells_items, List.drop_zero, List.drop_succ_cons, List.take_succ_cons, List.take_zero] at t1 t2 t3 t4
  simp only [List.size_toArray, List.length_cons, List.length_nil] at hlen
  match ys, hlen with
  | [y0, y1, y2, y3], _ =>
    obtain ⟨k, e1, _, w1⟩ := DataW.trod_int Try.underlying3 t1
    obtain ⟨q, e2, _, w2⟩ := DataW.trod_int Try.underlying2 t2
    obtain ⟨s, e3, _, w3⟩ := DataW.trod_string Try.underlying9 t3
    have r4 := ih m (Nat.le_refl _) c4 y3 t4 (fun b off hb => hf b off (by simp [hb]))
    exact ⟨k, q, s, by simpa using e1, by simpa using e2, by simpa using e3, w1, w2, w3, r4⟩

set_option maxRecDepth 100000 in
theorem item_of {n : Nat} {cs : List Value} {y : DataW H × List MemPlace}
    (ih : ∀ m, m ≤ n → ∀ v x, DataW.trod enc Try.prog w base spare held m 23 [v] = some x → w.noneFrozen x.2 → ReadsTb w v)
    (hcs : cs.length = 5) (h : DataW.trod enc Try.prog w base spare held (n + 1) 74 cs = some y) (hf : w.noneFrozen y.2) :
    ∃ (x : It) (v : Value), cs = [.string x.name, .int .i64 x.kind, .int .i64 x.n, .string x.s, v] ∧ x.name.size ≤ maxLen ∧ (Lit.int .i64 x.kind).wf = true ∧ (Lit.int .i64 x.n).wf = true ∧ x.s.size ≤ maxLen ∧
      ∃ (a : Option Addr) (cap : Nat), v = .slice a x.sub.length cap ∧ Tb w a cap x.sub := by
  obtain ⟨c0, c1, c2, c3, c4, rfl⟩ := five hcs
  obtain ⟨ys, m, hm, rfl, hl, hlen, hat⟩ := DataW.trod_struct Try.underlying74 h
  have hm : m = n := by omega
  subst hm
  have t1 := hat 0 _ rfl
  have t2 := hat 1 _ rfl
  simp only [List.getElem_toArray, List.getElem_cons_zero, List.getElem_cons_succ, cells_str, cells_value, List.drop_zero, List.drop_succ_cons, List.take_succ_cons, List.take_zero] at t1 t2
  simp only [List.size_toArray, List.length_cons, List.length_nil] at hlen
  match ys, hlen with
  | [y0, y1], _ =>
    obtain ⟨nm, e1, _, w1⟩ := DataW.trod_string Try.underlying9 t1
    match m, t2 with
    | m' + 1, t2 =>
      obtain ⟨k, q, s, rfl, rfl, rfl, w2, w3, w4, a, cap, l, hv, ht⟩ := value_of (fun j hj => ih j (by omega)) t2 (fun b off hb => hf b off (by simp [hb]))
      exact ⟨.mk nm k q s l, c4, by simpa using e1, w1, w2, w3, w4, a, cap, hv, ht⟩

theorem tb_of : ∀ (n : Nat) (v : Value) (x : DataW H × List MemPlace), DataW.trod enc Try.prog w base spare held n 23 [v] = some x → w.noneFrozen x.2 → ReadsTb w v := by
  intro n
  induction n using Nat.strongRecOn with
  | _ n ih =>
  intro v x h hf
  rcases DataW.trod_slice Try.underlying23 h with ⟨hv, _⟩ | ⟨ad, len, cap, elems, rest, m, hn, hv, rfl, hb, hlc, hcm, hel, hat, _, _⟩
  · obtain rfl : v = .slice none 0 0 := by simpa using hv
    exact ⟨none, 0, [], rfl, Tb.nil w none (by simp [maxLen])⟩
  · obtain rfl : v = .slice (some ad) len cap := by simpa using hv
    obtain ⟨b, o, spot⟩ := ad
    have hrow : ∀ i, i < len → ∃ p : It × (Option Addr × Nat) × List Nat, spot = none ∧ ItAt w b (o + i * 5) p.1 (.slice p.2.1.1 p.1.sub.length p.2.1.2) ∧ SlAt w p.2.2 p.2.1.1 p.2.1.2 p.1.sub := by
      intro i hi
      have h1 := hat i hi
      have he : elems[i]? = some (elems[i]'(by omega)) := List.getElem?_eq_getElem (by omega)
      rw [he, Option.bind_eq_some_iff] at h1
      obtain ⟨cs, hcs, ht⟩ := h1
      rw [cells_item] at hcs
      obtain ⟨_, hl5, hcell⟩ := World.cells?_some hcs
      obtain ⟨m', rfl⟩ : ∃ m', m = m' + 1 := by
        cases m with
        | zero => simp [DataW.trod] at ht
        | succ k => exact ⟨k, rfl⟩
      · obtain ⟨it, v', rfl, w0, w1, w2, w3, a', cap', rfl, bs, hbs⟩ := item_of (fun j hj => ih j (by omega)) hl5 ht (fun b' off hb' => hf b' off (by
          simp only [List.mem_append, List.mem_flatMap]
          exact .inr ⟨_, .inl (List.getElem_mem (h := by omega)), hb'⟩))
        have hsp : spot = none := by
          have e0 := hcell 0 (by omega)
          simp only [List.getElem?_cons_zero] at e0
          have := World.cell?_spot e0
          unfold Addr.add at this
          by_cases hi0 : i * 5 = 0
          · simpa [hi0] using this
          · have : (0 : Nat) < i := by omega
            have h00 := hat 0 (by omega)
            have he0 : elems[0]? = some (elems[0]'(by omega)) := List.getElem?_eq_getElem (by omega)
            rw [he0, Option.bind_eq_some_iff] at h00
            obtain ⟨cs0, hcs0, _⟩ := h00
            simp only [cells_item] at hcs0
            obtain ⟨_, hl50, hcell0⟩ := World.cells?_some hcs0
            have e00 := hcell0 0 (by omega)
            rw [List.getElem?_eq_getElem (by omega)] at e00
            simpa [Addr.add] using World.cell?_spot e00
        subst hsp
        have hadd : ∀ j, ((⟨b, o, none⟩ : Addr).add (i * 5)).add j = ⟨b, o + i * 5 + j, none⟩ := fun j => by rw [add_at, add_at]
        have f0 := hcell 0 (by omega)
        have f1 := hcell 1 (by omega)
        have f2 := hcell 2 (by omega)
        have f3 := hcell 3 (by omega)
        have f4 := hcell 4 (by omega)
        simp only [hadd] at f0 f1 f2 f3 f4
        exact ⟨(it, (a', cap'), bs), rfl, ⟨f0, f1, f2, f3, f4, w0, in_i64 w1, in_i64 w2, w3⟩, hbs⟩
    haveI : Inhabited It := ⟨.mk ByteArray.empty 0 0 ByteArray.empty []⟩
    obtain ⟨f, hfn⟩ := choose_lt hrow
    refine ⟨some ⟨b, o, spot⟩, cap, (List.range len).map fun i => (f i).1, by simp, _, .intro b o (fun i => (f i).2.1) (fun i => (f i).2.2) (by simpa using hlc) hcm (fun h0 => ?_) (fun h0 => ?_) (fun i hi => ?_) (fun i hi => ?_)⟩
    · simp only [List.length_map, List.length_range] at h0
      rw [(hfn 0 h0).1]
    · simp only [List.length_map, List.length_range] at h0
      refine hf b o ?_
      rw [List.mem_append]
      refine .inl ?_
      have hs := (hfn 0 h0).1
      subst hs
      rw [cells_item, hel]
      simp [MemPlace.row]
      omega
    · simp only [List.length_map, List.length_range] at hi
      simp only [List.getElem_map, List.getElem_range]
      exact (hfn i hi).2.1
    · simp only [List.length_map, List.length_range] at hi
      simp only [List.getElem_map, List.getElem_range]
      exact (hfn i hi).2.2

/-- an argument that is a slice of items. -/
theorem tb_arg {v : Value} {d : DataW H} {p : List MemPlace} (h : DataW.Trod enc Try.prog w base spare held 23 v d p) (hv : ∃ a len cap, v = .slice a len cap) (hf : w.noneFrozen p) : ReadsTb w v := by
  obtain ⟨n, h⟩ := h
  obtain ⟨a, len, cap, rfl⟩ := hv
  exact tb_of n _ _ (by simpa [Value.cells] using h) hf
end

end Go.Proofs.Ytjnnpgmgjdhfjaa

namespace Go.Proofs.Ytjnnpgmgjdhfjaa
open Go.RowKit
set_option linter.unusedVariables false

/-- where the first item of that name stands; -1. -/
def IdxOf (l : List It) (nm : ByteArray) (r : Int) : Prop :=
  (r = -1 ∧ ∀ y ∈ l, y.name ≠ nm) ∨ ∃ (i : Nat) (h : i < l.length), r = i ∧ l[i].name = nm ∧ ∀ y ∈ l.take i, y.name ≠ nm

theorem snoc_ne {l : List It} {k : Nat} {nm : ByteArray} (hk : k < l.length) (h : ∀ y ∈ l.take k, y.name ≠ nm) (hn : ¬ l[k].name = nm) : ∀ y ∈ l.take (k + 1), y.name ≠ nm := by
  intro y hy
  rw [List.take_succ_eq_append_getElem hk, List.mem_append, List.mem_singleton] at hy
  rcases hy with hy | rfl
  · exact h y hy
  · exact hn

def indexRel (a : Option Addr) (cap : Nat) (l : List It) (nm : ByteArray) (w : World) (n : Nat) (a' : Act) (w' : World) : Prop :=
  w = w' ∧ ∃ (k : Nat) (u6 u7 u8 u9 u10 u11 u12 u13 u14 u15 u16 u17 u18 u19 : Value), a' = { tmps := #[.slice a l.length cap, .string nm, undef, undef, .int .i64 0, .int .i64 k, u6, u7, u8, u9, u10, u11, u12, u13, u14, u15, u16, u17, u18, u19], defers := [] } ∧ k ≤ l.length ∧ n = l.length - k ∧ ∀ y ∈ l.take k, y.name ≠ nm

set_option maxRecDepth 100000 in
set_option maxHeartbeats 1000000 in
theorem index_any {a : Option Addr} {cap : Nat} {l : List It} (nm : ByteArray) (w : World) (hl : Tb w a cap l) :
    Calls Try.prog 79 #[.slice a l.length cap, .string nm] w fun e w' => ∃ r, IdxOf l nm r ∧ e = .returned (.int .i64 r) ∧ w = w' := by
  have hlen := hl.len
  unfold maxLen at hlen
  go_enter Try.func79, Try.ntmps79
  go_wp2
  refine wp_scope_ghost 0 (indexRel a cap l nm w) rfl ?_ ?_
  · intro H hb
    go_wp2
    go_step3
    rename_i hK
    refine hK _ _ (hb l.length _ _ ⟨rfl, 0, ?_⟩)
    repeat apply Exists.intro
    exact ⟨rfl, Nat.zero_le _, rfl, by simp⟩
  · rintro n a' w' ⟨rfl, k, u6, u7, u8, u9, u10, u11, u12, u13, u14, u15, u16, u17, u18, u19, rfl, hk, rfl, hn⟩ H hH
    by_cases hlt : k < l.length
    · obtain ⟨b, o, a', cap', rfl, _, hi, _⟩ := hl.get hlt
      have h0 := hi.c0
      by_cases he : l[k].name = nm
      · have hb := beq_str he
        have HE := Lib.hid he
        clear he
        go_wp2
        simp only [Exit.jump]
        go_ret
        exact ⟨k, .inr ⟨k, hlt, rfl, HE.out, hn⟩, rfl, rfl⟩
      · have hb := bne_str he
        have HE := Lib.hid he
        clear he
        go_wp2
        go_step3
        refine ⟨rfl, hH (l.length - (k + 1)) _ _ (by omega) ⟨rfl, k + 1, ?_⟩⟩
        repeat apply Exists.intro
        exact ⟨rfl, by omega, rfl, snoc_ne hlt hn HE.out⟩
    · go_wp2
      simp only [Exit.jump]
      go_ret
      have hall : l.take k = l := List.take_of_length_le (by omega)
      rw [hall] at hn
      exact ⟨-1, .inl ⟨rfl, hn⟩, rfl, rfl⟩

/-- a name may stand behind these items. -/
def NameOk (l : List It) (nm : ByteArray) : Prop := 1 ≤ nm.size ∧ nm.size ≤ 40 ∧ ∀ y ∈ l, y.name ≠ nm
theorem idx_lt {l : List It} {nm : ByteArray} {r : Int} (h : IdxOf l nm r) : r < 0 ↔ ∀ y ∈ l, y.name ≠ nm := by
  rcases h with ⟨rfl, h⟩ | ⟨i, hi, rfl, hn, _⟩
  · exact ⟨fun _ => h, fun _ => by decide⟩
  · exact ⟨fun h => by omega, fun h => absurd hn (h _ (List.getElem_mem hi))⟩
set_option maxHeartbeats 1000000 in
theorem name_any {a : Option Addr} {cap : Nat} {l : List It} (nm : ByteArray) (hs : nm.size ≤ maxLen) (w : World) (hl : Tb w a cap l) :
    Calls Try.prog 71 #[.string nm, .slice a l.length cap] w (SaysW (NameOk l nm) w) := by
  unfold maxLen at hs
  by_cases h0 : nm.size = 0
  · obtain ⟨e1, e2⟩ := empty_str h0
    go_enter Try.func71, Try.ntmps71
    go_wp2_with fail
    go_ret
    exact ⟨false, by unfold NameOk; simp; omega, rfl, rfl⟩
  · obtain ⟨e1, e2⟩ := full_str h0
    by_cases h4 : (nm.size : Int) ≤ 40
    · go_enter Try.func71, Try.ntmps71
      go_wp2_with fail
      refine (index_any nm _ hl).mono ?_
      rintro e w' ⟨r, hr, rfl, rfl⟩
      go_wp2_with fail
      go_ret
      refine ⟨_, ?_, rfl, rfl⟩
      rw [decide_eq_true_iff, idx_lt hr]
      exact ⟨fun h => ⟨by omega, by omega, h⟩, fun h => h.2.2⟩
    · go_enter Try.func71, Try.ntmps71
      go_wp2_with fail
      go_ret
      exact ⟨false, by unfold NameOk; simp; omega, rfl, rfl⟩

end Go.Proofs.Ytjnnpgmgjdhfjaa
