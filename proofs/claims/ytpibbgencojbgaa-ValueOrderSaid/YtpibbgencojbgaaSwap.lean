/-
  A table's copy, two items of it exchanged: plain data, and in memory.
-/
import Derived.Test.YtpibbgencojbgaaGetT
import Derived.Test.YtpibbgencojbgaaCp
import Derived.Deep.OwnRows
import Derived.Deep.AppendLies
import Derived.Laws.OwnMore
namespace Go.Proofs.Ytpibbgencojbgaa
open Go.RowKit
set_option linter.unusedVariables false

/-- two of a list exchanged. -/
def swp {α : Type} (l : List α) (i k : Nat) (hi : i < l.length) (hk : k < l.length) : List α := (l.set i l[k]).set k l[i]
@[simp] theorem swp_length {α : Type} (l : List α) (i k : Nat) (hi : i < l.length) (hk : k < l.length) : (swp l i k hi hk).length = l.length := by simp [swp]
theorem swp_get {α : Type} (l : List α) (i k : Nat) (hi : i < l.length) (hk : k < l.length) (j : Nat) (hj : j < l.length) :
    (swp l i k hi hk)[j]'(by simpa using hj) = if j = k then l[i] else if j = i then l[k] else l[j] := by
  show ((l.set i l[k]).set k l[i])[j]'(by simpa using hj) = _
  rw [List.getElem_set, List.getElem_set]
  by_cases h1 : k = j
  · subst h1; simp
  · have h1' : ¬ j = k := fun e => h1 e.symm
    by_cases h2 : i = j
    · subst h2; simp [h1, h1']
    · have h2' : ¬ j = i := fun e => h2 e.symm
      simp [h1, h1', h2, h2']
theorem swp_map {α β : Type} (f : α → β) (l : List α) (i k : Nat) (hi : i < l.length) (hk : k < l.length) : (swp l i k hi hk).map f = swp (l.map f) i k (by simpa using hi) (by simpa using hk) := by
  simp [swp, List.map_set]
theorem swp_mem {α : Type} {l : List α} {i k : Nat} {hi : i < l.length} {hk : k < l.length} {x : α} (h : x ∈ swp l i k hi hk) : x ∈ l := by
  obtain ⟨j, hj, rfl⟩ := List.getElem_of_mem h
  have hj' : j < l.length := by simpa using hj
  rw [swp_get l i k hi hk j hj']
  repeat' split
  all_goals exact List.getElem_mem _
theorem swp_self {α : Type} (l : List α) (i : Nat) (hi : i < l.length) : swp l i i hi hi = l := by
  apply List.ext_getElem
  · simp
  · intro j h1 h2
    rw [swp_get l i i hi hi j h2]
    split
    · rename_i h; subst h; rfl
    · rfl

/-- no two names alike. -/
theorem named_ne {l : List It} (h : Named l) {i k : Nat} (hi : i < l.length) (hk : k < l.length) (hne : i ≠ k) : l[i].name ≠ l[k].name := by
  by_cases hlt : i < k
  · exact (h k hk).2.2 i hlt
  · exact fun e => (h i hi).2.2 k (by omega) e.symm
theorem swp_named {l : List It} (h : Named l) {i k : Nat} (hi : i < l.length) (hk : k < l.length) : Named (swp l i k hi hk) := by
  intro j hj
  have hj' : j < l.length := by simpa using hj
  have hm := swp_get l i k hi hk j hj'
  obtain ⟨t, ht, e⟩ := List.getElem_of_mem (swp_mem (List.getElem_mem hj))
  have hs := h t ht
  rw [e] at hs
  refine ⟨hs.1, hs.2.1, fun m hmj => ?_⟩
  rw [hm, swp_get l i k hi hk m (by omega)]
  repeat' split
  all_goals first | omega | exact named_ne h _ _ (by omega)
theorem swp_may {d : Nat} {l : List It} (h : MayT d l) {i k : Nat} (hi : i < l.length) (hk : k < l.length) : MayT d (swp l i k hi hk) := by
  obtain ⟨a, b, c, e⟩ := h
  refine ⟨a, by simpa using b, swp_named c hi hk, ?_⟩
  rw [mayAll_iff] at e ⊢
  exact fun x hx => e x (swp_mem hx)
/-- a table whose names are unlike is alike to itself exchanged only where the two are one. -/
theorem swp_alike {l : List It} (h : Named l) {i k : Nat} (hi : i < l.length) (hk : k < l.length) (ha : AlikeT l (swp l i k hi hk)) : i = k := by
  by_cases hne : i = k
  · exact hne
  · have := (ha.2 i hi (by simpa using hi)).1
    rw [swp_get l i k hi hk i hi, if_neg hne, if_pos rfl] at this
    exact absurd this (named_ne h hi hk hne)

/-! ### in memory -/
theorem slAt_cells {w : World} {g cap : Nat} {zs : List Z} (hcap : zs.length ≤ cap) (hmax : cap ≤ maxLen) (hfr : w.frozen? ⟨g, 0, none⟩ = false)
    (hc : ∀ (i r : Nat) (hi : i < zs.length) (hr : r < 5), w.cell? ⟨g, i * 5 + r, none⟩ = (zc zs[i])[r]?) (hz : ∀ z ∈ zs, ZOk w z) : Tb w (some ⟨g, 0, none⟩) cap (zs.map (·.1)) := by
  let d : Z := (.mk ByteArray.empty 0 0 ByteArray.empty [], (none, 0), [])
  have hm : (zs.map (·.1)).length = zs.length := by simp
  have hz0 : ∀ x, (0 : Nat) + x = x := Nat.zero_add
  refine ⟨_, SlAt.intro (w := w) (a := some ⟨g, 0, none⟩) (cap := cap) (l := zs.map (·.1)) g 0 (fun i => (zs.getD i d).2.1) (fun i => (zs.getD i d).2.2) (by rw [hm]; exact hcap) hmax (fun _ => rfl) (fun _ => hfr) (fun i hi => ?_) (fun i hi => ?_)⟩
  · rw [hm] at hi
    have hzi := hz _ (List.getElem_mem hi)
    have hgd : zs.getD i d = zs[i] := by simp [List.getD, List.getElem?_eq_getElem hi]
    rw [hgd, hz0]
    simp only [List.getElem_map]
    exact ⟨hc i 0 hi (by omega), hc i 1 hi (by omega), hc i 2 hi (by omega), hc i 3 hi (by omega), hc i 4 hi (by omega), hzi.m0, hzi.k1, hzi.k2, hzi.m3⟩
  · rw [hm] at hi
    have hzi := hz _ (List.getElem_mem hi)
    have hgd : zs.getD i d = zs[i] := by simp [List.getD, List.getElem?_eq_getElem hi]
    simp only [hgd, List.getElem_map]
    exact hzi.sub

/-- a table's items with their places, as its cells show them. -/
theorem SlAt.row {w : World} {bs : List Nat} {a : Option Addr} {cap : Nat} {l : List It} (h : SlAt w bs a cap l) (hl : 0 < l.length) :
    ∃ (b o : Nat) (zs : List Z), a = some ⟨b, o, none⟩ ∧ zs.map (·.1) = l ∧ (∀ z ∈ zs, ZOk w z) ∧ ∀ j u, (zs.flatMap zc)[j]? = some u → w.cell? ((⟨b, o, none⟩ : Addr).add j) = some u := by
  cases h with
  | intro b o vs bss hcap hmax ha hfr hc hs =>
    have hlen : (List.ofFn (fun i : Fin l.length => ((l[i.1], vs i.1, bss i.1) : Z))).length = l.length := by simp
    have hget : ∀ (i : Nat) (hi : i < (List.ofFn (fun i : Fin l.length => ((l[i.1], vs i.1, bss i.1) : Z))).length), (List.ofFn (fun i : Fin l.length => ((l[i.1], vs i.1, bss i.1) : Z)))[i] = ((l[i]'(by omega), vs i, bss i) : Z) := by
      intro i hi; simp
    refine ⟨b, o, List.ofFn (fun i : Fin l.length => ((l[i.1], vs i.1, bss i.1) : Z)), ha hl, ?_, ?_, ?_⟩
    · apply List.ext_getElem
      · simp
      · intro i h1 h2
        rw [List.getElem_map, hget i (by omega)]
    · intro z hz
      obtain ⟨i, hi, rfl⟩ := List.getElem_of_mem hz
      rw [hget i hi]
      have hx := hc i (by omega)
      exact ⟨hs i (by omega), hx.m0, hx.k1, hx.k2, hx.m3⟩
    · intro j u hu
      have hj : j < l.length * 5 := by
        have := (List.getElem?_eq_some_iff.1 hu).1
        rw [zcs_length, hlen] at this
        exact this
      have hi : j / 5 < l.length := by omega
      have hr : j % 5 < 5 := Nat.mod_lt _ (by omega)
      have e : j = j / 5 * 5 + j % 5 := by omega
      rw [e, zcs_get _ _ _ (by rw [hlen]; exact hi) hr, hget _ (by rw [hlen]; exact hi)] at hu
      have hx := hc (j / 5) hi
      rw [add_at, e]
      generalize j / 5 = i at *
      generalize j % 5 = r at *
      have hr5 : r = 0 ∨ r = 1 ∨ r = 2 ∨ r = 3 ∨ r = 4 := by omega
      rcases hr5 with rfl | rfl | rfl | rfl | rfl
      · rw [← hu]; exact hx.c0
      · rw [← hu]; exact hx.c1
      · rw [← hu]; exact hx.c2
      · rw [← hu]; exact hx.c3
      · rw [← hu]; exact hx.c4

/-- five cells stored. -/
def put5 (w : World) (g o : Nat) (v0 v1 v2 v3 v4 : Value) : World := ((((w.setCell ⟨g, o, none⟩ v0).setCell ⟨g, o + 1, none⟩ v1).setCell ⟨g, o + 2, none⟩ v2).setCell ⟨g, o + 3, none⟩ v3).setCell ⟨g, o + 4, none⟩ v4
def at5 (f : Nat → Value) (o : Nat) (v0 v1 v2 v3 v4 : Value) (j : Nat) : Value := if j = o + 4 then v4 else if j = o + 3 then v3 else if j = o + 2 then v2 else if j = o + 1 then v1 else if j = o then v0 else f j
theorem row_put5 {w : World} {g : Nat} {t : TypeId} {N : Nat} {f : Nat → Value} (h : w.rowIs g t N f) (o : Nat) (v0 v1 v2 v3 v4 : Value) : (put5 w g o v0 v1 v2 v3 v4).rowIs g t N (at5 f o v0 v1 v2 v3 v4) :=
  ((((h.set o v0).set (o + 1) v1).set (o + 2) v2).set (o + 3) v3).set (o + 4) v4
theorem at5_other {f : Nat → Value} {i m r : Nat} (v0 v1 v2 v3 v4 : Value) (h : m ≠ i) (hr : r < 5) : at5 f (i * 5) v0 v1 v2 v3 v4 (m * 5 + r) = f (m * 5 + r) := by
  unfold at5
  rw [if_neg (by omega), if_neg (by omega), if_neg (by omega), if_neg (by omega), if_neg (by omega)]
theorem at5_self {f : Nat → Value} {i r : Nat} (v0 v1 v2 v3 v4 : Value) (hr : r < 5) : some (at5 f (i * 5) v0 v1 v2 v3 v4 (i * 5 + r)) = [v0, v1, v2, v3, v4][r]? := by
  have hr5 : r = 0 ∨ r = 1 ∨ r = 2 ∨ r = 3 ∨ r = 4 := by omega
  rcases hr5 with rfl | rfl | rfl | rfl | rfl
  all_goals simp [at5]
theorem put5_below {w : World} {B g o : Nat} (h : B ≤ g) (v0 v1 v2 v3 v4 : Value) {w0 : World} (hb : Below B w0 w) : Below B w0 (put5 w g o v0 v1 v2 v3 v4) :=
  ((((hb.setCell h _).setCell h _).setCell h _).setCell h _).setCell h _

/-- a row of the call's own, its cells by their number. -/
theorem own_rowIs {w : World} {base g cap : Nat} {zs : List Z} (h : w.ownsRow base 28 5 (.slice (some ⟨g, 0, none⟩) zs.length cap) zs.length (zs.flatMap zc)) :
    base ≤ g ∧ zs.length ≤ cap ∧ cap ≤ maxLen ∧ ∃ f, w.rowIs g 28 (cap * 5) f ∧ ∀ (m r : Nat) (hm : m < zs.length), r < 5 → some (f (m * 5 + r)) = (zc zs[m])[r]? := by
  rcases h.2 with ⟨e, _⟩ | ⟨g1, cap1, cur, e, hbg, hg, hnc, hcm, hcs, htake⟩
  · cases e
  · obtain ⟨eg, -, rfl⟩ := Value.slice.inj e
    obtain rfl : g = g1 := by simpa using eg
    refine ⟨hbg, hnc, hcm, fun j => cur[j]?.getD undef, ⟨cur, hg, hcs, fun j hj => ?_⟩, fun m r hm hr => ?_⟩
    · simp [Array.getElem?_eq_getElem (show j < cur.size by omega)]
    · rw [← zcs_get zs m r hm hr, ← htake]
      have hlt : m * 5 + r < zs.length * 5 := by omega
      have hlc : m * 5 + r < cur.size := by omega
      rw [List.getElem?_take, if_pos hlt, Array.getElem?_toList]
      simp [Array.getElem?_eq_getElem hlc]

/-- append([]Item{}, l...): a copy. -/
theorem put_copy {ops : Array Oper} {rest : List Oper} {o : Oper} {a : Act} {Q : Exit → Act → World → Prop} {w : World} {b oo capl H n : Nat} {zs : List Z} (hgd : o.guard = none) (s x : Operand)
    (ho : o.op = .call { callee := .builtin .append, args := #[s, x], argTypes := #[22, 22] }) (hz : 0 < zs.length) (hl : zs.length ≤ 100000)
    (hnews : ∀ j u, (zs.flatMap zc)[j]? = some u → w.cell? ((⟨b, oo, none⟩ : Addr).add j) = some u)
    (hH : w.heap.size = H) (hs : a.eval s = .slice (some ⟨H, 0, none⟩) 0 0) (hn : n = zs.length) (hx : a.eval x = .slice (some ⟨b, oo, none⟩) n capl)
    (h : ∀ g cap f w', w.heap.size ≤ g → zs.length ≤ cap → cap ≤ maxLen → w'.rowIs g 28 (cap * 5) f → (∀ (m r : Nat) (hm : m < zs.length), r < 5 → some (f (m * 5 + r)) = (zc zs[m])[r]?) → Below w.heap.size w w' →
      wpList Try.prog ops Q rest (a.put o.dst (.slice (some ⟨g, 0, none⟩) n cap)) w') :
    wpList Try.prog ops Q (o :: rest) a (w.alloc (.cells #[] 28)) := by
  subst hH
  subst hn
  obtain ⟨i0, hi, hz0, hz1, hz2⟩ := info_parts item_info
  have hb' : (w.alloc (.cells #[] 28)).ownsRow w.heap.size 28 5 (.slice (some ⟨w.heap.size, 0, none⟩) 0 0) 0 [] := World.ownsRow_lit w #[] 0 (Nat.le_refl _) (by decide) (by simp)
  have hone : ∀ u ∈ zs.flatMap zc, u.oneCell' = true := by
    intro u hu
    obtain ⟨z, _, hu⟩ := List.mem_flatMap.1 hu
    simp only [zc, List.mem_cons, List.not_mem_nil, or_false] at hu
    rcases hu with rfl | rfl | rfl | rfl | rfl <;> rfl
  have hbel : Below w.heap.size w (w.alloc (.cells #[] 28)) := (Below.refl _ _).alloc (Nat.le_refl _) _
  refine wpList_append_lies _ hgd s x 22 ho w.heap.size 28 i0 _ 5 72 Try.underlying22 hi hz0 hz1 hz2 rfl (by decide) _ 0 [] hs hb' ⟨b, oo, none⟩ zs.length capl (zs.flatMap zc) hx (zcs_length zs) (fun j u hu => ?_) hone hz (by unfold maxLen; omega) (by omega) (by simp) _ rfl ?_
  · have := hnews j u hu
    have hlt := World.block_lt_of_cell? w _ this
    exact (World.cell?_of_block (w := w) (hbel.block _ hlt)).trans this
  · intro g cap w' hown hg hat hlt
    rw [Nat.zero_add, List.nil_append] at hown
    obtain ⟨h1, h2, h3, f, h4, h5⟩ := own_rowIs hown
    have := h g cap f w' h1 h2 h3 h4 h5 (hbel.grown hg (by simp) (fun k e => by
      have : w.heap.size = k := by simpa [Value.ownBlock] using e
      omega))
    rw [Nat.zero_add]
    exact this

end Go.Proofs.Ytpibbgencojbgaa
