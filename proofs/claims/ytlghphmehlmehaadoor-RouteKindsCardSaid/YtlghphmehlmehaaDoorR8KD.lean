/-
  Law RouteKinds: the copy's bindings made alike in Ex and Weight, in memory; Few.
-/
import Derived.Test.YtlghphmehlmehaaDoorR8Told
import Derived.Test.YtlghphmehlmehaaDoorRtArg
namespace Go.Proofs.YtlghphmehlmehaaDoor.Rt
open Go.RowKit Top
set_option linter.unusedVariables false

/-- a binding of the one exchange. -/
def nrm (b : Bd) : Bd := ⟨[101], b.q, b.key, 0⟩
def cpN (l : List Bd) (i : Nat) : List Bd := (l.take i).map nrm ++ l.drop i
theorem cpN_length (l : List Bd) (i : Nat) : (cpN l i).length = l.length := by
  unfold cpN
  simp
  omega
theorem cpN_all (l : List Bd) : cpN l l.length = l.map nrm := by simp [cpN]
theorem cpN_get (l : List Bd) (i : Nat) (hi : i < l.length) (h : i < (cpN l i).length) : (cpN l i)[i] = l[i] := by
  have e : (cpN l i)[i]? = some l[i] := by
    unfold cpN
    rw [List.getElem?_append_right (by simp; omega)]
    simp
    rw [show i + (i - min i l.length) = i by omega, List.getElem?_eq_getElem hi]
  rw [List.getElem?_eq_getElem h] at e
  exact Option.some.inj e
theorem cpN_succ (l : List Bd) (i : Nat) (hi : i < l.length) : cpN l (i + 1) = (cpN l i).set i (nrm l[i]) := by
  unfold cpN
  rw [List.take_succ_eq_append_getElem hi, List.map_append, List.set_append_right _ _ (by simp; omega), List.append_assoc]
  congr 1
  rw [show i - ((l.take i).map nrm).length = 0 by simp; omega, List.drop_eq_getElem_cons hi]
  rfl

theorem flat_set (l : List Bd) : ∀ (i : Nat) (hi : i < l.length), ((l.flatMap bdC).set (i * 4) (str [101])).set (i * 4 + 3) (.int .i64 0) = (l.set i (nrm l[i])).flatMap bdC := by
  induction l with
  | nil => intro i hi; simp at hi
  | cons b l ih =>
    intro i hi
    cases i with
    | zero => rfl
    | succ i =>
      have hl : (bdC b).length = 4 := rfl
      rw [List.flatMap_cons, List.set_append_right _ _ (by show 4 ≤ _; omega), List.set_append_right _ _ (by show 4 ≤ _; omega), hl, show (i + 1) * 4 - 4 = i * 4 by omega, show (i + 1) * 4 + 3 - 4 = i * 4 + 3 by omega, ih i (by simpa using hi)]
      rfl

theorem World.ownsRow.mk_set {w w' : World} {base g cap i0 : Nat} {cur : Array Value} {l : List Bd} (h : OwnB w base (.slice (some ⟨g, 0, none⟩) l.length cap) l) (hbg : base ≤ g)
    (h2 : w'.heap[g]? = some (.cells ((cur.setIfInBounds (i0 * 4) (.string ⟨#[101]⟩)).setIfInBounds (i0 * 4 + 3) (.int .i64 0)) 28 (0, 0))) (hnc : l.length ≤ cap) (hcm : cap ≤ maxLen) (hcs : cur.size = cap * 4)
    (htake : cur.toList.take (l.length * 4) = l.flatMap bdC) (i : Nat) (hi : i < l.length) (e : i = i0 := by rfl) : OwnB w' base (.slice (some ⟨g, 0, none⟩) l.length cap) (l.set i (nrm l[i])) := by
  subst e
  refine ⟨by rw [flats_length bdC_len], .inr ⟨g, cap, _, by simp, hbg, h2, by simpa using hnc, hcm, by simpa using hcs, ?_⟩⟩
  rw [← flat_set l i hi, ← htake, List.length_set]
  simp only [Array.toList_setIfInBounds]
  rw [List.take_set, List.take_set]
  rfl

/-- the two stores of a round. -/
theorem own_set {w : World} {base : Nat} {v : Value} {l : List Bd} (h : OwnB w base v l) (i : Nat) (hi : i < l.length) :
    ∃ g cap, v = .slice (some ⟨g, 0, none⟩) l.length cap ∧ base ≤ g ∧ w.cell? ⟨g, i * 4, none⟩ = some (.string ⟨l[i].ex.toArray⟩) ∧ w.cell? ⟨g, i * 4 + 3, none⟩ = some (.int .i64 l[i].wt) ∧
      w.frozen? ⟨g, i * 4, none⟩ = false ∧ w.frozen? ⟨g, i * 4 + 3, none⟩ = false ∧
      OwnB ((w.setCell ⟨g, i * 4, none⟩ (.string ⟨#[101]⟩)).setCell ⟨g, i * 4 + 3, none⟩ (.int .i64 0)) base v (l.set i (nrm l[i])) := by
  rcases h.2 with ⟨rfl, hn⟩ | ⟨g, cap, cur, rfl, hbg, hg, hnc, hcm, hcs, htake⟩
  · omega
  · have hc : ∀ r, r < 4 → w.cell? ⟨g, i * 4 + r, none⟩ = (bdC l[i])[r]? := by
      intro r hr
      rw [← flats_get bdC_len l i r hi hr, cell_of_row w _ _ _ _ _ hg, ← htake, List.getElem?_take, if_pos (by omega), Array.getElem?_toList]
    have h1 := heap_setCell_same w g (i * 4) cur 28 (.string ⟨#[101]⟩) hg
    have h2 := heap_setCell_same _ g (i * 4 + 3) _ 28 (.int .i64 0) h1
    refine ⟨g, cap, rfl, hbg, hc 0 (by omega), hc 3 (by omega), by simp [World.frozen?, hg], by simp [World.frozen?, hg], ?_⟩
    have hr := World.ownsRow.mk_set h hbg h2 hnc hcm hcs htake i hi
    exact hr

end Go.Proofs.YtlghphmehlmehaaDoor.Rt
