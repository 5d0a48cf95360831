/-
  ring.lay: arcs put in order.
-/
import Derived.Test.YtkcccfllkgjdiaaDoorRgHalf
import Derived.Test.YtkcccfllkgjdiaaDoorRgOrd
import Derived.Test.YtkcccfllkgjdiaaDoorRgComp
import Derived.Test.YtkcccfllkgjdiaaDoorSort
import Derived.Lib.AppendIntMem
namespace Go.Proofs.YtkcccfllkgjdiaaDoor.Rg
open Go.RowKit
set_option linter.unusedVariables false

instance : Inhabited Ar := ⟨⟨0, 0⟩⟩

theorem cfA_neg (a b : Ar) : cfA a b < 0 ↔ (a.f < b.f ∨ (a.f = b.f ∧ a.s < b.s)) := by
  unfold cfA orI Lib.compareInt
  by_cases h1 : a.f < b.f
  · simp [h1]
  · by_cases h2 : b.f < a.f
    · simp [h1, h2]; omega
    · have h3 : a.f = b.f := by omega
      by_cases h4 : a.s < b.s
      · simp [h3, h4]
      · by_cases h5 : b.s < a.s
        · simp [h3, h4, h5]
        · simp [h3, h4, h5]
open Go.Sort in
theorem ltA (a b : Ar) : ltOf cfA a b = decide (a.f < b.f ∨ (a.f = b.f ∧ a.s < b.s)) := by
  unfold ltOf
  rw [decide_eq_decide]
  exact cfA_neg a b
open Go.Sort in
theorem swoA : SWO (ltOf cfA) where
  irrefl x := by rw [ltA]; simp
  trans x y z h1 h2 := by rw [ltA] at *; simp at *; omega
  ntrans x y z h1 h2 := by rw [ltA] at *; simp at *; omega

open Go.Sort in
theorem order_lays (blk off size : Nat) (w : World) : CmpLays Tryd.prog 51 #[] arC 2 cfA blk off size w :=
  fun _ _ _ _ x y => order_any x y _

open Go.Sort in
theorem holds_own {w : World} {base : Nat} {l : List Ar} {g cap : Nat} (h : OwnA w base (.slice (some ⟨g, 0, none⟩) l.length cap) l) : HoldsK arC 2 w g 0 l.toArray := by
  intro j hj
  rw [size_flatK, List.size_toArray] at hj
  refine ⟨?_, World.ownsRow.frozenAt h _⟩
  rw [get_flatK _ _ _ _ (by rw [List.size_toArray]; exact hj)]
  have hd : j / 2 < l.length := by omega
  have hg := flats_get arC_len l (j / 2) (j % 2) hd (Nat.mod_lt _ (by decide))
  rw [Nat.div_add_mod' j 2] at hg
  have hb : j % 2 < (arC l[j / 2]).length := by rw [arC_len]; exact Nat.mod_lt _ (by decide)
  rw [List.getElem?_eq_getElem hb] at hg
  have hc := World.ownsRow.cells h (g := g) rfl j _ hg
  rw [add_at] at hc
  rw [hc, getElem!_pos l.toArray (j / 2) (by rw [List.size_toArray]; exact hd)]
  simp only [id, List.getElem_toArray]
  rw [getElem!_pos (arC l[j / 2]) (j % 2) hb]

open Go.Sort in
theorem at_holds {w : World} {g cap : Nat} {l : List Ar} (h : HoldsK arC 2 w g 0 l.toArray) (hl : l.length ≤ cap) (hm : cap ≤ maxLen) : AsAt w (some ⟨g, 0, none⟩) cap l := by
  refine ⟨hl, hm, fun _ => ⟨g, 0, rfl, fun i hi r v hv => ?_⟩⟩
  have hr : r < 2 := by
    have := (List.getElem?_eq_some_iff.1 hv).1
    rwa [arC_len] at this
  have hc := (HoldsK.cell h (i := i) (c := r) (by rw [List.size_toArray]; exact hi) hr).1
  rw [getElem!_pos l.toArray i (by rw [List.size_toArray]; exact hi), List.getElem_toArray] at hc
  rw [hc]
  obtain ⟨h1, h2⟩ := List.getElem?_eq_some_iff.1 hv
  rw [getElem!_pos (arC l[i]) r h1, h2]

open Go.Sort in
theorem sorted_below (base : Nat) (w : World) (g n : Nat) (d : Array Ar) (os : Array Obj) (hg : base ≤ g) (hb : base ≤ w.heap.size) : Below base w (sortWorldK arC 2 w g 0 n d os) := by
  refine ⟨rfl, rfl, rfl, ?_, ?_⟩
  · show w.heap.size ≤ ((w.heap.modify g _) ++ os).size
    simp
  · intro k hk
    show ((w.heap.modify g _) ++ os)[k]? = w.heap[k]?
    rw [Array.getElem?_append_left (by simp; omega), Array.getElem?_modify, if_neg (by omega)]

open Go.Sort in
theorem sorted_list {l : List Ar} {d : Array Ar} (hap : Apart l) (hp : PermIn 0 l.toArray.size l.toArray d) (hs : SortedIn (ltOf cfA) 0 l.toArray.size d) : d.toList = srt l := by
  obtain ⟨h1, _, h2⟩ := hp
  have hperm : d.toList.Perm l := by
    have e1 : d.extract 0 l.toArray.size = d := by rw [← h1]; exact Array.extract_size
    have e2 : l.toArray.extract 0 l.toArray.size = l.toArray := Array.extract_size
    rw [e1, e2] at h2
    simpa using h2
  refine srt_one ?_ hperm
  have hap' : Apart d.toList := hap.perm hperm.symm
  refine up_of_next fun i hi => ?_
  have hi' : i + 1 < d.size := by simpa using hi
  have := hs i (i + 1) (by omega) (by omega) (by rw [← h1]; exact hi')
  rw [ltA, getElem!_pos d i (by omega), getElem!_pos d (i + 1) hi'] at this
  simp only [decide_eq_false_iff_not] at this
  have hne := List.pairwise_iff_getElem.1 hap' i (i + 1) (by omega) hi (by omega)
  simp only [Array.getElem_toList] at *
  omega

/-- arcs in order, of the call's own row. -/
def LayR (base : Nat) (l : List Ar) (w : World) (e : Ending) (w' : World) : Prop :=
  ∃ a cap, e = .returned (.slice a l.length cap) ∧ AsAt w' a cap (srt l) ∧ Below base w w'
open Go.Sort in
set_option maxHeartbeats 1000000 in
theorem lay_any (base : Nat) (l : List Ar) (a : Option Addr) (cap : Nat) (w : World) (hown : OwnA w base (.slice a l.length cap) l) (hl : l ≠ []) (h9 : l.length ≤ 1000000) (hap : Apart l) (hbase : base ≤ w.heap.size) :
    Calls Tryd.prog 36 #[.slice a l.length cap] w (LayR base l w) := by
  obtain ⟨g, rfl, hbg, hgl, hlc, hcm⟩ : ∃ g, a = some ⟨g, 0, none⟩ ∧ base ≤ g ∧ g < w.heap.size ∧ l.length ≤ cap ∧ cap ≤ maxLen := by
    rcases hown.2 with ⟨he, hn⟩ | ⟨g, cap', cur, he, hbg, hg, hnc, hcm, _⟩
    · exact absurd (List.eq_nil_of_length_eq_zero hn) hl
    · obtain ⟨rfl, -, rfl⟩ := Value.slice.inj he
      exact ⟨g, rfl, hbg, (Array.getElem?_eq_some_iff.1 hg).1, hnc, hcm⟩
  have hsort := AnyQ.slices_SortFunc Tryd.sortAt 2 Tryd.isAgg52 Tryd.sizeOf52 arC arC_len
    (fun x v hv => by simp only [arC, List.mem_cons, List.not_mem_nil, or_false] at hv; rcases hv with rfl | rfl <;> rfl) cfA swoA 51 #[] g 0 cap l.toArray w (enters_of Tryd.func51 (by kernel_rfl) rfl) (order_lays g 0 _ w) (holds_own hown) hgl (by rw [List.size_toArray]; omega)
  rw [List.size_toArray] at hsort
  change Calls Tryd.prog 50 _ _ _ at hsort
  have hfin : ∀ (w1 : World), (∃ d' n os, PermIn 0 l.length l.toArray d' ∧ SortedIn (ltOf cfA) 0 l.length d' ∧ w1 = sortWorldK arC 2 w g 0 n d' os) → AsAt w1 (some ⟨g, 0, none⟩) cap (srt l) ∧ Below base w w1 := by
    rintro w1 ⟨d', n, os, hp, hs, rfl⟩
    rw [← List.size_toArray] at hp hs
    have he := sorted_list hap hp hs
    refine ⟨?_, sorted_below base w g n d' os hbg hbase⟩
    refine at_holds ?_ (by rw [srt_length]; exact hlc) hcm
    rw [← he]
    show HoldsK arC 2 (grow (putRowK arC 2 (Sort.ahead w n) g 0 d') os) g 0 d'
    exact holdsK_grow arC 2 _ _ _ _ _ (by show g < (w.heap.modify g _).size; simpa using hgl) (holdsK_putRowK arC 2 _ _ _ l.toArray d' (holdsK_ahead arC 2 w n g 0 _ (holds_own hown)) hp.1)
  have hnb : ∀ i (h : i + 1 < (srt l).length), (srt l)[i + 1].f ≠ (srt l)[i].f := fun i h => by
    have := (srt_up hap).lt h (i := i) (by omega)
    omega
  have HFIN := Lib.hid hfin
  have HC := Lib.hid fun (wx : World) (hx : AsAt wx (some ⟨g, 0, none⟩) cap (srt l)) => compact_any (some ⟨g, 0, none⟩) cap (srt l) wx hx hnb
  rw [srt_length] at HC
  clear hfin hown hap hnb
  go_enter Tryd.func36, Tryd.ntmps36
  go_wp2_with (first | (go_at_call 50; refine hsort.mono ?_; rintro e w1 ⟨rfl, hw1⟩; have HW1 := Lib.hid (HFIN.out w1 hw1); clear hw1) | (go_at_call 55; refine (HC.out w1 HW1.out.1).mono ?_; rintro e w2 ⟨rfl, hb2⟩; have HB2 := Lib.hid hb2; clear hb2))
  go_ret
  exact ⟨_, _, rfl, HW1.out.1.below HB2.out, HW1.out.2.trans (HB2.out.mono (Nat.le_trans hbase HW1.out.2.size))⟩

end Go.Proofs.YtkcccfllkgjdiaaDoor.Rg
