/-
  table.Move, walked.
-/
import Derived.Test.YtkcccfllkgjdiaaDoorTlSplit
import Derived.OneCell
namespace Go.Proofs.YtkcccfllkgjdiaaDoor.Tl
open Go.RowKit Rg
set_option linter.unusedVariables false

def moveOk (t : Ta) (s n : Int) : Prop := TurnOk t s ∧ okNode n = true ∧ ¬ t.nodes.getD s.toNat 0 = n
instance (t : Ta) (s n : Int) : Decidable (moveOk t s n) := inferInstanceAs (Decidable (_ ∧ _ ∧ _))
def moveT (t : Ta) (s n : Int) : Ta := if moveOk t s n then ⟨t.ep + 1, t.arcs, t.nodes.set s.toNat n⟩ else t
def moveC (t : Ta) (s n : Int) : Int := if moveOk t s n then 0 else 1
theorem turn_in {t : Ta} {s : Int} (h : TurnOk t s) : 0 ≤ s ∧ s < t.nodes.length := by
  obtain ⟨a, ha, he⟩ := (has_iff _ _).1 h.2.2
  have hs := h.1.shard ha
  have ho := (h.1.2.2.2 a ha).1
  omega
theorem wcs_set (l : List Int) : ∀ (n : Nat) (x : Int), (l.set n x).flatMap wC = (l.flatMap wC).set n (.int .i64 x) := by
  induction l with
  | nil => intro n x; simp
  | cons y t ih =>
    intro n x
    cases n with
    | zero => simp [wC]
    | succ n =>
      rw [List.set_cons_succ, List.flatMap_cons, List.flatMap_cons, ih]
      simp [wC]
theorem own_set {w : World} {base : Nat} {v : Value} {l : List Int} (h : OwnW w base v l) {n : Nat} (hn : n < l.length) (x : Int) :
    ∃ g cap, v = .slice (some ⟨g, 0, none⟩) l.length cap ∧ base ≤ g ∧ g < w.heap.size ∧ w.cell? ⟨g, n, none⟩ = some (.int .i64 l[n]) ∧ w.frozen? ⟨g, n, none⟩ = false ∧ OwnW (w.setCell ⟨g, n, none⟩ (.int .i64 x)) base v (l.set n x) := by
  rcases h.2 with ⟨_, hz⟩ | ⟨g, cap, cur, rfl, hbg, hg, hnc, hcm, hcs, htake⟩
  · omega
  · rw [Nat.mul_one] at htake hcs
    have hfl : (l.flatMap wC).length = l.length := by have := flats_length (f := wC) wC_len l; omega
    have hcell : cur[n]? = some (.int .i64 l[n]) := by
      have h1 : (cur.toList.take l.length)[n]? = (l.flatMap wC)[n]? := by rw [htake]
      rw [List.getElem?_take, if_pos hn, Array.getElem?_toList] at h1
      rw [h1]
      have := flats_get (f := wC) wC_len l n 0 hn (by decide)
      rw [Nat.mul_one, Nat.add_zero] at this
      rw [this]
      rfl
    refine ⟨g, cap, rfl, hbg, (Array.getElem?_eq_some_iff.1 hg).1, by rw [cell_of_row w _ _ _ _ _ hg]; exact hcell, by simp [World.frozen?, hg], ?_⟩
    have hw := set_heap hg n (.int .i64 x)
    refine ⟨by rw [wcs_set, List.length_set, List.length_set, hfl]; simp, .inr ⟨g, cap, _, by rw [List.length_set], hbg, hw, by rw [List.length_set]; exact hnc, hcm, by simp [hcs], ?_⟩⟩
    rw [List.length_set, Nat.mul_one, wcs_set, ← htake]
    simp [List.take_set]

theorem own_box {w : World} {b k n : Nat} {T T' : TypeId} {v : Value} {xs : List Value} (h : w.ownsRow b T k v n xs) {g : Nat} {cs : Array Value} {fz : Nat × Nat} (hg : w.heap[g]? = some (.cells cs T' fz)) (hT : T ≠ T') : v.ownBlock ≠ some g := by
  rcases h.2 with ⟨rfl, _⟩ | ⟨g', cap, cur, rfl, _, hh, _⟩
  · intro e; cases e
  · intro e
    cases e
    rw [hg] at hh
    injection hh with hh
    injection hh with _ hh
    exact hT hh.symm

set_option maxRecDepth 100000 in
set_option maxHeartbeats 4000000 in
theorem move_any (t : Ta) (s n : Int) (aa : Option Addr) (ac : Nat) (na : Option Addr) (nc : Nat) (h1 : t.arcs.length ≤ 1000000) (h2 : t.nodes.length ≤ 1000000) (w : World) (ht : TaAt w aa ac na nc t) (hw : Wf t.arcs) :
    Calls Tryd.prog 15 #[.agg #[.int .i64 t.ep, .slice aa t.arcs.length ac, .slice na t.nodes.length nc], .int .i64 s, .int .i64 n] w fun e w' =>
      ∃ aa' ac' na' nc', e = .returned (.tuple #[.agg #[.int .i64 (moveT t s n).ep, .slice aa' (moveT t s n).arcs.length ac', .slice na' (moveT t s n).nodes.length nc'], .int .i64 (moveC t s n)]) ∧ TaAt w' aa' ac' na' nc' (moveT t s n) ∧ Below w.heap.size w w' := by
  obtain ⟨W, hW⟩ : ∃ W, W = (w.alloc (.cells #[.int .i64 t.ep, .slice aa t.arcs.length ac, .slice na t.nodes.length nc] 26)).alloc (.cells #[.int .i64 0, .slice none 0 0, .slice none 0 0] 26) := ⟨_, rfl⟩
  have hbx := tabox (w := w) (.cells #[.int .i64 t.ep, .slice aa t.arcs.length ac, .slice na t.nodes.length nc] 26) (.cells #[.int .i64 0, .slice none 0 0, .slice none 0 0] 26)
  rw [← hW] at hbx
  obtain ⟨hx, hy, hb0, hWs⟩ := hbx
  have HB0 := Lib.hid hb0
  have HT := Lib.hid (ht.below hb0)
  have HX := Lib.hid hx
  have HY := Lib.hid hy
  have HW := Lib.hid hW
  have HWS := Lib.hid hWs
  have HTU := Lib.hid fun (wx : World) (hx : TaAt wx aa ac na nc t) => turnOk_any t s aa ac na nc wx hx hw
  have HOWN := Lib.hid (own_any t aa ac na nc h1 h2 W (ht.below hb0))
  unfold OwnR at HOWN
  obtain ⟨⟨c0, c1, c2⟩, -⟩ := box3 hx
  clear ht hb0 hW hWs hx hy
  go_enter Tryd.func15, Tryd.ntmps15
  go_wp2_with fail
  rw [← HW.out]
  go_wp2_with fail
  refine HOWN.out.mono ?_
  rintro e w1 ⟨va, vn, rfl, hown1, hb1⟩
  have HB1 := Lib.hid hb1
  obtain ⟨xa, xc, xn, xk, rfl, rfl, -⟩ := hown1.at
  obtain ⟨W2, hW2⟩ : ∃ W2, W2 = w1.alloc (.cells #[.int .i64 t.ep, .slice xa t.arcs.length xc, .slice xn t.nodes.length xk] 26) := ⟨_, rfl⟩
  have hal : Below w1.heap.size w1 W2 := by rw [hW2]; exact (Below.refl _ _).alloc (Nat.le_refl _) _
  have hz : W2.heap[w1.heap.size]? = some (.cells #[.int .i64 t.ep, .slice xa t.arcs.length xc, .slice xn t.nodes.length xk] 26 (0, 0)) := by rw [hW2]; exact heap_alloc_new _ _
  have HW2 := Lib.hid hW2
  have HAL := Lib.hid hal
  have HZ := Lib.hid hz
  have HB12 := Lib.hid (hb1.trans (hal.mono hb1.size))
  have HT2 := Lib.hid (HT.out.below HB12.out)
  have HO2 := Lib.hid (hown1.kept (w' := W2) fun k _ hk => hal.block k hk)
  obtain ⟨⟨d0, d1, d2⟩, -⟩ := box3 ((HB1.out.block _ (by rw [HWS.out]; omega)).trans HX.out)
  have hlt : w.heap.size < w1.heap.size := by have := HB1.out.size; have := HWS.out; omega
  clear hown1 hb1 c0 c1 c2 hW2 hal hz
  go_wp2_with fail
  rw [← HW2.out]
  refine (HTU.out _ HT2.out).mono ?_
  rintro e w3 ⟨rfl, hb3⟩
  have HB3 := Lib.hid hb3
  have HB03 := Lib.hid (HB12.out.trans (hb3.mono HB12.out.size))
  have HO3 := Lib.hid (HO2.out.kept (w' := w3) fun k _ hk => hb3.block k hk)
  have HX3 := Lib.hid ((HB03.out.block _ (by rw [HWS.out]; omega)).trans HX.out)
  have HY3 := Lib.hid ((HB03.out.block _ (by rw [HWS.out]; omega)).trans HY.out)
  have HZ3 := Lib.hid ((hb3.block _ (Array.getElem?_eq_some_iff.1 HZ.out).1).trans HZ.out)
  have HNX := Lib.hid HB1.out.size
  obtain ⟨⟨e0, e1, e2⟩, f0, f1, f2⟩ := box3 HX3.out
  obtain ⟨⟨y0, y1, y2⟩, y3, y4, y5⟩ := box3 HY3.out
  obtain ⟨⟨z0, z1, z2⟩, z3, z4, z5⟩ := box3 HZ3.out
  have hne : w1.heap.size ≠ w.heap.size + 1 := by have := HNX.out; have := HWS.out; omega
  clear hb3 d0 d1 d2
  have HERR : Hid (¬ moveOk t s n → ∃ aa' ac' na' nc', (Ending.returned (.tuple #[.agg #[.int .i64 t.ep, .slice xa t.arcs.length xc, .slice xn t.nodes.length xk], .int .i64 1]) : Ending) = .returned (.tuple #[.agg #[.int .i64 (moveT t s n).ep, .slice aa' (moveT t s n).arcs.length ac', .slice na' (moveT t s n).nodes.length nc'], .int .i64 (moveC t s n)]) ∧
      TaAt (set3 w3 (w.heap.size + 1) (.int .i64 t.ep) (.slice xa t.arcs.length xc) (.slice xn t.nodes.length xk)) aa' ac' na' nc' (moveT t s n) ∧ Below w.heap.size w (set3 w3 (w.heap.size + 1) (.int .i64 t.ep) (.slice xa t.arcs.length xc) (.slice xn t.nodes.length xk))) := Lib.hid fun h => by
    unfold moveT moveC
    rw [if_neg h, if_neg h]
    obtain ⟨aa', ac', na', nc', ha, hn, hta⟩ := (HO3.out.kept (w' := set3 w3 (w.heap.size + 1) (.int .i64 t.ep) (.slice xa t.arcs.length xc) (.slice xn t.nodes.length xk)) fun k hb _ => set3_heap _ _ _ _ _ _ (by have := HWS.out; omega)).at
    obtain ⟨rfl, -, rfl⟩ := Value.slice.inj ha
    obtain ⟨rfl, -, rfl⟩ := Value.slice.inj hn
    exact ⟨_, _, _, _, rfl, hta, set3_below (HB0.out.trans (HB03.out.mono HB0.out.size)) (by omega) _ _ _⟩
  by_cases g1 : TurnOk t s
  case neg =>
    have HR := Lib.hid (HERR.out fun h => g1 h.1)
    rw [decide_eq_false g1]
    clear g1
    go_wp2_with fail
    refine bodyPost_ret (v := .tuple #[.agg #[.int .i64 t.ep, .slice xa t.arcs.length xc, .slice xn t.nodes.length xk], .int .i64 1]) (by simp [results, Tryd.results15, go_sem, *]) rfl ?_
    exact HR.out
  have hin := turn_in g1
  have HG1 := Lib.hid g1
  rw [decide_eq_true g1]
  have HND := Lib.hid fun wx => node_any n wx
  clear g1
  by_cases g2 : okNode n = true
  case neg =>
    have HR := Lib.hid (HERR.out fun h => g2 h.2.1)
    rw [show okNode n = false by simpa using g2] at HND
    clear g2
    go_wp2_with fail
    refine (HND.out _).mono ?_
    rintro e w4 ⟨rfl, rfl⟩
    go_wp2_with fail
    refine bodyPost_ret (v := .tuple #[.agg #[.int .i64 t.ep, .slice xa t.arcs.length xc, .slice xn t.nodes.length xk], .int .i64 1]) (by simp [results, Tryd.results15, go_sem, *]) rfl ?_
    exact HR.out
  rw [g2] at HND
  obtain ⟨k, rfl⟩ : ∃ k : Nat, s = k := ⟨s.toNat, by omega⟩
  have hkl : k < t.nodes.length := by omega
  have hk0 : (0 : Int) ≤ (k : Int) := by omega
  have hki : (k : Int) < (t.nodes.length : Int) := by omega
  have HGET : Hid (t.nodes.getD (k : Int).toNat 0 = t.nodes[k]) := Lib.hid (by rw [Int.toNat_natCast, List.getD_eq_getElem?_getD, List.getElem?_eq_getElem hkl]; rfl)
  have hnod : WsAt w3 na nc t.nodes := (HT2.out.below HB3.out).nodes
  obtain ⟨gb, go, rfl, c9⟩ := WsAt.get hnod k hkl
  clear hnod
  by_cases g3 : t.nodes[k] = n
  case pos =>
    have HR := Lib.hid (HERR.out fun h => h.2.2 (HGET.out.trans g3))
    have e3 : (t.nodes[k] == n) = true := by rw [beq_iff_eq]; exact g3
    clear g2 g3 HGET
    generalize t.nodes[k] = x at *
    go_wp2_with fail
    refine (HND.out _).mono ?_
    rintro e w4 ⟨rfl, rfl⟩
    go_wp2_with fail
    refine bodyPost_ret (v := .tuple #[.agg #[.int .i64 t.ep, .slice xa t.arcs.length xc, .slice xn t.nodes.length xk], .int .i64 1]) (by simp [results, Tryd.results15, go_sem, *]) rfl ?_
    exact HR.out
  have HOK : Hid (moveOk t k n) := Lib.hid ⟨HG1.out, g2, fun h => g3 (HGET.out.symm.trans h)⟩
  have e3 : (t.nodes[k] == n) = false := by rw [beq_eq_false_iff_ne]; exact g3
  clear g2 g3
  have hep : IntKind.i64.wrap (t.ep + 1) = t.ep + 1 := IntWalk.i64_in _ (by have := HG1.out.1.1; omega)
  obtain ⟨g, cap, hv, hg1, hg2, hc, hf, -⟩ := own_set HO3.out.nodes hkl n
  obtain ⟨rfl, -, rfl⟩ := Value.slice.inj hv
  have hgx : g ≠ w1.heap.size := by
    rintro rfl
    rcases HO3.out.nodes.2 with ⟨e, _⟩ | ⟨g', cap', cur, e, _, hh, _⟩
    · cases e
    · cases e
      rw [HZ3.out] at hh
      simp at hh
  have hgy : g ≠ w.heap.size + 1 := by have := HWS.out; omega
  generalize t.nodes[k] = x at *
  go_wp2_with fail
  refine (HND.out _).mono ?_
  rintro e w4 ⟨rfl, rfl⟩
  go_wp2_with fail
  refine bodyPost_ret (v := .tuple #[.agg #[.int .i64 (t.ep + 1), .slice xa t.arcs.length xc, .slice (some ⟨g, 0, none⟩) t.nodes.length xk], .int .i64 0]) (by simp [results, Tryd.results15, go_sem, *]) rfl ?_
  have hM := HZ3.out
  have oN := HO3.out.nodes
  have oA := HO3.out.arcs
  have sW := HWS.out
  have hgA : (Value.slice xa t.arcs.length xc).ownBlock ≠ some g := by
    rcases oN.2 with ⟨e, _⟩ | ⟨g', cap', cur, e, _, hh, _⟩
    · cases e
    · cases e
      exact own_box oA hh (by decide)
  have oN4 : OwnW (w3.setCell ⟨w1.heap.size, 0, none⟩ (.int .i64 (t.ep + 1))) W.heap.size (.slice (some ⟨g, 0, none⟩) t.nodes.length xk) t.nodes := ownsRow_setCell_other oN (a := ⟨w1.heap.size, 0, none⟩) (own_box oN hM (by decide)) _
  have oA4 : OwnA (w3.setCell ⟨w1.heap.size, 0, none⟩ (.int .i64 (t.ep + 1))) W.heap.size (.slice xa t.arcs.length xc) t.arcs := ownsRow_setCell_other oA (a := ⟨w1.heap.size, 0, none⟩) (own_box oA hM (by decide)) _
  obtain ⟨g', cap', hv', _, _, _, _, oN5⟩ := own_set oN4 hkl n
  obtain ⟨hgg, -, rfl⟩ := Value.slice.inj hv'
  injection hgg with hgg
  injection hgg with hgg
  subst hgg
  have oA5 : OwnA ((w3.setCell ⟨w1.heap.size, 0, none⟩ (.int .i64 (t.ep + 1))).setCell ⟨g, k, none⟩ (.int .i64 n)) W.heap.size (.slice xa t.arcs.length xc) t.arcs := ownsRow_setCell_other oA4 (a := ⟨g, k, none⟩) hgA _
  have hk6 := fun (b : Nat) (hb : W.heap.size ≤ b) => set3_heap ((w3.setCell ⟨w1.heap.size, 0, none⟩ (.int .i64 (t.ep + 1))).setCell ⟨g, k, none⟩ (.int .i64 n)) (w.heap.size + 1) (.int .i64 (t.ep + 1)) (.slice xa t.arcs.length xc) (.slice (some ⟨g, 0, none⟩) t.nodes.length xk) b (by omega)
  have oN6 := own_kept oN5 (fun b hb _ => hk6 b hb)
  have oA6 := own_kept oA5 (fun b hb _ => hk6 b hb)
  obtain ⟨na', nc', e1', hN6⟩ := OwnW.at oN6
  obtain ⟨aa', ac', e2', hA6⟩ := OwnA.at oA6
  obtain ⟨rfl, -, rfl⟩ := Value.slice.inj e2'
  obtain ⟨rfl, -, rfl⟩ := Value.slice.inj e1'
  unfold moveT moveC
  rw [if_pos HOK.out, if_pos HOK.out, Int.toNat_natCast]
  refine ⟨xa, xc, some ⟨g, 0, none⟩, xk, by simp, ⟨hA6, hN6⟩, ?_⟩
  have b3 : Below w.heap.size w w3 := HB0.out.trans (HB03.out.mono HB0.out.size)
  have b4 := b3.setCell (p := ⟨w1.heap.size, 0, none⟩) (show _ ≤ w1.heap.size by omega) (.int .i64 (t.ep + 1))
  have b5 := b4.setCell (p := ⟨g, k, none⟩) (show _ ≤ g by omega) (.int .i64 n)
  exact set3_below b5 (by omega) _ _ _

end Go.Proofs.YtkcccfllkgjdiaaDoor.Tl
