/-
  table.Split, walked.
-/
import Derived.Test.YtkcccfllkgjdiaaDoorTlTurn
import Derived.Deep.RegionLaw
namespace Go.Proofs.YtkcccfllkgjdiaaDoor.Tl
open Go.RowKit Rg
set_option linter.unusedVariables false

def splitT (t : Ta) (s : Int) : Ta := if halvC t s = 0 then ⟨t.ep + 1, halvL t s, t.nodes ++ [t.nodes.getD s.toNat 0]⟩ else t
def splitN (t : Ta) (s : Int) : Int := if halvC t s = 0 then t.nodes.length else -1
/-- an answer that is a table, a number and a code. -/
def Ta3R (t : Ta) (n c : Int) (w : World) (e : Ending) (w' : World) : Prop :=
  ∃ aa ac na nc, e = .returned (.tuple #[.agg #[.int .i64 t.ep, .slice aa t.arcs.length ac, .slice na t.nodes.length nc], .int .i64 n, .int .i64 c]) ∧ TaAt w' aa ac na nc t ∧ Below w.heap.size w w'
theorem halv_ok {t : Ta} {s : Int} (h : halvC t s = 0) : TurnOk t s ∧ 0 ≤ s ∧ s < t.nodes.length ∧ t.nodes.length < 16 ∧ halvL t s ≠ [] := by
  unfold halvC at h
  split at h
  · cases h
  · rename_i h1
    have h1 : TurnOk t s := by simpa using h1
    split at h
    · cases h
    · rename_i h2
      split at h
      · cases h
      · rename_i h3
        obtain ⟨a, ha, he⟩ := (has_iff _ _).1 h1.2.2
        have hs := h1.1.shard ha
        have ho := (h1.1.2.2.2 a ha).1
        have hn := h1.1.2.1.2.1
        refine ⟨h1, by omega, by omega, by omega, ?_⟩
        unfold halvL
        rw [if_pos]
        · exact h3
        · unfold halvC
          rw [if_neg (by simpa using h1), if_neg h2, if_neg h3]
          exact h
theorem tabox {w : World} (o1 o2 : Obj) : ((w.alloc o1).alloc o2).heap[w.heap.size]? = some o1 ∧ ((w.alloc o1).alloc o2).heap[w.heap.size + 1]? = some o2 ∧ Below w.heap.size w ((w.alloc o1).alloc o2) ∧ ((w.alloc o1).alloc o2).heap.size = w.heap.size + 2 := by
  refine ⟨by rw [Below.heap_alloc _ _ _ (by simp), heap_alloc_new], ?_, ((Below.refl _ _).alloc (Nat.le_refl _) _).alloc (by simp) _, by simp⟩
  have := heap_alloc_new (w.alloc o1) o2
  rwa [show (w.alloc o1).heap.size = w.heap.size + 1 by simp] at this
/-- a number more, in a region that draws its order. -/
theorem step_put_w {ops : Array Oper} {o : Oper} {a : Act} {K : Act → World → Prop} {Q : Exit → Act → World → Prop} {E : Prop} {w : World} {base : Nat} {v : Value} {l : List Int} (x : Int) (hgd : o.guard = none) (s y : Operand)
    (ho : o.op = .call { callee := .builtin .append, args := #[s, y], argTypes := #[22, 22] }) (hb : OwnW w base v l) (hbase : base ≤ w.heap.size) (hl : l.length ≤ 1000000)
    (hs : a.eval s = v) (H : Nat) (hH : w.heap.size = H) (hx : a.eval y = .slice (some ⟨H, 0, none⟩) 1 1)
    (h : ∀ g cap w', OwnW w' base (.slice (some ⟨g, 0, none⟩) (l.length + 1) cap) (l ++ [x]) → w.grownBy w' v.ownBlock → K (a.put o.dst (.slice (some ⟨g, 0, none⟩) (l.length + 1) cap)) w') :
    if Region.wanted o (yielded ops a.tmps) = true then Oper.wp Tryd.prog o a (w.alloc (.cells #[.int .i64 x] 3)) K Q else E := by
  subst hH
  obtain ⟨i0, hi, hz0, hz1, hz2⟩ := info_parts int_info
  refine step_append_lies (w.alloc _) hgd s y 22 ho base 3 i0 _ 1 8 Tryd.underlying22 hi hz0 hz1 hz2 rfl (by decide) v l.length (l.flatMap wC) hs (World.ownsRow.alloc hb _) ⟨w.heap.size, 0, none⟩ 1 1 (wC x) hx (by simp [wC]) (World.news_of_block (heap_alloc_new w _)) (by simpa using wC_one [x]) (by decide) (by unfold maxLen; omega) (by omega) (by simp; omega) _ rfl ?_
  intro g cap w' hown hg _ _
  refine h g cap w' ?_ (alloc_before hg)
  unfold OwnW
  rw [List.length_append, List.flatMap_append]
  simpa using hown
/-- a box of three cells, written; nothing else is. -/
theorem box_set {w : World} {g : Nat} {x y z : Value} {T : TypeId} (h : w.heap[g]? = some (.cells #[x, y, z] T (0, 0))) (i : Nat) (u : Value) :
    (w.setCell ⟨g, i, none⟩ u).heap[g]? = some (.cells (#[x, y, z].setIfInBounds i u) T (0, 0)) ∧ w.grownBy (w.setCell ⟨g, i, none⟩ u) (some g) := ⟨set_heap h i u, set_grown _ _ _ _⟩
theorem box_all {w : World} {g : Nat} {x y z x' y' z' : Value} {T : TypeId} (h : w.heap[g]? = some (.cells #[x, y, z] T (0, 0))) :
    (set3 w g x' y' z').heap[g]? = some (.cells #[x', y', z'] T (0, 0)) ∧ w.grownBy (set3 w g x' y' z') (some g) := by
  unfold set3
  have h0 := box_set h 0 x'
  have h1 := box_set (x := x') (y := y) (z := z) (by simpa using h0.1) 1 y'
  have h2 := box_set (x := x') (y := y') (z := z) (by simpa using h1.1) 2 z'
  exact ⟨by simpa using h2.1, GrownBy.trans h0.2 (GrownBy.trans h1.2 h2.2)⟩
theorem grown_below {w w' : World} {g B : Nat} (h : w.grownBy w' (some g)) (hg : B ≤ g) (hw : B ≤ w.heap.size) : Below B w w' := (Below.refl B w).grown h hw (fun k e => by cases e; exact hg)
theorem ta_other {w w' : World} {aa na : Option Addr} {ac nc : Nat} {t : Ta} {base : Nat} (h1 : AsAt w aa ac t.arcs) (h2 : OwnW w base (.slice na t.nodes.length nc) t.nodes) {g : Nat} {e : Int} {x y : Value} {T : TypeId} {fz : Nat × Nat} (hg : w.heap[g]? = some (.cells #[.int .i64 e, x, y] T fz))
    (hx : ∀ n, x ≠ .int .u32 n) (hy : ∀ n, y ≠ .int .u32 n) (hgb : g < base) (hk : ∀ b, b ≠ g → w'.heap[b]? = w.heap[b]?) : TaAt w' aa ac na nc t := by
  refine ⟨ars_other h1 hg (box_ne hx hy) hk, ?_⟩
  obtain ⟨na', nc', he, h⟩ := OwnW.at (own_kept (w' := w') h2 fun b hb _ => hk b (by omega))
  obtain ⟨rfl, -, rfl⟩ := Value.slice.inj he
  exact h

theorem ars_kept {w w' : World} {a : Option Addr} {cap : Nat} {l : List Ar} (h : AsAt w a cap l) (hk : ∀ b, b < w.heap.size → (∃ o n, w.cell? ⟨b, o, none⟩ = some (.int .u32 n)) → w'.heap[b]? = w.heap[b]?) : AsAt w' a cap l := by
  refine ⟨h.len, h.max, fun h0 => ?_⟩
  obtain ⟨b, o, ha, hc⟩ := h.at' h0
  have h00 := hc 0 h0 0 _ rfl
  have hb := hk b (lt_of_cell h00) ⟨_, _, h00⟩
  exact ⟨b, o, ha, fun i hi r v hv => (World.cell?_of_block (w := w) (a := ⟨b, o + i * 2 + r, none⟩) hb).trans (hc i hi r v hv)⟩
theorem box_no {w : World} {g : Nat} {e : Int} {x y : Value} {T : TypeId} {fz : Nat × Nat} (hg : w.heap[g]? = some (.cells #[.int .i64 e, x, y] T fz)) (hx : ∀ n, x ≠ .int .u32 n) (hy : ∀ n, y ≠ .int .u32 n) : ¬ ∃ o n, w.cell? ⟨g, o, none⟩ = some (.int .u32 n) := by
  rintro ⟨o, n, h⟩
  rw [cell_of_row w _ _ _ _ _ hg] at h
  exact box_ne hx hy _ _ h

set_option maxRecDepth 100000 in
set_option maxHeartbeats 4000000 in
theorem split_any (t : Ta) (s : Int) (aa : Option Addr) (ac : Nat) (na : Option Addr) (nc : Nat) (h1 : t.arcs.length ≤ 1000000) (h2 : t.nodes.length ≤ 1000000) (w : World) (ht : TaAt w aa ac na nc t) (hw : Wf t.arcs) :
    Calls Tryd.prog 14 #[.agg #[.int .i64 t.ep, .slice aa t.arcs.length ac, .slice na t.nodes.length nc], .int .i64 s] w (Ta3R (splitT t s) (splitN t s) (halvC t s) w) := by
  obtain ⟨W, hW⟩ : ∃ W, W = (w.alloc (.cells #[.int .i64 t.ep, .slice aa t.arcs.length ac, .slice na t.nodes.length nc] 26)).alloc (.cells #[.int .i64 0, .slice none 0 0, .slice none 0 0] 26) := ⟨_, rfl⟩
  have hbx := tabox (w := w) (.cells #[.int .i64 t.ep, .slice aa t.arcs.length ac, .slice na t.nodes.length nc] 26) (.cells #[.int .i64 0, .slice none 0 0, .slice none 0 0] 26)
  rw [← hW] at hbx
  obtain ⟨hx, hy, hb0, hWs⟩ := hbx
  have HB0 := Lib.hid hb0
  have HT := Lib.hid (ht.below hb0)
  have HX := Lib.hid hx
  have HY := Lib.hid hy
  have HW := Lib.hid hW
  have HWS := Lib.hid hWs
  have HHV := Lib.hid (halves_any t s aa ac na nc W (ht.below hb0) hw)
  have HOWN := Lib.hid fun (wx : World) (hx : TaAt wx aa ac na nc t) => own_any t aa ac na nc h1 h2 wx hx
  unfold HalvR at HHV
  unfold OwnR at HOWN
  obtain ⟨⟨c0, c1, c2⟩, -⟩ := box3 hx
  clear ht hb0 hW hWs hx hy
  go_enter Tryd.func14, Tryd.ntmps14
  go_wp2_with fail
  rw [← HW.out]
  go_wp2_with fail
  refine HHV.out.mono ?_
  rintro e w1 ⟨ba, bc, rfl, hat1, hn1, hb1⟩
  have HA1 := Lib.hid hat1
  have HB1 := Lib.hid hb1
  have HT1 := Lib.hid (HT.out.below hb1)
  have HX1 := Lib.hid ((hb1.block _ (by rw [HWS.out]; omega)).trans HX.out)
  obtain ⟨⟨d0, d1, d2⟩, -⟩ := box3 HX1.out
  clear hat1 hn1 hb1 c0 c1 c2
  go_wp2_with fail
  refine (HOWN.out _ HT1.out).mono ?_
  rintro e w2 ⟨va, vn, rfl, hown2, hb2⟩
  have HB2 := Lib.hid (HB1.out.trans (hb2.mono HB1.out.size))
  have HB12 := Lib.hid hb2
  have HX2 := Lib.hid ((HB2.out.block _ (by rw [HWS.out]; omega)).trans HX.out)
  have HY2 := Lib.hid ((HB2.out.block _ (by rw [HWS.out]; omega)).trans HY.out)
  have HO2 := Lib.hid hown2
  have HZ1 : Hid (W.heap.size ≤ w1.heap.size) := Lib.hid HB1.out.size
  obtain ⟨xa, xc, xn, xk, rfl, rfl, -⟩ := hown2.at
  obtain ⟨⟨e0, e1, e2⟩, f0, f1, f2⟩ := box3 HX2.out
  obtain ⟨⟨y0, y1, y2⟩, z0, z1, z2⟩ := box3 HY2.out
  have hne : w.heap.size + 1 ≠ w.heap.size := by omega
  clear hown2 hb2 d0 d1 d2
  by_cases hc : halvC t s = 0
  case neg =>
    have HR1 : Hid (splitT t s = t) := Lib.hid (if_neg hc)
    have HR2 : Hid (splitN t s = -1) := Lib.hid (if_neg hc)
    have hcn : (halvC t s != 0) = true := by rw [bne_iff_ne]; exact hc
    clear hc
    generalize halvC t s = c at *
    go_wp2_with fail
    refine bodyPost_ret (v := .tuple #[.agg #[.int .i64 t.ep, .slice xa t.arcs.length xc, .slice xn t.nodes.length xk], .int .i64 (-1), .int .i64 c]) (by simp [results, Tryd.results14, go_sem, *]) rfl ?_
    rw [HR1.out, HR2.out]
    have hk : ∀ k, k ≠ w.heap.size → k ≠ w.heap.size + 1 → (set3 (set3 w2 w.heap.size (.int .i64 t.ep) (.slice xa t.arcs.length xc) (.slice xn t.nodes.length xk)) (w.heap.size + 1) (.int .i64 t.ep) (.slice xa t.arcs.length xc) (.slice xn t.nodes.length xk)).heap[k]? = w2.heap[k]? := fun k h3 h4 => by
      rw [set3_heap _ _ _ _ _ _ h4, set3_heap _ _ _ _ _ _ h3]
    obtain ⟨aa', ac', na', nc', ha, hn, hta⟩ := (HO2.out.kept fun k hb _ => hk k (by have := HWS.out; have := HZ1.out; omega) (by have := HWS.out; have := HZ1.out; omega)).at
    obtain ⟨rfl, -, rfl⟩ := Value.slice.inj ha
    obtain ⟨rfl, -, rfl⟩ := Value.slice.inj hn
    exact ⟨_, _, _, _, rfl, hta, set3_below (set3_below (HB0.out.trans (HB2.out.mono HB0.out.size)) (Nat.le_refl _) _ _ _) (by omega) _ _ _⟩
  have HOK := Lib.hid (halv_ok hc)
  have hcn : (halvC t s != 0) = false := by rw [bne_eq_false_iff_eq]; exact hc
  have HR1 : Hid (splitT t s = ⟨t.ep + 1, halvL t s, t.nodes ++ [t.nodes.getD s.toNat 0]⟩) := Lib.hid (if_pos hc)
  have HR2 : Hid (splitN t s = t.nodes.length) := Lib.hid (if_pos hc)
  have HC0 := Lib.hid hc
  rw [hc] at hcn ⊢
  clear hc
  have hep : IntKind.i64.wrap (t.ep + 1) = t.ep + 1 := IntWalk.i64_in _ (by have := HOK.out.1.1.1; omega)
  obtain ⟨n, hsn⟩ : ∃ n : Nat, s = n := ⟨s.toNat, by have := HOK.out.2.1; omega⟩
  subst hsn
  have hnl : n < t.nodes.length := by have := HOK.out.2.2.1; omega
  have hnli : (n : Int) < (t.nodes.length : Int) := by omega
  have hn0 : (0 : Int) ≤ (n : Int) := by omega
  go_wp2_with fail
  have h5 := box_all (x' := .int .i64 t.ep) (y' := .slice xa t.arcs.length xc) (z' := .slice xn t.nodes.length xk) HX2.out
  have h6 := box_set h5.1 0 (.int .i64 (t.ep + 1))
  have h7 := box_set (x := .int .i64 (t.ep + 1)) (y := .slice xa t.arcs.length xc) (z := .slice xn t.nodes.length xk) (by simpa using h6.1) 1 (.slice ba (halvL t n).length bc)
  have h8 := GrownBy.trans h5.2 (GrownBy.trans h6.2 h7.2)
  have h9 : _ = some (Obj.cells #[.int .i64 (t.ep + 1), .slice ba (halvL t n).length bc, .slice xn t.nodes.length xk] 26 (0, 0)) := h7.1
  unfold set3 at h8 h9
  clear h5 h6 h7 e0 e1 e2 f0 f1 f2
  generalize World.setCell (World.setCell (World.setCell (World.setCell (World.setCell w2 _ _) _ _) _ _) _ _) _ _ = w3 at h8 h9 ⊢
  have H8 := Lib.hid h8
  have H9 := Lib.hid h9
  have hO3 := HO2.out.kept (w' := w3) fun k hb _ => h8.block k (by assumption) (by have := HWS.out; have := HZ1.out; simp; omega)
  have HO3 := Lib.hid hO3
  obtain ⟨g0, k0, e0, hws⟩ := OwnW.at hO3.nodes
  obtain ⟨rfl, -, rfl⟩ := Value.slice.inj e0
  obtain ⟨gb, go, rfl, c9⟩ := WsAt.get hws n hnl
  have HGET : Hid (t.nodes.getD (n : Int).toNat 0 = t.nodes[n]) := Lib.hid (by rw [Int.toNat_natCast, List.getD_eq_getElem?_getD, List.getElem?_eq_getElem hnl]; rfl)
  obtain ⟨⟨d0, d1, d2⟩, f0, f1, f2⟩ := box3 h9
  generalize t.nodes[n] = x at *
  clear hws e0 hO3 h8 h9 y0 y1 y2 z0 z1 z2
  have hs3 : w1.heap.size ≤ w3.heap.size := Nat.le_trans HB12.out.size H8.out.size
  have HDR := Lib.hid (own_drewN HO3.out.nodes 1)
  have hbl : w.heap.size < w3.heap.size := (Array.getElem?_eq_some_iff.1 H9.out).1
  have hgb : w1.heap.size ≤ gb := (World.ownsRow.lt HO3.out.nodes gb rfl).1
  have hgw : gb ≠ w.heap.size := by have := HWS.out; have := HZ1.out; omega
  have HNB : Hid (some w.heap.size ≠ (Value.slice (some ⟨gb, go, none⟩) t.nodes.length xk).ownBlock) := Lib.hid fun e => hgw (Option.some.inj e).symm
  go_region_law (refine step_put_w (w := w3.drew) x rfl (.tmp 32) (.tmp 38) rfl HDR.out hs3 h2 rfl w3.heap.size rfl rfl ?_; intro g4 cap4 w4 hown4 hg4; have HP4 : Hid (OwnW w4 w1.heap.size (.slice (some ⟨g4, 0, none⟩) (t.nodes.length + 1) cap4) (t.nodes ++ [x]) ∧ w3.drew.grownBy w4 (some gb)) := Lib.hid ⟨hown4, hg4⟩; have hx4 := (hg4.block w.heap.size hbl HNB.out).trans H9.out; obtain ⟨⟨k0, k1, k2⟩, q0, q1, q2⟩ := box3 hx4; clear hx4 hown4 hg4)
  all_goals
    have hx4 := (HP4.out.2.block w.heap.size hbl HNB.out).trans H9.out
    have hx5 := box_set hx4 2 (.slice (some ⟨g4, 0, none⟩) (t.nodes.length + 1) cap4)
    have H5 := Lib.hid hx5.2
    have HX5 : Hid ((w4.setCell ⟨w.heap.size, 2, none⟩ (.slice (some ⟨g4, 0, none⟩) (t.nodes.length + 1) cap4)).heap[w.heap.size]? = some (.cells #[.int .i64 (t.ep + 1), .slice ba (halvL t n).length bc, .slice (some ⟨g4, 0, none⟩) (t.nodes.length + 1) cap4] 26 (0, 0))) := Lib.hid hx5.1
    clear hx4 hx5 k0 k1 k2 q0 q1 q2 d0 d1 d2 f0 f1 f2
    generalize w4.setCell ⟨w.heap.size, 2, none⟩ (.slice (some ⟨g4, 0, none⟩) (t.nodes.length + 1) cap4) = w5 at *
    have HY5 : Hid (w5.heap[w.heap.size + 1]? = some (.cells #[.int .i64 0, .slice none 0 0, .slice none 0 0] 26 (0, 0))) := Lib.hid (by
      have e1 := (Array.getElem?_eq_some_iff.1 HY2.out).1
      have e2 := H8.out.size
      have e3 := HP4.out.2.size
      have e4 : w3.heap.size ≤ w4.heap.size := e3
      have := HWS.out
      rw [H5.out.block _ (by omega) (by simp), HP4.out.2.block _ (show _ < w3.heap.size by omega) (by have := HZ1.out; simp; omega)]
      exact (H8.out.block _ e1 (by simp)).trans HY2.out)
    obtain ⟨⟨k0, k1, k2⟩, q0, q1, q2⟩ := box3 HX5.out
    obtain ⟨⟨r0, r1, r2⟩, s0, s1, s2⟩ := box3 HY5.out
    go_wp2_with fail
    refine bodyPost_ret (v := .tuple #[.agg #[.int .i64 (t.ep + 1), .slice ba (halvL t n).length bc, .slice (some ⟨g4, 0, none⟩) (t.nodes.length + 1) cap4], .int .i64 t.nodes.length, .int .i64 0]) (by simp [results, Tryd.results14, go_sem, *]) rfl ?_
    have HX1b := HX1.out
    have hfin : ∀ k, k < w1.heap.size → k ≠ w.heap.size → k ≠ w.heap.size + 1 → (set3 w5 (w.heap.size + 1) (.int .i64 (t.ep + 1)) (.slice ba (halvL t n).length bc) (.slice (some ⟨g4, 0, none⟩) (t.nodes.length + 1) cap4)).heap[k]? = w1.heap[k]? := by
      intro k hk h3 h4
      have e2 := HB12.out.size
      have e3 := H8.out.size
      have e4 : w3.heap.size ≤ w4.heap.size := HP4.out.2.size
      rw [set3_heap _ _ _ _ _ _ h4, H5.out.block _ (by omega) (by simpa using h3), HP4.out.2.block _ (show _ < w3.heap.size by omega) (by simp; omega)]
      exact (H8.out.block _ (by omega) (by simpa using h3)).trans (HB12.out.block _ hk)
    have hnod : WsAt (set3 w5 (w.heap.size + 1) (.int .i64 (t.ep + 1)) (.slice ba (halvL t n).length bc) (.slice (some ⟨g4, 0, none⟩) (t.nodes.length + 1) cap4)) (some ⟨g4, 0, none⟩) cap4 (t.nodes ++ [x]) := by
      have hk := own_kept (w' := set3 w5 (w.heap.size + 1) (.int .i64 (t.ep + 1)) (.slice ba (halvL t n).length bc) (.slice (some ⟨g4, 0, none⟩) (t.nodes.length + 1) cap4)) HP4.out.1 (fun b hb hb4 => by
        have := HWS.out
        have := HZ1.out
        rw [set3_heap _ _ _ _ _ _ (by omega)]
        exact H5.out.block _ hb4 (by simp; omega))
      obtain ⟨a', c', he, h⟩ := OwnW.at hk
      obtain ⟨rfl, -, rfl⟩ := Value.slice.inj he
      exact h
    rw [HR1.out, HR2.out, HGET.out]
    try rw [HC0.out]
    refine ⟨ba, bc, some ⟨g4, 0, none⟩, cap4, by simp, ⟨ars_kept HA1.out fun k hk hu => hfin k hk ?_ ?_, hnod⟩, ?_⟩
    · rintro rfl
      exact box_no HX1.out (by simp) (by simp) hu
    · rintro rfl
      exact box_no ((HB1.out.block _ (by rw [HWS.out]; omega)).trans HY.out) (by simp) (by simp) hu
    · have s2 := HB12.out.size
      have s3 := H8.out.size
      have s4 : w3.heap.size ≤ w4.heap.size := HP4.out.2.size
      have sW := HWS.out
      have sZ := HZ1.out
      have b2 : Below w.heap.size w w2 := (HB0.out.trans (HB1.out.mono (by omega))).trans (HB12.out.mono (by omega))
      have b3 := b2.grown H8.out (by omega) (fun k e => by cases e; exact Nat.le_refl _)
      have b4 := (Below.drewN b3 1).grown HP4.out.2 (show _ ≤ w3.heap.size by omega) (fun k e => by cases e; omega)
      have b5 := b4.grown H5.out (by omega) (fun k e => by cases e; exact Nat.le_refl _)
      exact set3_below b5 (by omega) _ _ _

end Go.Proofs.YtkcccfllkgjdiaaDoor.Tl
