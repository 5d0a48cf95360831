/-
  slices.Clone of arcs and of numbers, table.own, walked: a table in memory of the call's own.
-/
import Derived.Test.YtkcccfllkgjdiaaDoorTlSame
import Derived.Test.YtkcccfllkgjdiaaDoorRgRows
import Derived.Deep.RegionWith
namespace Go.Proofs.YtkcccfllkgjdiaaDoor.Tl
open Go.RowKit Rg
set_option linter.unusedVariables false

set_option maxRecDepth 100000 in
theorem cloneA_any (a : Option Addr) (cap : Nat) (l : List Ar) (hl9 : l.length ≤ 1000000) (w : World) (hf : AsAt w a cap l) :
    Calls Tryd.prog 44 #[.slice a l.length cap] w fun e w' => ∃ v, e = .returned v ∧ OwnA w' w.heap.size v l ∧ Below w.heap.size w w' := by
  cases a with
  | none =>
    obtain rfl : l = [] := rows_none hf
    have hnil : (binOp .eql 24 (.slice none 0 cap) (.slice none 0 0)).run Tryd.prog w = .ok (.bool true) w := Lib.run_eql_slice_nil w 24 52 none 0 cap 0 0 Tryd.underlying24
    go_enter Tryd.func44, Tryd.ntmps44
    go_wp2_with fail
    go_ret
    exact ⟨_, rfl, OwnA.nil _ _, Below.refl _ _⟩
  | some x =>
    have hb0 : Below w.heap.size w (w.alloc (.cells #[] 52)) := (Below.refl _ _).alloc (Nat.le_refl _) _
    have HB0 := Lib.hid hb0
    have HAT := Lib.hid (hf.below hb0)
    have hown : OwnA (w.alloc (.cells #[] 52)) w.heap.size (.slice (some ⟨w.heap.size, 0, none⟩) 0 0) [] := World.ownsRow_lit w #[] 0 (Nat.le_refl _) (by decide) (by simp)
    have HOWN := Lib.hid hown
    clear hf hb0 hown
    have hnil : (binOp .eql 24 (.slice (some x) l.length cap) (.slice none 0 0)).run Tryd.prog w = .ok (.bool false) w := Lib.run_eql_slice_nil w 24 52 (some x) l.length cap 0 0 Tryd.underlying24
    go_enter Tryd.func44, Tryd.ntmps44
    go_wp2_with (at_builtin; refine put_rows (base := w.heap.size) (l := []) (m := l) rfl (.tmp 5) (.tmp 6) rfl HOWN.out HB0.out.size rfl _ rfl rfl HAT.out (by simp; omega) (fun h => by cases h) ?_; intro v2 w2 hb2 hon2; have HB2 := Lib.hid hb2; have HBEL2 := Lib.hid (OwnA.grown HB0.out HOWN.out hon2 HB0.out.size); clear hb2 hon2)
    go_ret
    exact ⟨_, rfl, HB2.out, HBEL2.out⟩

theorem wrows_none {w : World} {cap : Nat} {l : List Int} (h : WsAt w none cap l) : l = [] := by
  by_cases hl : 0 < l.length
  · obtain ⟨b, o, he, _⟩ := h.at' hl
    cases he
  · exact List.eq_nil_of_length_eq_zero (by omega)
set_option maxRecDepth 100000 in
theorem cloneW_any (a : Option Addr) (cap : Nat) (l : List Int) (hl9 : l.length ≤ 1000000) (w : World) (hf : WsAt w a cap l) :
    Calls Tryd.prog 45 #[.slice a l.length cap] w fun e w' => ∃ v, e = .returned v ∧ OwnW w' w.heap.size v l ∧ Below w.heap.size w w' := by
  cases a with
  | none =>
    obtain rfl : l = [] := wrows_none hf
    have hnil : (binOp .eql 22 (.slice none 0 cap) (.slice none 0 0)).run Tryd.prog w = .ok (.bool true) w := Lib.run_eql_slice_nil w 22 3 none 0 cap 0 0 Tryd.underlying22
    go_enter Tryd.func45, Tryd.ntmps45
    go_wp2_with fail
    go_ret
    exact ⟨_, rfl, OwnW.nil _ _, Below.refl _ _⟩
  | some x =>
    have hb0 : Below w.heap.size w (w.alloc (.cells #[] 3)) := (Below.refl _ _).alloc (Nat.le_refl _) _
    have HB0 := Lib.hid hb0
    have HAT := Lib.hid (hf.below hb0)
    have hown : OwnW (w.alloc (.cells #[] 3)) w.heap.size (.slice (some ⟨w.heap.size, 0, none⟩) 0 0) [] := World.ownsRow_lit w #[] 0 (Nat.le_refl _) (by decide) (by simp)
    have HOWN := Lib.hid hown
    clear hf hb0 hown
    have hnil : (binOp .eql 22 (.slice (some x) l.length cap) (.slice none 0 0)).run Tryd.prog w = .ok (.bool false) w := Lib.run_eql_slice_nil w 22 3 (some x) l.length cap 0 0 Tryd.underlying22
    go_enter Tryd.func45, Tryd.ntmps45
    go_wp2_with (at_builtin; refine put_ws (base := w.heap.size) (l := []) (m := l) rfl (.tmp 5) (.tmp 6) rfl HOWN.out HB0.out.size rfl _ rfl rfl HAT.out (by simp; omega) ?_; intro v2 w2 hb2 hon2; have HB2 := Lib.hid hb2; have HBEL2 := Lib.hid (OwnW.grown HB0.out HOWN.out hon2 HB0.out.size); clear hb2 hon2)
    go_ret
    exact ⟨_, rfl, HB2.out, HBEL2.out⟩

/-- a table of the call's own: its rows are, from block base on. -/
structure OwnT (w : World) (base : Nat) (t : Ta) (va vn : Value) : Prop where
  arcs : OwnA w base va t.arcs
  nodes : OwnW w base vn t.nodes
theorem OwnT.kept {w w' : World} {base : Nat} {t : Ta} {va vn : Value} (h : OwnT w base t va vn) (hk : ∀ b, base ≤ b → b < w.heap.size → w'.heap[b]? = w.heap[b]?) : OwnT w' base t va vn := ⟨own_kept h.arcs hk, own_kept h.nodes hk⟩
theorem OwnT.at {w : World} {base : Nat} {t : Ta} {va vn : Value} (h : OwnT w base t va vn) : ∃ aa ac na nc, va = .slice aa t.arcs.length ac ∧ vn = .slice na t.nodes.length nc ∧ TaAt w aa ac na nc t := by
  obtain ⟨aa, ac, h1, h2⟩ := OwnA.at h.arcs
  obtain ⟨na, nc, h3, h4⟩ := OwnW.at h.nodes
  exact ⟨aa, ac, na, nc, h1, h3, h2, h4⟩
theorem OwnT.mono {w : World} {base base' : Nat} {t : Ta} {va vn : Value} (h : OwnT w base t va vn) (hb : base' ≤ base) : OwnT w base' t va vn := ⟨own_mono h.arcs hb, own_mono h.nodes hb⟩
def OwnR (t : Ta) (w : World) (e : Ending) (w' : World) : Prop :=
  ∃ va vn, e = .returned (.agg #[.int .i64 t.ep, va, vn]) ∧ OwnT w' w.heap.size t va vn ∧ Below w.heap.size w w'

theorem own_end {w W wz : World} {t : Ta} {va vn : Value} (hb0 : Below w.heap.size w W) (hWs : W.heap.size = w.heap.size + 2) (h : OwnT wz W.heap.size t va vn ∧ Below W.heap.size W wz) :
    OwnR t w (.returned (.agg #[.int .i64 t.ep, va, vn])) (set3 wz (w.heap.size + 1) (.int .i64 t.ep) va vn) :=
  ⟨va, vn, rfl, (h.1.kept fun b hb _ => set3_heap _ _ _ _ _ _ (by omega)).mono (by omega), set3_below (hb0.trans (h.2.mono (by omega))) (by omega) _ _ _⟩

set_option maxRecDepth 100000 in
set_option maxHeartbeats 8000000 in
theorem own_any (t : Ta) (aa : Option Addr) (ac : Nat) (na : Option Addr) (nc : Nat) (h1 : t.arcs.length ≤ 1000000) (h2 : t.nodes.length ≤ 1000000) (w : World) (ht : TaAt w aa ac na nc t) :
    Calls Tryd.prog 30 #[.agg #[.int .i64 t.ep, .slice aa t.arcs.length ac, .slice na t.nodes.length nc]] w (OwnR t w) := by
  obtain ⟨W, hW⟩ : ∃ W, W = (w.alloc (.cells #[.int .i64 t.ep, .slice aa t.arcs.length ac, .slice na t.nodes.length nc] 26)).alloc (.cells #[.int .i64 0, .slice none 0 0, .slice none 0 0] 26) := ⟨_, rfl⟩
  have hb0 : Below w.heap.size w W := by rw [hW]; exact ((Below.refl _ _).alloc (Nat.le_refl _) _).alloc (by simp) _
  have hWs : W.heap.size = w.heap.size + 2 := by rw [hW]; simp
  have HB0 := Lib.hid hb0
  have HT := Lib.hid (ht.below hb0)
  have h3 : W.heap[w.heap.size]? = some (.cells #[.int .i64 t.ep, .slice aa t.arcs.length ac, .slice na t.nodes.length nc] 26 (0, 0)) := by rw [hW, Below.heap_alloc _ _ _ (by simp), heap_alloc_new]
  have h4 : W.heap[w.heap.size + 1]? = some (.cells #[.int .i64 0, .slice none 0 0, .slice none 0 0] 26 (0, 0)) := by
    rw [hW]
    have := heap_alloc_new (w.alloc (.cells #[.int .i64 t.ep, .slice aa t.arcs.length ac, .slice na t.nodes.length nc] 26)) (.cells #[.int .i64 0, .slice none 0 0, .slice none 0 0] 26)
    rwa [show (w.alloc (.cells #[.int .i64 t.ep, .slice aa t.arcs.length ac, .slice na t.nodes.length nc] 26)).heap.size = w.heap.size + 1 by simp] at this
  have HX := Lib.hid h3
  have HY := Lib.hid h4
  have HW := Lib.hid hW
  have HWS := Lib.hid hWs
  have HCA := Lib.hid fun (wx : World) (hx : AsAt wx aa ac t.arcs) => cloneA_any aa ac t.arcs h1 wx hx
  have HCN := Lib.hid fun (wx : World) (hx : WsAt wx na nc t.nodes) => cloneW_any na nc t.nodes h2 wx hx
  have HDR : Hid (Below W.heap.size W W.drew) := Lib.hid (Below.refl _ _).drew
  clear ht hb0 hW hWs h3 h4
  go_enter Tryd.func30, Tryd.ntmps30
  go_wp2_with fail
  rw [← HW.out]
  obtain ⟨⟨c0, c1, c2⟩, -⟩ := box3 HX.out
  obtain ⟨⟨d0, d1, d2⟩, e0, e1, e2⟩ := box3 HY.out
  have HXB : Hid (∀ wx, Below W.heap.size W wx → (wx.cell? ⟨w.heap.size, 0, none⟩ = some (.int .i64 t.ep) ∧ wx.cell? ⟨w.heap.size, 1, none⟩ = some (.slice aa t.arcs.length ac) ∧ wx.cell? ⟨w.heap.size, 2, none⟩ = some (.slice na t.nodes.length nc)) ∧
      (wx.cell? ⟨w.heap.size + 1, 0, none⟩ = some (.int .i64 0) ∧ wx.cell? ⟨w.heap.size + 1, 1, none⟩ = some (.slice none 0 0) ∧ wx.cell? ⟨w.heap.size + 1, 2, none⟩ = some (.slice none 0 0)) ∧
      wx.frozen? ⟨w.heap.size + 1, 0, none⟩ = false ∧ wx.frozen? ⟨w.heap.size + 1, 1, none⟩ = false ∧ wx.frozen? ⟨w.heap.size + 1, 2, none⟩ = false) := Lib.hid fun wx hx => by
    have g1 := (hx.block _ (by rw [HWS.out]; omega)).trans HX.out
    have g2 := (hx.block _ (by rw [HWS.out]; omega)).trans HY.out
    exact ⟨(box3 g1).1, (box3 g2).1, (box3 g2).2⟩
  go_region_with (first | (go_at_call 44; refine (HCA.out _ (HT.out.arcs.below HBN.out)).mono ?_; rintro e wA ⟨va, rfl, howna, hba⟩; obtain ⟨xa, ca, rfl, -⟩ := OwnA.at howna; have HOA := Lib.hid (own_mono howna HBN.out.size); have HON2 := Lib.hid (owns_below1 HON.out hba); have HBA := Lib.hid (HBN.out.trans (hba.mono HBN.out.size)); obtain ⟨⟨x0, x1, x2⟩, ⟨y0, y1, y2⟩, z0, z1, z2⟩ := HXB.out _ HBA.out; have HFIN : Hid (OwnT wA W.heap.size t (.slice xa t.arcs.length ca) (.slice xn t.nodes.length cn) ∧ Below W.heap.size W wA) := Lib.hid ⟨⟨HOA.out, HON2.out⟩, HBA.out⟩; clear howna hba HON2 HOA) |
    (go_at_call 45; refine (HCN.out _ (HT.out.nodes.below HBA.out)).mono ?_; rintro e wN ⟨vn, rfl, hownn, hbn⟩; obtain ⟨xn, cn, rfl, -⟩ := OwnW.at hownn; have HON := Lib.hid (own_mono hownn HBA.out.size); have HOA2 := Lib.hid (owns_below1 HOA.out hbn); have HBN := Lib.hid (HBA.out.trans (hbn.mono HBA.out.size)); obtain ⟨⟨x0, x1, x2⟩, ⟨y0, y1, y2⟩, z0, z1, z2⟩ := HXB.out _ HBN.out; have HFIN : Hid (OwnT wN W.heap.size t (.slice xa t.arcs.length ca) (.slice xn t.nodes.length cn) ∧ Below W.heap.size W wN) := Lib.hid ⟨⟨HOA2.out, HON.out⟩, HBN.out⟩; clear hownn hbn HOA2 HON) |
    (go_at_call 44; refine (HCA.out _ (HT.out.arcs.below HDR.out)).mono ?_; rintro e wA ⟨va, rfl, howna, hba⟩; obtain ⟨xa, ca, rfl, -⟩ := OwnA.at howna; have HOA := Lib.hid (own_mono howna HDR.out.size); have HBA := Lib.hid (HDR.out.trans (hba.mono HDR.out.size)); obtain ⟨⟨x0, x1, x2⟩, ⟨y0, y1, y2⟩, z0, z1, z2⟩ := HXB.out _ HBA.out; clear howna hba) |
    (go_at_call 45; refine (HCN.out _ (HT.out.nodes.below HDR.out)).mono ?_; rintro e wN ⟨vn, rfl, hownn, hbn⟩; obtain ⟨xn, cn, rfl, -⟩ := OwnW.at hownn; have HON := Lib.hid (own_mono hownn HDR.out.size); have HBN := Lib.hid (HDR.out.trans (hbn.mono HDR.out.size)); obtain ⟨⟨x0, x1, x2⟩, ⟨y0, y1, y2⟩, z0, z1, z2⟩ := HXB.out _ HBN.out; clear hownn hbn))
  all_goals
    clear c0 c1 c2 d0 d1 d2 e0 e1 e2 HCA HCN HXB HDR HT HX HY
    go_wp2_with fail
    refine bodyPost_ret (v := .agg #[.int .i64 t.ep, .slice xa t.arcs.length ca, .slice xn t.nodes.length cn]) (by simp [results, Tryd.results30, go_sem, *]) rfl ?_
    exact own_end HB0.out HWS.out HFIN.out

end Go.Proofs.YtkcccfllkgjdiaaDoor.Tl
