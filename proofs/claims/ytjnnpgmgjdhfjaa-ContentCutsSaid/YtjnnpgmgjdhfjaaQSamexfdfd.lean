/-
  placeOf, couple.place, alike.
-/
import Derived.Test.YtjnnpgmgjdhfjaaQMapxbcee
namespace Go.Proofs.Ytjnnpgmgjdhfjaa
open Go.RowKit
set_option linter.unusedVariables false

/-- a list's place: its first item, or none. -/
def pl (a : Option Addr) (l : List It) : Option Addr := if l.length = 0 then none else a

theorem pl_ok {w : World} {a : Option Addr} {cap : Nat} {l : List It} (h : Tb w a cap l) : PtrOk w (pl a l) := by
  unfold pl
  split
  · exact .inl rfl
  · obtain ⟨b, o, a', cap', rfl, hf, hi, _⟩ := h.get (i := 0) (by omega)
    exact .inr ⟨b, o, _, rfl, by simpa using hi.c0, hf⟩
theorem pl_low {w : World} {B : Nat} {a : Option Addr} {cap : Nat} {l : List It} (h : TbU w B a cap l) : ∀ x, pl a l = some x → x.block < B := by
  unfold pl
  intro x hx
  split at hx
  · cases hx
  · obtain ⟨b, o, a', cap', rfl, hb, _⟩ := h.get (i := 0) (by omega)
    cases hx
    exact hb

set_option maxRecDepth 100000 in
theorem placeOf_any {a : Option Addr} {cap : Nat} {l : List It} (w : World) (hl : Tb w a cap l) :
    Calls Try.prog 82 #[.slice a l.length cap] w fun e w' => e = .returned (.agg #[.pointer (pl a l), .int .i64 l.length]) ∧ Below w.heap.size w w' := by
  have hlen := hl.len
  unfold maxLen at hlen
  unfold pl
  cases l with
  | nil =>
    go_enter Try.func82, Try.ntmps82
    go_wp2
    refine bodyPost_ret (v := .agg #[.pointer none, .int .i64 0]) (by simp [results, Try.results82, go_sem, *]) rfl ?_
    exact ⟨rfl, (Below.refl _ _).alloc (Nat.le_refl _) _⟩
  | cons x r =>
    obtain ⟨b, o, a', cap', rfl, hf, hi, _⟩ := hl.get (i := 0) (by simp)
    have hc0 : w.cell? ⟨b, o, none⟩ = some (.string x.name) := by simpa using hi.c0
    go_enter Try.func82, Try.ntmps82
    go_wp2
    refine bodyPost_ret (v := .agg #[.pointer (some ⟨b, o, none⟩), .int .i64 ((x :: r).length : Int)]) (by simp [results, Try.results82, go_sem, *]) rfl ?_
    exact ⟨rfl, (Below.refl _ _).alloc (Nat.le_refl _) _⟩


/-- what the region of couple.place finds. -/
def CpS (w0 : World) (va vb : Value) (wx : World) : Prop :=
  wx.cell? ⟨w0.heap.size, 0, none⟩ = some va ∧ wx.cell? ⟨w0.heap.size, 1, none⟩ = some vb ∧
  (∃ c0 c1 c2 c3, wx.heap[w0.heap.size + 1]? = some (.cells #[c0, c1, c2, c3] 126 (0, 0))) ∧ Below w0.heap.size w0 wx
theorem CpS.below {w0 wx wy : World} {va vb : Value} (h : CpS w0 va vb wx) (hb : Below wx.heap.size wx wy) : CpS w0 va vb wy := by
  obtain ⟨h1, h2, ⟨c0, c1, c2, c3, h3⟩, h4⟩ := h
  have l1 := World.block_lt_of_cell? wx _ h1
  have l2 := World.block_lt_of_cell? wx _ h2
  have l3 : w0.heap.size + 1 < wx.heap.size := (Array.getElem?_eq_some_iff.1 h3).1
  exact ⟨(hb.cell l1).trans h1, (hb.cell l2).trans h2, ⟨c0, c1, c2, c3, (hb.block _ l3).trans h3⟩, h4.trans (hb.mono h4.size)⟩
theorem CpS.row {w0 wx : World} {va vb : Value} (h : CpS w0 va vb wx) (v0 v1 v2 v3 : Value) : ((((wx.setCell ⟨w0.heap.size + 1, 0, none⟩ v0).setCell ⟨w0.heap.size + 1, 1, none⟩ v1).setCell ⟨w0.heap.size + 1, 2, none⟩ v2).setCell ⟨w0.heap.size + 1, 3, none⟩ v3).heap[w0.heap.size + 1]? = some (.cells #[v0, v1, v2, v3] 126 (0, 0)) := by
  obtain ⟨h1, h2, ⟨c0, c1, c2, c3, h3⟩, h4⟩ := h
  have := set_heap (set_heap (set_heap (set_heap h3 0 v0) 1 v1) 2 v2) 3 v3
  simpa using this
theorem CpS.set {w0 wx : World} {va vb : Value} (h : CpS w0 va vb wx) (v0 v1 v2 v3 : Value) : CpS w0 va vb ((((wx.setCell ⟨w0.heap.size + 1, 0, none⟩ v0).setCell ⟨w0.heap.size + 1, 1, none⟩ v1).setCell ⟨w0.heap.size + 1, 2, none⟩ v2).setCell ⟨w0.heap.size + 1, 3, none⟩ v3) := by
  obtain ⟨h1, h2, ⟨c0, c1, c2, c3, h3⟩, h4⟩ := h
  have hk : ∀ k, k ≠ w0.heap.size + 1 → ((((wx.setCell ⟨w0.heap.size + 1, 0, none⟩ v0).setCell ⟨w0.heap.size + 1, 1, none⟩ v1).setCell ⟨w0.heap.size + 1, 2, none⟩ v2).setCell ⟨w0.heap.size + 1, 3, none⟩ v3).heap[k]? = wx.heap[k]? := fun k hk => by
    repeat rw [Below.heap_setCell _ _ _ _ hk]
  have e : w0.heap.size ≠ w0.heap.size + 1 := by omega
  refine ⟨(World.cell?_of_block (w := wx) (a := ⟨w0.heap.size, 0, none⟩) (hk _ e)).trans h1, (World.cell?_of_block (w := wx) (a := ⟨w0.heap.size, 1, none⟩) (hk _ e)).trans h2, ⟨v0, v1, v2, v3, ?_⟩, ?_⟩
  · have := set_heap (set_heap (set_heap (set_heap h3 0 v0) 1 v1) 2 v2) 3 v3
    simpa using this
  · exact (((h4.setCell (by simp) _).setCell (by simp) _).setCell (by simp) _).setCell (by simp) _
/-- a cell's value, where there is one. -/
def cellD (w : World) (g i : Nat) : Value := (w.cell? ⟨g, i, none⟩).getD undef
/-- .. as the walk wants it. -/
def CpF (w0 : World) (va vb : Value) (wx : World) : Prop :=
  wx.cell? ⟨w0.heap.size, 0, none⟩ = some va ∧ wx.cell? ⟨w0.heap.size, 1, none⟩ = some vb ∧
      (wx.cell? ⟨w0.heap.size + 1, 0, none⟩ = some (cellD wx (w0.heap.size + 1) 0) ∧ wx.cell? ⟨w0.heap.size + 1, 1, none⟩ = some (cellD wx (w0.heap.size + 1) 1) ∧ wx.cell? ⟨w0.heap.size + 1, 2, none⟩ = some (cellD wx (w0.heap.size + 1) 2) ∧ wx.cell? ⟨w0.heap.size + 1, 3, none⟩ = some (cellD wx (w0.heap.size + 1) 3)) ∧
      (wx.frozen? ⟨w0.heap.size + 1, 0, none⟩ = false ∧ wx.frozen? ⟨w0.heap.size + 1, 1, none⟩ = false ∧ wx.frozen? ⟨w0.heap.size + 1, 2, none⟩ = false ∧ wx.frozen? ⟨w0.heap.size + 1, 3, none⟩ = false) ∧ CpS w0 va vb wx
theorem CpS.full {w0 wx : World} {va vb : Value} (h : CpS w0 va vb wx) : CpF w0 va vb wx := by
  have hh := h
  obtain ⟨h1, h2, ⟨c0, c1, c2, c3, h3⟩, h4⟩ := h
  obtain ⟨⟨a0, a1, a2, a3⟩, f0, f1, f2, f3⟩ := cells4 h3
  exact ⟨h1, h2, ⟨by simp [cellD, a0], by simp [cellD, a1], by simp [cellD, a2], by simp [cellD, a3]⟩, ⟨f0, f1, f2, f3⟩, hh⟩

/-- a slice's place and length, from its value. -/
def plv : Value → Option Addr
  | .slice a n _ => if n = 0 then none else a
  | _ => none
def lenv : Value → Nat
  | .slice _ n _ => n
  | _ => 0
theorem place_two {w0 wx : World} {va vb : Value} (h : ∀ wx, CpS w0 va vb wx → ∀ v, v = va ∨ v = vb → ∃ a cap l, v = .slice a l.length cap ∧ Tb wx a cap l) (v : Value) (hv : v = va ∨ v = vb) (hw : CpS w0 va vb wx) :
    Calls Try.prog 82 #[v] wx fun e w' => e = .returned (.agg #[.pointer (plv v), .int .i64 (lenv v)]) ∧ CpS w0 va vb w' := by
  obtain ⟨a, cap, l, rfl, ht⟩ := h wx hw v hv
  refine (placeOf_any wx ht).mono ?_
  rintro e w2 ⟨rfl, hb⟩
  exact ⟨rfl, hw.below hb⟩

set_option maxRecDepth 100000 in
set_option maxHeartbeats 4000000 in
theorem couple_any {a b : Option Addr} {cap cap' : Nat} {l m : List It} (w : World) (hl : Tb w a cap l) (hm : Tb w b cap' m) :
    Calls Try.prog 77 #[.agg #[.slice a l.length cap, .slice b m.length cap']] w fun e w' => e = .returned (key4 (pl a l) l.length (pl b m) m.length) ∧ Below w.heap.size w w' := by
  go_enter Try.func77, Try.ntmps77
  go_wp2_with fail
  have HS : CpS w (.slice a l.length cap) (.slice b m.length cap') ((w.alloc (.cells #[.slice a l.length cap, .slice b m.length cap'] 118)).alloc (.cells #[.pointer none, .int .i64 0, .pointer none, .int .i64 0] 126)) := by
    refine ⟨by simp [go_sem], by simp [go_sem], ⟨.pointer none, .int .i64 0, .pointer none, .int .i64 0, ?_⟩, ((Below.refl _ _).alloc (Nat.le_refl _) _).alloc (by simp) _⟩
    have := heap_alloc_new (w.alloc (.cells #[.slice a l.length cap, .slice b m.length cap'] 118)) (.cells #[.pointer none, .int .i64 0, .pointer none, .int .i64 0] 126)
    have e : (w.alloc (.cells #[.slice a l.length cap, .slice b m.length cap'] 118)).heap.size = w.heap.size + 1 := by simp
    rw [e] at this
    exact this
  generalize ((w.alloc (.cells #[.slice a l.length cap, .slice b m.length cap'] 118)).alloc (.cells #[.pointer none, .int .i64 0, .pointer none, .int .i64 0] 126)) = w1 at HS ⊢
  have HT : ∀ wx, CpS w (.slice a l.length cap) (.slice b m.length cap') wx → ∀ v, v = (.slice a l.length cap : Value) ∨ v = .slice b m.length cap' → ∃ a cap l, v = .slice a l.length cap ∧ Tb wx a cap l := by
    rintro wx h v (rfl | rfl)
    · exact ⟨_, _, _, rfl, hl.below h.2.2.2⟩
    · exact ⟨_, _, _, rfl, hm.below h.2.2.2⟩
  have HTT := Lib.hid HT
  clear hl hm HT
  have HS1 := Lib.hid HS
  clear HS
  go_region_held3 (fun wx => wx.cell? ⟨w.heap.size, 0, none⟩ = some (.slice a l.length cap) ∧ wx.cell? ⟨w.heap.size, 1, none⟩ = some (.slice b m.length cap') ∧
      (wx.cell? ⟨w.heap.size + 1, 0, none⟩ = some (cellD wx (w.heap.size + 1) 0) ∧ wx.cell? ⟨w.heap.size + 1, 1, none⟩ = some (cellD wx (w.heap.size + 1) 1) ∧ wx.cell? ⟨w.heap.size + 1, 2, none⟩ = some (cellD wx (w.heap.size + 1) 2) ∧ wx.cell? ⟨w.heap.size + 1, 3, none⟩ = some (cellD wx (w.heap.size + 1) 3)) ∧
      (wx.frozen? ⟨w.heap.size + 1, 0, none⟩ = false ∧ wx.frozen? ⟨w.heap.size + 1, 1, none⟩ = false ∧ wx.frozen? ⟨w.heap.size + 1, 2, none⟩ = false ∧ wx.frozen? ⟨w.heap.size + 1, 3, none⟩ = false) ∧ CpS w (.slice a l.length cap) (.slice b m.length cap') wx)
    (first | exact (HS1.out.below (Below.refl _ _).drew).full | exact HS1.out.full | exact CpS.full (by assumption) | exact (CpS.set (by assumption) _ _ _ _).full)
    ((go_at_call 82; have hcp := (by assumption : _ ∧ _ ∧ _ ∧ _ ∧ CpS _ _ _ _).2.2.2.2; refine (place_two HTT.out _ (by first | exact .inl rfl | exact .inr rfl) hcp).mono ?_; clear hcp; rintro e w2 ⟨rfl, hcq⟩))
  rename_i hHeld
  clear hHeld
  have hrow := hcq.row (.pointer (plv (.slice a l.length cap))) (.int .i64 (lenv (.slice a l.length cap))) (.pointer (plv (.slice b m.length cap'))) (.int .i64 (lenv (.slice b m.length cap')))
  have hbel := (hcq.set (.pointer (plv (.slice a l.length cap))) (.int .i64 (lenv (.slice a l.length cap))) (.pointer (plv (.slice b m.length cap'))) (.int .i64 (lenv (.slice b m.length cap')))).2.2.2
  obtain ⟨⟨a0, a1, a2, a3⟩, f0, f1, f2, f3⟩ := cells4 hrow
  have HB := Lib.hid hbel
  clear hbel hrow hcq
  generalize ((((_ : World).setCell ⟨w.heap.size + 1, 0, none⟩ (.pointer (plv (.slice a l.length cap)))).setCell ⟨w.heap.size + 1, 1, none⟩ (.int .i64 (lenv (.slice a l.length cap)))).setCell ⟨w.heap.size + 1, 2, none⟩ (.pointer (plv (.slice b m.length cap')))).setCell ⟨w.heap.size + 1, 3, none⟩ (.int .i64 (lenv (.slice b m.length cap'))) = wz at *
  clear HS1 HTT
  go_wp2_with fail
  refine bodyPost_ret (v := key4 (plv (.slice a l.length cap)) (lenv (.slice a l.length cap)) (plv (.slice b m.length cap')) (lenv (.slice b m.length cap'))) (by simp [results, key4, Try.results77, go_sem, *]) rfl ?_
  exact ⟨rfl, HB.out⟩

end Go.Proofs.Ytjnnpgmgjdhfjaa
