/-
  shard's small functions, walked: mayStand, MayMsg; the document's MayMsg.
  A region that draws its order, whose operations read alone and whose callees leave all that was there as it was: walked once, in the order of the text.
-/
import Derived.Test.YthohjcfpobeplaaShMem
import Derived.Shelf.SlSortCmp.QuietGrown
import Derived.BigQuiet
import Derived.Lib.AppendIntMem
import Derived.WalkSpells

namespace Go.Proofs.Ythohjcfpobeplaa.Sh
open Go.RowKit Rg Go.Sort
set_option linter.unusedVariables false
set_option linter.unusedSimpArgs false

theorem ret_bool {a b : Bool} (h : a = b) : Ending.returned (.bool a) = .returned (.bool b) := by rw [h]
/-- another world, of draws and of new blocks alone. -/
def Grew (w w' : World) : Prop := ∃ q os', w' = grow (w.drewN q) os'
theorem Grew.refl (w : World) : Grew w w := ⟨0, #[], by rw [grow_empty]; rfl⟩
theorem Grew.below {w w' : World} (h : Grew w w') : Below w.heap.size w w' := by
  obtain ⟨q, os', rfl⟩ := h
  exact Lib.below_grow w.heap.size w (Nat.le_refl _) q os'
theorem Grew.alloc (w : World) (o : Obj) : Grew w (w.alloc o) := ⟨0, _, by rw [alloc_eq_grow]; rfl⟩
theorem Grew.trans {w w1 w2 : World} (h : Grew w w1) (h2 : Grew w1 w2) : Grew w w2 := by
  obtain ⟨q, o1, rfl⟩ := h
  obtain ⟨q2, o2, rfl⟩ := h2
  exact ⟨q + q2, _, by show grow (grow ((w.drewN q).drewN q2) o1) o2 = _; rw [grow_grow, World.drewN_drewN]⟩
theorem Grew.drew {w w1 : World} (h : Grew w w1) (n : Nat) : Grew w (w1.drewN n) := h.trans ⟨n, #[], by rw [grow_empty]⟩

set_option maxHeartbeats 1000000 in
theorem stand_any (p q : Int) (k : List UInt8) (w : World) :
    Calls Try.prog 103 #[.int .i64 p, .int .i64 q, .string ⟨k.toArray⟩] w fun e w' => e = .returned (.bool (decide (MayStand p q k))) ∧ w = w' := by
  have hsz : (⟨k.toArray⟩ : ByteArray).size = k.length := rfl
  by_cases h0 : 0 ≤ p
  case neg =>
    rw [decide_eq_false (show ¬ MayStand p q k from fun h => h0 h.1)]
    go_enter Try.func103, Try.ntmps103
    go_wp2_with fail
    go_ret
    exact ⟨rfl, rfl⟩
  by_cases h1 : p < 4
  case neg =>
    rw [decide_eq_false (show ¬ MayStand p q k from fun h => h1 h.2.1)]
    go_enter Try.func103, Try.ntmps103
    go_wp2_with fail
    go_ret
    exact ⟨rfl, rfl⟩
  by_cases h2 : 1 ≤ q
  case neg =>
    rw [decide_eq_false (show ¬ MayStand p q k from fun h => h2 h.2.2.1)]
    go_enter Try.func103, Try.ntmps103
    go_wp2_with fail
    go_ret
    exact ⟨rfl, rfl⟩
  by_cases h3 : q ≤ 1073741824
  case neg =>
    rw [decide_eq_false (show ¬ MayStand p q k from fun h => h3 h.2.2.2.1)]
    go_enter Try.func103, Try.ntmps103
    go_wp2_with fail
    go_ret
    exact ⟨rfl, rfl⟩
  by_cases h4 : 1 ≤ k.length
  case neg =>
    rw [decide_eq_false (show ¬ MayStand p q k from fun h => h4 h.2.2.2.2.1)]
    have g4 : ¬ (1 : Int) ≤ (k.length : Int) := by omega
    go_enter Try.func103, Try.ntmps103
    go_wp2_with fail
    go_ret
    exact ⟨rfl, rfl⟩
  have g4 : (1 : Int) ≤ (k.length : Int) := by omega
  by_cases h5 : k.length ≤ 20
  case neg =>
    rw [decide_eq_false (show ¬ MayStand p q k from fun h => h5 h.2.2.2.2.2)]
    have g5 : ¬ (k.length : Int) ≤ 20 := by omega
    go_enter Try.func103, Try.ntmps103
    go_wp2_with fail
    go_ret
    exact ⟨rfl, rfl⟩
  have g5 : (k.length : Int) ≤ 20 := by omega
  rw [decide_eq_true (show MayStand p q k from ⟨h0, h1, h2, h3, h4, h5⟩)]
  go_enter Try.func103, Try.ntmps103
  go_wp2_with fail
  go_ret
  exact ⟨rfl, rfl⟩

set_option maxHeartbeats 1000000 in
theorem mayMsg_any (m : Mg) (w : World) :
    Calls Try.prog 62 #[.agg #[.int .i64 m.pub, .int .i64 m.seq, .string ⟨m.key.toArray⟩, .string ⟨m.body.toArray⟩, .bool m.again]] w fun e w' => e = .returned (.bool (decide (MayMg m))) ∧ Grew w w' := by
  have HS := Lib.hid fun wx => stand_any m.pub m.seq m.key wx
  have HG := Lib.hid (Grew.alloc w (.cells #[.int .i64 m.pub, .int .i64 m.seq, .string ⟨m.key.toArray⟩, .string ⟨m.body.toArray⟩, .bool m.again] 35))
  have hsz : (⟨m.body.toArray⟩ : ByteArray).size = m.body.length := rfl
  by_cases h0 : MayStand m.pub m.seq m.key
  case neg =>
    rw [decide_eq_false (show ¬ MayMg m from fun h => h0 h.1)]
    rw [decide_eq_false h0] at HS
    clear h0
    go_enter Try.func62, Try.ntmps62
    go_wp2_with (go_at_call 103; refine (HS.out _).mono ?_; rintro e w1 ⟨rfl, rfl⟩)
    go_ret
    exact ⟨rfl, HG.out⟩
  rw [decide_eq_true h0] at HS
  by_cases h1 : m.body.length ≤ 200
  case neg =>
    rw [decide_eq_false (show ¬ MayMg m from fun h => h1 h.2)]
    have g1 : ¬ (m.body.length : Int) ≤ 200 := by omega
    clear h0 h1
    go_enter Try.func62, Try.ntmps62
    go_wp2_with (go_at_call 103; refine (HS.out _).mono ?_; rintro e w1 ⟨rfl, rfl⟩)
    go_ret
    exact ⟨ret_bool (by simp [g1]), HG.out⟩
  rw [decide_eq_true (show MayMg m from ⟨h0, h1⟩)]
  have g1 : (m.body.length : Int) ≤ 200 := by omega
  clear h0 h1
  go_enter Try.func62, Try.ntmps62
  go_wp2_with (go_at_call 103; refine (HS.out _).mono ?_; rintro e w1 ⟨rfl, rfl⟩)
  go_ret
  exact ⟨ret_bool (by simp [g1]), HG.out⟩

set_option maxHeartbeats 2000000 in
theorem rmayMsg_any (m : Mg) (w : World) :
    Calls Try.prog 75 #[.agg #[.int .i64 m.pub, .int .i64 m.seq, .string ⟨m.key.toArray⟩, .string ⟨m.body.toArray⟩, .bool m.again]] w fun e w' => e = .returned (.bool (decide (MayMg m))) ∧ Grew w w' := by
  have HG := Lib.hid (Grew.alloc w (.cells #[.int .i64 m.pub, .int .i64 m.seq, .string ⟨m.key.toArray⟩, .string ⟨m.body.toArray⟩, .bool m.again] 35))
  obtain ⟨p, q, k, d, ag⟩ := m
  have hsz : (⟨k.toArray⟩ : ByteArray).size = k.length := rfl
  have hsd : (⟨d.toArray⟩ : ByteArray).size = d.length := rfl
  have hm : ∀ b : Bool, (b = true ↔ (0 ≤ p ∧ p < 4 ∧ 1 ≤ q ∧ q ≤ 1073741824 ∧ 1 ≤ k.length ∧ k.length ≤ 20 ∧ d.length ≤ 200)) → decide (MayMg ⟨p, q, k, d, ag⟩) = b := fun b hb => by
    have : MayMg ⟨p, q, k, d, ag⟩ ↔ b = true := by rw [hb]; exact ⟨fun ⟨⟨a, b, c, d, e, f⟩, g⟩ => ⟨a, b, c, d, e, f, g⟩, fun ⟨a, b, c, d, e, f, g⟩ => ⟨⟨a, b, c, d, e, f⟩, g⟩⟩
    cases b
    · exact decide_eq_false fun h => by simpa using this.1 h
    · exact decide_eq_true (this.2 rfl)
  rw [hm (decide (0 ≤ p ∧ p < 4 ∧ 1 ≤ q ∧ q ≤ 1073741824 ∧ 1 ≤ k.length ∧ k.length ≤ 20 ∧ d.length ≤ 200)) (by simp)]
  clear hm
  by_cases h0 : 0 ≤ p
  case neg =>
    rw [decide_eq_false (show ¬ (0 ≤ p ∧ p < 4 ∧ 1 ≤ q ∧ q ≤ 1073741824 ∧ 1 ≤ k.length ∧ k.length ≤ 20 ∧ d.length ≤ 200) from fun h => h0 h.1)]
    go_enter Try.func75, Try.ntmps75
    go_wp2_with fail
    go_ret
    exact ⟨rfl, HG.out⟩
  by_cases h1 : p < 4
  case neg =>
    rw [decide_eq_false (show ¬ (0 ≤ p ∧ p < 4 ∧ 1 ≤ q ∧ q ≤ 1073741824 ∧ 1 ≤ k.length ∧ k.length ≤ 20 ∧ d.length ≤ 200) from fun h => h1 h.2.1)]
    go_enter Try.func75, Try.ntmps75
    go_wp2_with fail
    go_ret
    exact ⟨rfl, HG.out⟩
  by_cases h2 : 1 ≤ q
  case neg =>
    rw [decide_eq_false (show ¬ (0 ≤ p ∧ p < 4 ∧ 1 ≤ q ∧ q ≤ 1073741824 ∧ 1 ≤ k.length ∧ k.length ≤ 20 ∧ d.length ≤ 200) from fun h => h2 h.2.2.1)]
    go_enter Try.func75, Try.ntmps75
    go_wp2_with fail
    go_ret
    exact ⟨rfl, HG.out⟩
  by_cases h3 : q ≤ 1073741824
  case neg =>
    rw [decide_eq_false (show ¬ (0 ≤ p ∧ p < 4 ∧ 1 ≤ q ∧ q ≤ 1073741824 ∧ 1 ≤ k.length ∧ k.length ≤ 20 ∧ d.length ≤ 200) from fun h => h3 h.2.2.2.1)]
    go_enter Try.func75, Try.ntmps75
    go_wp2_with fail
    go_ret
    exact ⟨rfl, HG.out⟩
  by_cases h4 : 1 ≤ k.length
  case neg =>
    rw [decide_eq_false (show ¬ (0 ≤ p ∧ p < 4 ∧ 1 ≤ q ∧ q ≤ 1073741824 ∧ 1 ≤ k.length ∧ k.length ≤ 20 ∧ d.length ≤ 200) from fun h => h4 h.2.2.2.2.1)]
    have g4 : ¬ (1 : Int) ≤ (k.length : Int) := by omega
    go_enter Try.func75, Try.ntmps75
    go_wp2_with fail
    go_ret
    exact ⟨rfl, HG.out⟩
  have g4 : (1 : Int) ≤ (k.length : Int) := by omega
  by_cases h5 : k.length ≤ 20
  case neg =>
    rw [decide_eq_false (show ¬ (0 ≤ p ∧ p < 4 ∧ 1 ≤ q ∧ q ≤ 1073741824 ∧ 1 ≤ k.length ∧ k.length ≤ 20 ∧ d.length ≤ 200) from fun h => h5 h.2.2.2.2.2.1)]
    have g5 : ¬ (k.length : Int) ≤ 20 := by omega
    go_enter Try.func75, Try.ntmps75
    go_wp2_with fail
    go_ret
    exact ⟨rfl, HG.out⟩
  have g5 : (k.length : Int) ≤ 20 := by omega
  by_cases h6 : d.length ≤ 200
  case neg =>
    rw [decide_eq_false (show ¬ (0 ≤ p ∧ p < 4 ∧ 1 ≤ q ∧ q ≤ 1073741824 ∧ 1 ≤ k.length ∧ k.length ≤ 20 ∧ d.length ≤ 200) from fun h => h6 h.2.2.2.2.2.2)]
    have g6 : ¬ (d.length : Int) ≤ 200 := by omega
    go_enter Try.func75, Try.ntmps75
    go_wp2_with fail
    go_ret
    exact ⟨rfl, HG.out⟩
  have g6 : (d.length : Int) ≤ 200 := by omega
  rw [decide_eq_true (show (0 ≤ p ∧ p < 4 ∧ 1 ≤ q ∧ q ≤ 1073741824 ∧ 1 ≤ k.length ∧ k.length ≤ 20 ∧ d.length ≤ 200) from ⟨h0, h1, h2, h3, h4, h5, h6⟩)]
  go_enter Try.func75, Try.ntmps75
  go_wp2_with fail
  go_ret
  exact ⟨rfl, HG.out⟩

end Go.Proofs.Ythohjcfpobeplaa.Sh

namespace Go.Proofs.Ythohjcfpobeplaa.Sh
open Go.RowKit Rg
set_option linter.unusedVariables false

/-- a world in which all that W has is as it was. -/
structure Und (W : World) where
  wx : World
  hb : Below W.heap.size W wx
instance (W : World) : Nonempty (Und W) := ⟨⟨W, Below.refl _ _⟩⟩
theorem wp_region_quiet_below {P : Program} {id : Nat} {Q : Exit → Act → World → Prop} {a : Act} {W : World} {l : List Oper} (hm : P.follows .mixedOrders = true) (hB : Region.lexB .any l.toArray = true)
    (h : wpQuiet P l.toArray (fun w' => ∃ p : Und W, w' = p.wx) (fun a' => ∀ w', (∃ p : Und W, w' = p.wx) → Q .normal a' w') l a) : (Code.region id l.toArray true).wp P Q a W :=
  wp_region_quiet (C := fun w' => ∃ p : Und W, w' = p.wx) hm hB ⟨⟨_, (Below.refl _ _).drew⟩, rfl⟩ (by simpa using h)
theorem Calls.below_of {P : Program} {f : FuncId} {args : Array Value} {W : World} {p : Und W} {v : Value} (h : Calls P f args p.wx fun e w' => e = .returned v ∧ Below p.wx.heap.size p.wx w') : Calls P f args p.wx fun e w'' => e = .returned v ∧ ∃ q : Und W, w'' = q.wx :=
  h.mono fun _ _ ⟨he, hb⟩ => ⟨he, ⟨_, p.hb.trans (hb.mono p.hb.size)⟩, rfl⟩
theorem cell_und {W : World} {a : Addr} {v : Value} (h : W.cell? a = some v) (p : Und W) : p.wx.cell? a = some v := (p.hb.cell (World.block_lt_of_cell? W a h)).trans h

end Go.Proofs.Ythohjcfpobeplaa.Sh
