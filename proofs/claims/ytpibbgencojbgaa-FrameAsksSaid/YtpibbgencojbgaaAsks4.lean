/-
  FrameAsks.
-/
import Derived.Test.YtpibbgencojbgaaRAll4
import Derived.Test.YtpibbgencojbgaaTold4
import Derived.Test.YtpibbgencojbgaaArg4
import Derived.Deep.LoopGhost
import Derived.Deep.RegionHeld3
namespace Go.Proofs.Ytpibbgencojbgaa
open Go.RowKit
set_option linter.unusedVariables false

/-- what is answered of what bytes begin with. -/
def nxV : Nx → Fr × Nat × Int
  | .cut => (⟨0, 0, []⟩, 0, 3)
  | .never => (⟨0, 0, []⟩, 0, 501)
  | .got f n => (f, n, 0)
theorem next_open {l : List UInt8} {w : World} {e : Ending} {w' : World} {y : Fr} {n : Nat} {c : Int} (h : NextR l w e w') (hv : nxV (nextP l) = (y, n, c)) :
    Below w.heap.size w w' ∧ ∃ a cap, e = .returned (.tuple #[.agg #[.int .i64 y.kind, .int .i64 y.chan, .slice a y.data.length cap], .int .i64 n, .int .i64 c]) ∧ BytesAt w'.heap.size w' a y.data := by
  obtain ⟨hb, h⟩ := h
  refine ⟨hb, ?_⟩
  rcases h with ⟨hn, he⟩ | ⟨hn, he⟩ | ⟨f, m, a, cap, hn, he, _, _, hat, _⟩
  · rw [hn] at hv
    cases hv
    exact ⟨none, 0, he, fun h => by simp at h⟩
  · rw [hn] at hv
    cases hv
    exact ⟨none, 0, he, fun h => by simp at h⟩
  · rw [hn] at hv
    cases hv
    exact ⟨a, cap, he, hat⟩
theorem all_same {l : List UInt8} {w : World} {e : Ending} {w' : World} {R1 : List Fr} {R2 n1 : Nat} {R3 : Int} (h : AllR l w e w') (hv : allP (l.length + 1) l = (R1, R2, R3)) (hn : n1 = R1.length) :
    Below w.heap.size w w' ∧ ∃ a cap, e = .returned (.tuple #[.slice a n1 cap, .int .i64 R2, .int .i64 R3]) ∧ FrsAt w' a cap R1 := by
  obtain ⟨hb, a, cap, he, hf⟩ := h
  rw [hv] at he hf
  subst hn
  exact ⟨hb, a, cap, he, hf⟩
noncomputable def sameB (f g : Fr) : Bool := @decide (f = g) (Classical.propDecidable _)
theorem sameB_self (f : Fr) : sameB f f = true := by simp [sameB]
theorem says_same {f g : Fr} {w : World} {e : Ending} {w' : World} (h : SaysB (f = g) w e w') : e = .returned (.bool (sameB f g)) ∧ Below w.heap.size w w' := by
  obtain ⟨r, hr, he, hb⟩ := h
  have : r = sameB f g := by
    unfold sameB
    cases r
    · exact (@decide_eq_false _ (Classical.propDecidable _) (fun h => by have := hr.2 h; cases this)).symm
    · exact (@decide_eq_true _ (Classical.propDecidable _) (hr.1 rfl)).symm
  rw [← this]
  exact ⟨he, hb⟩
theorem same_b {B C : Nat} (f g : Fr) (a b : Option Addr) (c d : Nat) (w : World) (hB : B ≤ w.heap.size) (hC : C ≤ w.heap.size) (hf : BytesAt B w a f.data) (hg : BytesAt C w b g.data) :
    Calls Try.prog 38 #[.agg #[.int .i64 f.kind, .int .i64 f.chan, .slice a f.data.length c], .agg #[.int .i64 g.kind, .int .i64 g.chan, .slice b g.data.length d]] w fun e w' => e = .returned (.bool (sameB f g)) ∧ Below w.heap.size w w' :=
  (same_any f g a b c d w hB hC hf hg).mono fun _ _ h => says_same h
theorem rsame_b {B C : Nat} (f g : Fr) (a b : Option Addr) (c d : Nat) (w : World) (hB : B ≤ w.heap.size) (hC : C ≤ w.heap.size) (hf : BytesAt B w a f.data) (hg : BytesAt C w b g.data) :
    Calls Try.prog 37 #[.agg #[.int .i64 f.kind, .int .i64 f.chan, .slice a f.data.length c], .agg #[.int .i64 g.kind, .int .i64 g.chan, .slice b g.data.length d]] w fun e w' => e = .returned (.bool (sameB f g)) ∧ Below w.heap.size w w' :=
  (rsame_any f g a b c d w hB hC hf hg).mono fun _ _ h => says_same h

def asksRel (W : World) (n1 : Nat) (n : Nat) (v22 : Value) (wr : World) : Prop :=
  ∃ i : Nat, i ≤ n1 ∧ n = n1 - i ∧ v22 = .int .i64 i ∧ Below W.heap.size W wr
/-- a frame's cells in its box. -/
structure Box (wx : World) (p : Nat) (f : Fr) (a : Option Addr) (cap : Nat) : Prop where
  c0 : wx.cell? ⟨p, 0, none⟩ = some (.int .i64 f.kind)
  c1 : wx.cell? ⟨p, 1, none⟩ = some (.int .i64 f.chan)
  c2 : wx.cell? ⟨p, 2, none⟩ = some (.slice a f.data.length cap)
theorem Box.of {wx : World} {p : Nat} {f : Fr} {a : Option Addr} {cap : Nat} (h : wx.heap[p]? = some (.cells #[.int .i64 f.kind, .int .i64 f.chan, .slice a f.data.length cap] 48 (0, 0))) : Box wx p f a cap := by
  obtain ⟨c0, c1, c2⟩ := cells3 h
  exact ⟨c0, c1, c2⟩
theorem Box.lt {wx : World} {p : Nat} {f : Fr} {a : Option Addr} {cap : Nat} (h : Box wx p f a cap) : p < wx.heap.size := lt_of_cell h.c0
theorem Box.below {wx wy : World} {p : Nat} {f : Fr} {a : Option Addr} {cap : Nat} (h : Box wx p f a cap) (hb : Below wx.heap.size wx wy) : Box wy p f a cap :=
  ⟨(hb.cell (p := ⟨p, 0, none⟩) h.lt).trans h.c0, (hb.cell (p := ⟨p, 1, none⟩) h.lt).trans h.c1, (hb.cell (p := ⟨p, 2, none⟩) h.lt).trans h.c2⟩

set_option maxRecDepth 100000 in
set_option maxHeartbeats 16000000 in
theorem asks_no (f0 f1 : Fr) (a0 a1 : Option Addr) (cap0 cap1 : Nat) (a2 : Option Addr) (m cap2 : Nat) (w : World) (h0 : f0.data.length ≤ maxLen) (h1 : f1.data.length ≤ maxLen) (h2 : m ≤ maxLen)
    (h : ¬ (f0.data.length ≤ 5000 ∧ f1.data.length ≤ 5000 ∧ m ≤ 400)) :
    Calls Try.prog 10 #[.agg #[.int .i64 f0.kind, .int .i64 f0.chan, .slice a0 f0.data.length cap0], .agg #[.int .i64 f1.kind, .int .i64 f1.chan, .slice a1 f1.data.length cap1], .slice a2 m cap2] w fun e w' => e = .returned (.bool true) ∧ Below w.heap.size w w' := by
  unfold maxLen at h0 h1 h2
  have hbel : Below w.heap.size w ((w.alloc (.cells #[.int .i64 f0.kind, .int .i64 f0.chan, .slice a0 f0.data.length cap0] 48)).alloc (.cells #[.int .i64 f1.kind, .int .i64 f1.chan, .slice a1 f1.data.length cap1] 48)) := ((Below.refl _ _).alloc (Nat.le_refl _) _).alloc (by simp) _
  have HB := Lib.hid hbel
  clear hbel
  have hc : ((5000 : Int) < f0.data.length) ∨ ((f0.data.length : Int) ≤ 5000 ∧ (5000 : Int) < f1.data.length) ∨ ((f0.data.length : Int) ≤ 5000 ∧ (f1.data.length : Int) ≤ 5000 ∧ (400 : Int) < m) := by omega
  clear h
  rcases hc with h1 | ⟨h1, h2⟩ | ⟨h1, h2, h3⟩
  all_goals
    go_enter Try.func10, Try.ntmps10
    go_wp2_with fail
    refine (told_any _).mono ?_
    rintro e w1 ⟨rfl, hb⟩
    have HB1 := Lib.hid (HB.out.trans (hb.mono HB.out.size))
    clear hb
    go_wp2_with fail
    go_ret
    exact ⟨rfl, HB1.out⟩

end Go.Proofs.Ytpibbgencojbgaa
