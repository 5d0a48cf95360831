/-
  Begin, Sync of a log, walked.
-/
import Derived.Test.YtifgkmaaglaffaaSgPut
import Derived.BigRegion
namespace Go.Proofs.Ytifgkmaaglaffaa.Sg
open Go.RowKit
set_option linter.unusedVariables false
variable {B C : Nat}

/-- what waits behind a Begin of l, and whether it comes in the place of all. -/
def begW (l wa : List UInt8) : List UInt8 := if MayL l.length then recF l else wa
def begB (l : List UInt8) (bg : Bool) : Bool := if MayL l.length then true else bg
def BegR (C : Nat) (l sy wa : List UInt8) (bg : Bool) (g : Nat) (vs : Value) (w : World) (e : Ending) (w' : World) : Prop :=
  ∃ vw, e = .returned (.int .i64 (recC l)) ∧ LogAt C w' g vs vw sy (begW l wa) (begB l bg) ∧ Side C w w'

theorem LogAt.begun {w w1 w' : World} {g : Nat} {vs vw v1 : Value} {sy wa m : List UInt8} {bg : Bool} (h : LogAt C w g vs vw sy wa bg) (hb : Below w.heap.size w w1) (hbuf : Buf w1 w.heap.size v1 m) (hw : w' = (w1.setCell ⟨g, 1, none⟩ v1).setCell ⟨g, 2, none⟩ (.bool true)) :
    LogAt C w' g vs v1 sy m true ∧ Side C w w' := by
  have h1 := h.below hb
  have hg1 := (set_box3 h1.box).2.1 v1
  have hg2 := (set_box3 hg1).2.2 (.bool true)
  have hoth : ∀ k, k ≠ g → w'.heap[k]? = w1.heap[k]? := fun k hk => by rw [hw, Below.heap_setCell _ _ _ _ hk, Below.heap_setCell _ _ _ _ hk]
  have hv1 : ∀ k, v1.ownBlock = some k → w.heap.size ≤ k := fun k e => (World.ownsRow.lt hbuf k e).1
  have hgl := h.lt
  refine ⟨⟨by rw [hw]; exact hg2, h.ge, h1.sb.stay fun k e => hoth k fun e2 => h1.sne (e2 ▸ e), ?_, fun k e1 e2 => ?_⟩, ?_⟩
  · exact (hbuf.stay fun k e => hoth k fun e2 => by have := hv1 k e; omega).mono (Nat.le_trans h.ge (Nat.le_of_lt hgl))
  · have := hv1 k e2
    have := h.sb.lt k e1
    omega
  · refine Side.of_kept h ?_
    rw [hw]
    exact ((Kept.of_below hb).set (mem_logB.2 (.inl rfl)) 1 v1).set (mem_logB.2 (.inl rfl)) 2 _

set_option maxRecDepth 100000 in
set_option maxHeartbeats 1000000 in
theorem begin_any {g : Nat} {vs vw : Value} {sy wa : List UInt8} {bg : Bool} (a : Option Addr) (cap : Nat) (l : List UInt8) (hl : l.length ≤ cap) (hcap : cap ≤ maxLen) (w : World) (hat : BytesAt B w a l) (h : LogAt C w g vs vw sy wa bg) :
    Calls Try.prog 25 #[.pointer (some ⟨g, 0, none⟩), .slice a l.length cap] w (BegR C l sy wa bg g vs w) := by
  have HREC := Lib.hid (record_any a cap l hl hcap w hat)
  have HLOG := Lib.hid h
  unfold RecR recC recL at HREC
  unfold BegR begW begB recC
  clear hat h
  by_cases hm : MayL l.length
  · rw [if_pos hm, if_pos hm] at HREC
    rw [if_pos hm, if_pos hm, if_pos hm]
    clear hm
    go_enter Try.func25, Try.ntmps25
    go_wp2_with fail
    refine HREC.out.mono ?_
    rintro e w1 ⟨v1, rfl, hbf1, hb1⟩
    have hlog1 := HLOG.out.below hb1
    obtain ⟨⟨c0, c1, c2⟩, f0, f1, f2⟩ := box3 hlog1.box
    have HB1 := Lib.hid hb1
    have HF1 := Lib.hid hbf1
    have hg1 := fun v => (set_box3 hlog1.box).2.1 v
    obtain ⟨N1, a1, k1, hN1, rfl, -, -⟩ := hbf1.form2
    obtain ⟨⟨-, -, d2⟩, -, -, e2⟩ := box3 (hg1 (.slice a1 N1 k1))
    clear hlog1 hb1 hbf1 hN1 hg1 c0 f0
    go_wp2_with fail
    go_ret
    have hend := HLOG.out.begun HB1.out HF1.out rfl
    exact ⟨_, rfl, hend.1, hend.2⟩
  · rw [if_neg hm, if_neg hm] at HREC
    rw [if_neg hm, if_neg hm, if_neg hm]
    clear hm
    go_enter Try.func25, Try.ntmps25
    go_wp2_with fail
    refine HREC.out.mono ?_
    rintro e w1 ⟨v1, rfl, -, hb1⟩
    have HB1 := Lib.hid hb1
    clear hb1
    go_wp2_with fail
    go_ret
    exact ⟨_, rfl, HLOG.out.below HB1.out, Side.of_below HB1.out (Nat.le_trans HLOG.out.ge (Nat.le_of_lt HLOG.out.lt))⟩

/-- what is synced behind a Sync. -/
def synF (sy wa : List UInt8) (bg : Bool) : List UInt8 := (if bg then [] else sy) ++ wa
def SyncR (C : Nat) (sy wa : List UInt8) (bg : Bool) (g : Nat) (w : World) (e : Ending) (w' : World) : Prop :=
  ∃ vs, e = .returned (.tuple #[]) ∧ LogAt C w' g vs (.slice none 0 0) (synF sy wa bg) [] false ∧ Side C w w'

theorem LogAt.synced {w w2 w' : World} {g : Nat} {vs vw u0 v2 : Value} {sy wa s0 : List UInt8} {bg : Bool} (h : LogAt C w g vs vw sy wa bg) {w1 : World} (hu : u0 = vs ∨ u0 = .slice none 0 0) (hk : Kept [g] w w1) (hbox : w1.heap[g]? = some (.cells #[u0, vw, .bool bg] 74 (0, 0)))
    (hbuf : Buf w2 C v2 s0) (hon : Onto w1 u0 w2 v2) (hw : w'.heap = (((w2.setCell ⟨g, 0, none⟩ v2).setCell ⟨g, 1, none⟩ (.slice none 0 0)).setCell ⟨g, 2, none⟩ (.bool false)).heap) (ho : w'.os = w2.os ∧ w'.tape = w2.tape ∧ w'.output = w2.output) :
    LogAt C w' g v2 (.slice none 0 0) s0 [] false ∧ Side C w w' := by
  have hgl : g < w1.heap.size := (Array.getElem?_eq_some_iff.1 hbox).1
  have hu2 : ∀ k, u0.ownBlock = some k → vs.ownBlock = some k := fun k e => by
    rcases hu with rfl | rfl
    · exact e
    · cases e
  have hg2 : w2.heap[g]? = some (.cells #[u0, vw, .bool bg] 74 (0, 0)) := (hon.block hgl fun e => h.sne (hu2 g e)).trans hbox
  have hg3 := (set_box3 ((set_box3 ((set_box3 hg2).1 v2)).2.1 (.slice none 0 0))).2.2 (.bool false)
  have hvg : v2.ownBlock ≠ some g := own_box hbuf hg2 (by decide)
  have hoth : ∀ k, k ≠ g → w'.heap[k]? = w2.heap[k]? := fun k hk => by rw [hw, Below.heap_setCell _ _ _ _ hk, Below.heap_setCell _ _ _ _ hk, Below.heap_setCell _ _ _ _ hk]
  refine ⟨⟨by rw [hw]; exact hg3, h.ge, hbuf.stay fun k e => hoth k fun e2 => hvg (e2 ▸ e), Buf.nil _ _, fun k _ e => by cases e⟩, Side.of_kept h ?_⟩
  have k1 : Kept (logB g vs vw) w w1 := ⟨hk.os, hk.tape, hk.output, hk.size, fun k hlt hn => hk.block k hlt fun hm => hn (mem_logB.2 (.inl (by simpa using hm)))⟩
  have k2 : Kept (logB g vs vw) w w2 := k1.grown hon.grew fun k e => .inl (mem_logB.2 (.inr (.inl (hu2 k e))))
  have k3 := ((k2.set (mem_logB.2 (.inl rfl)) 0 v2).set (mem_logB.2 (.inl rfl)) 1 (.slice none 0 0)).set (mem_logB.2 (.inl rfl)) 2 (.bool false)
  exact ⟨ho.1.trans k2.os, ho.2.1.trans k2.tape, ho.2.2.trans k2.output, by rw [hw]; exact k3.size, fun k hlt hn => by rw [hw]; exact k3.block k hlt hn⟩

end Go.Proofs.Ytifgkmaaglaffaa.Sg
