/-
  Two logs side by side, the program's and the document's: what a step leaves of both.
-/
import Derived.Test.YtifgkmaaglaffaaSgTexts
import Derived.Test.YtifgkmaaglaffaaSgSync
import Derived.Test.YtifgkmaaglaffaaSgArg
namespace Go.Proofs.Ytifgkmaaglaffaa.Sg
open Go.RowKit
set_option linter.unusedVariables false
variable {B C : Nat}

theorem LogAt.rkept {w w' : World} {g gm : Nat} {vs vw : Value} {sy wa sy' wa' : List UInt8} {bg bg' : Bool} (h : LogAt C w g vs vw sy wa bg) (hr : RLogAt w gm sy' wa' bg') (hk : Kept [gm] w w') : LogAt C w' g vs vw sy wa bg := by
  have hne : g ≠ gm := fun e => by
    subst e
    have h1 := h.box
    have h2 : w.heap[g]? = _ := hr
    rw [h1] at h2
    injection h2 with h2
    injection h2 with _ h2
    exact absurd h2 (by decide)
  refine ⟨(hk.block g h.lt (by simpa using hne)).trans h.box, h.ge, h.sb.stay fun k e => hk.block k (h.sb.lt k e) ?_, h.wb.stay fun k e => hk.block k (h.wb.lt k e) ?_, h.ap⟩
  · simp only [List.mem_cons, List.not_mem_nil, or_false]
    intro e2
    subst e2
    exact own_box h.sb hr (by decide) e
  · simp only [List.mem_cons, List.not_mem_nil, or_false]
    intro e2
    subst e2
    exact own_box h.wb hr (by decide) e

/-- the step in its box. -/
def OBox (w : World) (ob : Nat) (kd nm : Int) (da : Option Addr) (n dc : Nat) : Prop := w.heap[ob]? = some (.cells #[.int .i64 kd, .int .i64 nm, .slice da n dc] 49 (0, 0))
theorem OBox.side {w w' : World} {ob : Nat} {kd nm : Int} {da : Option Addr} {n dc : Nat} (h : OBox w ob kd nm da n dc) (hs : Side C w w') : OBox w' ob kd nm da n dc := hs.ty ob _ _ _ (by decide) (by decide) h
theorem OBox.below {w w' : World} {ob : Nat} {kd nm : Int} {da : Option Addr} {n dc : Nat} (h : OBox w ob kd nm da n dc) (hb : Below w.heap.size w w') : OBox w' ob kd nm da n dc := (hb.block ob (Array.getElem?_eq_some_iff.1 h).1).trans h
theorem OBox.rkept {w w' : World} {ob gm : Nat} {kd nm : Int} {da : Option Addr} {n dc : Nat} {sy wa : List UInt8} {bg : Bool} (h : OBox w ob kd nm da n dc) (hr : RLogAt w gm sy wa bg) (hk : Kept [gm] w w') : OBox w' ob kd nm da n dc := by
  have hne : ob ≠ gm := fun e => by
    subst e
    have h1 : w.heap[ob]? = _ := h
    have h2 : w.heap[ob]? = _ := hr
    rw [h1] at h2
    injection h2 with h2
    injection h2 with _ h2
    exact absurd h2 (by decide)
  exact (hk.block ob (Array.getElem?_eq_some_iff.1 h).1 (by simpa using hne)).trans h

/-- both logs, the step's box, and what lay there before. -/
structure Two (W w : World) (g gm ob : Nat) (vs : Value) (kd nm : Int) (da : Option Addr) (n dc : Nat) (sy wa sy2 wa2 : List UInt8) (bg bg2 : Bool) : Prop where
  log : ∃ vw, LogAt W.heap.size w g vs vw sy wa bg
  ref : RLogAt w gm sy2 wa2 bg2
  box : OBox w ob kd nm da n dc
  bel : Below W.heap.size W w

section
variable {W w : World} {g gm ob : Nat} {vs : Value} {kd nm : Int} {da : Option Addr} {n dc : Nat} {sy wa sy2 wa2 : List UInt8} {bg bg2 : Bool}
theorem Two.same {w' : World} (h : Two W w g gm ob vs kd nm da n dc sy wa sy2 wa2 bg bg2) (hb : Below w.heap.size w w') : Two W w' g gm ob vs kd nm da n dc sy wa sy2 wa2 bg bg2 := by
  obtain ⟨vw, hl⟩ := h.log
  exact ⟨⟨vw, hl.below hb⟩, h.ref.below hb, h.box.below hb, h.bel.trans (hb.mono h.bel.size)⟩
theorem Two.put (h : Two W w g gm ob vs kd nm da n dc sy wa sy2 wa2 bg bg2) {d : List UInt8} (hd : n = d.length) (hdl : d.length ≤ dc) (hdm : dc ≤ maxLen) (hat : BytesAt W.heap.size W da d) (hwl : wa.length ≤ 900000) :
    Calls Try.prog 23 #[.pointer (some ⟨g, 0, none⟩), .slice da n dc] w fun e w' => e = .returned (.int .i64 (recC d)) ∧ Two W w' g gm ob vs kd nm da n dc sy (wa ++ recL d) sy2 wa2 bg bg2 := by
  obtain ⟨vw, hl⟩ := h.log
  subst hd
  refine (put_any da dc d hdl hdm w (hat.under h.bel) hl hwl).mono ?_
  rintro e w' ⟨vw', he, hl', hs⟩
  exact ⟨he, ⟨vw', hl'⟩, h.ref.side hs, h.box.side hs, h.bel.trans hs.bel⟩
theorem Two.rput (h : Two W w g gm ob vs kd nm da n dc sy wa sy2 wa2 bg bg2) {d : List UInt8} (hd : d.length ≤ 1000000) (hwl : wa2.length ≤ 1000000) (hgm : W.heap.size ≤ gm) :
    Calls Try.prog 24 #[.pointer (some ⟨gm, 0, none⟩), .string ⟨d.toArray⟩] w fun e w' => e = .returned (.int .i64 (recC d)) ∧ Two W w' g gm ob vs kd nm da n dc sy wa sy2 (wa2 ++ recL d) bg bg2 := by
  obtain ⟨vw, hl⟩ := h.log
  refine (rput_any d sy2 wa2 bg2 gm hd hwl w h.ref).mono ?_
  rintro e w' ⟨he, hr', hk⟩
  exact ⟨he, ⟨vw, hl.rkept h.ref hk⟩, hr', h.box.rkept h.ref hk, h.bel.trans (hk.below h.bel.size (fun b hb => by simp only [List.mem_cons, List.not_mem_nil, or_false] at hb; omega))⟩
theorem Two.begin (h : Two W w g gm ob vs kd nm da n dc sy wa sy2 wa2 bg bg2) {d : List UInt8} (hd : n = d.length) (hdl : d.length ≤ dc) (hdm : dc ≤ maxLen) (hat : BytesAt W.heap.size W da d) :
    Calls Try.prog 25 #[.pointer (some ⟨g, 0, none⟩), .slice da n dc] w fun e w' => e = .returned (.int .i64 (recC d)) ∧ Two W w' g gm ob vs kd nm da n dc sy (begW d wa) sy2 wa2 (begB d bg) bg2 := by
  obtain ⟨vw, hl⟩ := h.log
  subst hd
  refine (begin_any da dc d hdl hdm w (hat.under h.bel) hl).mono ?_
  rintro e w' ⟨vw', he, hl', hs⟩
  exact ⟨he, ⟨vw', hl'⟩, h.ref.side hs, h.box.side hs, h.bel.trans hs.bel⟩
theorem Two.rbegin (h : Two W w g gm ob vs kd nm da n dc sy wa sy2 wa2 bg bg2) {d : List UInt8} (hd : d.length ≤ 1000000) (hgm : W.heap.size ≤ gm) :
    Calls Try.prog 26 #[.pointer (some ⟨gm, 0, none⟩), .string ⟨d.toArray⟩] w fun e w' => e = .returned (.int .i64 (recC d)) ∧ Two W w' g gm ob vs kd nm da n dc sy wa sy2 (begW d wa2) bg (begB d bg2) := by
  obtain ⟨vw, hl⟩ := h.log
  refine (rbegin_any d sy2 wa2 bg2 gm hd w h.ref).mono ?_
  rintro e w' ⟨he, hr', hk⟩
  exact ⟨he, ⟨vw, hl.rkept h.ref hk⟩, hr', h.box.rkept h.ref hk, h.bel.trans (hk.below h.bel.size (fun b hb => by simp only [List.mem_cons, List.not_mem_nil, or_false] at hb; omega))⟩
theorem Two.sync (h : Two W w g gm ob vs kd nm da n dc sy wa sy2 wa2 bg bg2) (hl9 : sy.length + wa.length ≤ 1000000) :
    Calls Try.prog 27 #[.pointer (some ⟨g, 0, none⟩)] w fun e w' => ∃ vs', e = .returned (.tuple #[]) ∧ Two W w' g gm ob vs' kd nm da n dc (synF sy wa bg) [] sy2 wa2 false bg2 := by
  obtain ⟨vw, hl⟩ := h.log
  refine (sync_any w hl hl9).mono ?_
  rintro e w' ⟨vs', he, hl', hs⟩
  exact ⟨vs', he, ⟨_, hl'⟩, h.ref.side hs, h.box.side hs, h.bel.trans hs.bel⟩
theorem Two.rsync (h : Two W w g gm ob vs kd nm da n dc sy wa sy2 wa2 bg bg2) (hl9 : sy2.length + wa2.length ≤ 1000000) (hgm : W.heap.size ≤ gm) :
    Calls Try.prog 28 #[.pointer (some ⟨gm, 0, none⟩)] w fun e w' => e = .returned (.tuple #[]) ∧ Two W w' g gm ob vs kd nm da n dc sy wa (synF sy2 wa2 bg2) [] bg false := by
  obtain ⟨vw, hl⟩ := h.log
  refine (rsync_any sy2 wa2 bg2 gm hl9 w h.ref).mono ?_
  rintro e w' ⟨he, hr', hk⟩
  exact ⟨he, ⟨vw, hl.rkept h.ref hk⟩, hr', h.box.rkept h.ref hk, h.bel.trans (hk.below h.bel.size (fun b hb => by simp only [List.mem_cons, List.not_mem_nil, or_false] at hb; omega))⟩
end

end Go.Proofs.Ytifgkmaaglaffaa.Sg
