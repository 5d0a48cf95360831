/-
  A call in memory; package method's text, number, setNumber, walked.
-/
import Derived.Test.YtiobcgolcoocnaaGreatDoorMDat
import Derived.Test.YtiobcgolcoocnaaGreatDoorMayT
import Derived.IntWalk
import Derived.Handy
namespace Go.Proofs.YtiobcgolcoocnaaGreatDoor
open Go.RowKit
set_option linter.unusedVariables false

/-- a call's twelve cells. -/
def meC (m : Me) (a : Option Addr) (cap : Nat) : Array Value :=
  #[.int .i64 m.id, .string m.name, .string m.typ, .string m.ex, .string m.key, .string m.text, .int .i64 m.code, .int .i64 m.count, .int .u64 m.tag, .bool m.flag, .bool m.back, .slice a m.args.length cap]
/-- block g is this call, its table's slice at a. -/
def MeAt (w : World) (g : Nat) (m : Me) (a : Option Addr) (cap : Nat) : Prop := w.heap[g]? = some (.cells (meC m a cap) 31 (0, 0))

theorem MeAt.cells {w : World} {g : Nat} {m : Me} {a : Option Addr} {cap : Nat} (h : MeAt w g m a cap) :
    (w.cell? ⟨g, 0, none⟩ = some (.int .i64 m.id) ∧ w.cell? ⟨g, 1, none⟩ = some (.string m.name) ∧ w.cell? ⟨g, 2, none⟩ = some (.string m.typ) ∧ w.cell? ⟨g, 3, none⟩ = some (.string m.ex) ∧ w.cell? ⟨g, 4, none⟩ = some (.string m.key) ∧ w.cell? ⟨g, 5, none⟩ = some (.string m.text)) ∧
    (w.cell? ⟨g, 6, none⟩ = some (.int .i64 m.code) ∧ w.cell? ⟨g, 7, none⟩ = some (.int .i64 m.count) ∧ w.cell? ⟨g, 8, none⟩ = some (.int .u64 m.tag) ∧ w.cell? ⟨g, 9, none⟩ = some (.bool m.flag) ∧ w.cell? ⟨g, 10, none⟩ = some (.bool m.back) ∧ w.cell? ⟨g, 11, none⟩ = some (.slice a m.args.length cap)) := by
  refine ⟨⟨?_, ?_, ?_, ?_, ?_, ?_⟩, ?_, ?_, ?_, ?_, ?_, ?_⟩ <;> (rw [cell_of_row w _ _ _ _ _ h]; rfl)
theorem MeAt.frozen {w : World} {g : Nat} {m : Me} {a : Option Addr} {cap : Nat} (h : MeAt w g m a cap) (i : Nat) : w.frozen? ⟨g, i, none⟩ = false := by
  unfold MeAt at h
  simp [World.frozen?, h]
theorem MeAt.lt {w : World} {g : Nat} {m : Me} {a : Option Addr} {cap : Nat} (h : MeAt w g m a cap) : g < w.heap.size := (Array.getElem?_eq_some_iff.1 h).1
theorem MeAt.keep {w w' : World} {g : Nat} {m : Me} {a : Option Addr} {cap : Nat} (h : MeAt w g m a cap) (hk : w'.heap[g]? = w.heap[g]?) : MeAt w' g m a cap := hk.trans h

/-- which letters are texts'. -/
theorem text_yes (g : Nat) (p : Pt) (hp : p.isT = true) (w : World) :
    Calls Tryz.prog 47 #[.pointer (some ⟨g, 0, none⟩), .int .u8 p.byte.toNat] w fun e w' => e = .returned (.pointer (some ⟨g, p.off, none⟩)) ∧ w = w' := by
  cases p <;> first | (cases hp; done) | skip
  all_goals
    go_enter Tryz.func47, Tryz.ntmps47
    go_wp2_with fail
    go_ret
    exact ⟨rfl, rfl⟩
theorem text_no (g : Nat) (p : Pt) (hp : p.isT = false) (w : World) :
    Calls Tryz.prog 47 #[.pointer (some ⟨g, 0, none⟩), .int .u8 p.byte.toNat] w fun e w' => e = .returned (.pointer none) ∧ w = w' := by
  cases p <;> first | (cases hp; done) | skip
  all_goals
    go_enter Tryz.func47, Tryz.ntmps47
    go_wp2_with fail
    go_ret
    exact ⟨rfl, rfl⟩

theorem bit_any (b : Bool) (w : World) : Calls Tryz.prog 62 #[.bool b] w fun e w' => e = .returned (.int .u64 (bitN b : Nat)) ∧ w = w' := by
  cases b
  all_goals
    go_enter Tryz.func62, Tryz.ntmps62
    go_wp2_with fail
    go_ret
    exact ⟨rfl, rfl⟩

def NumP (m : Me) (p : Pt) (w : World) (e : Ending) (w' : World) : Prop := e = .returned (.tuple #[.int .u64 (m.num p : Nat), .int .i64 (p.size : Nat)]) ∧ w = w'
set_option maxHeartbeats 1000000 in
theorem number_c {w : World} {g : Nat} {m : Me} {a : Option Addr} {cap : Nat} (h : MeAt w g m a cap) :
    Calls Tryz.prog 48 #[.pointer (some ⟨g, 0, none⟩), .int .u8 99] w (NumP m .c w) := by
  have c := h.cells.2.1
  have hw := wrap_u64_of m.code
  clear h
  go_enter Tryz.func48, Tryz.ntmps48
  go_wp2_with fail
  go_ret2
  exact ⟨rfl, rfl⟩
set_option maxHeartbeats 1000000 in
theorem number_u {w : World} {g : Nat} {m : Me} {a : Option Addr} {cap : Nat} (h : MeAt w g m a cap) :
    Calls Tryz.prog 48 #[.pointer (some ⟨g, 0, none⟩), .int .u8 117] w (NumP m .u w) := by
  have c := h.cells.2.2.1
  have hw := wrap_u64_of m.count
  clear h
  go_enter Tryz.func48, Tryz.ntmps48
  go_wp2_with fail
  go_ret2
  exact ⟨rfl, rfl⟩
set_option maxHeartbeats 1000000 in
theorem number_t {w : World} {g : Nat} {m : Me} {a : Option Addr} {cap : Nat} (h : MeAt w g m a cap) :
    Calls Tryz.prog 48 #[.pointer (some ⟨g, 0, none⟩), .int .u8 116] w (NumP m .t w) := by
  have c := h.cells.2.2.2.1
  clear h
  go_enter Tryz.func48, Tryz.ntmps48
  go_wp2_with fail
  go_ret2
  exact ⟨rfl, rfl⟩
set_option maxHeartbeats 1000000 in
theorem number_f {w : World} {g : Nat} {m : Me} {a : Option Addr} {cap : Nat} (h : MeAt w g m a cap) :
    Calls Tryz.prog 48 #[.pointer (some ⟨g, 0, none⟩), .int .u8 102] w (NumP m .f w) := by
  have c := h.cells.2.2.2.2.1
  clear h
  go_enter Tryz.func48, Tryz.ntmps48
  go_wp2_with fail
  refine (bit_any m.flag _).mono ?_
  rintro e w1 ⟨rfl, rfl⟩
  go_wp2_with fail
  go_ret2
  exact ⟨rfl, rfl⟩
set_option maxHeartbeats 1000000 in
theorem number_b {w : World} {g : Nat} {m : Me} {a : Option Addr} {cap : Nat} (h : MeAt w g m a cap) :
    Calls Tryz.prog 48 #[.pointer (some ⟨g, 0, none⟩), .int .u8 98] w (NumP m .b w) := by
  have c := h.cells.2.2.2.2.2.1
  clear h
  go_enter Tryz.func48, Tryz.ntmps48
  go_wp2_with fail
  refine (bit_any m.back _).mono ?_
  rintro e w1 ⟨rfl, rfl⟩
  go_wp2_with fail
  go_ret2
  exact ⟨rfl, rfl⟩
/-- a part's number, and how many bytes it has. -/
theorem num_any {w : World} {g : Nat} {m : Me} {a : Option Addr} {cap : Nat} (h : MeAt w g m a cap) (p : Pt) (hp : p.isT = false) (ha : p ≠ .a) :
    Calls Tryz.prog 48 #[.pointer (some ⟨g, 0, none⟩), .int .u8 p.byte.toNat] w (NumP m p w) := by
  cases p
  case c => exact number_c h
  case u => exact number_u h
  case t => exact number_t h
  case f => exact number_f h
  case b => exact number_b h
  case a => exact absurd rfl ha
  all_goals cases hp

/-- behind a number's store. -/
def SetP (g : Nat) (m : Me) (p : Pt) (v : Nat) (a : Option Addr) (cap : Nat) (w : World) (e : Ending) (w' : World) : Prop :=
  e = .returned (.tuple #[]) ∧ MeAt w' g (m.set p v) a cap ∧ w.grownBy w' (some g) ∧ w'.heap.size = w.heap.size

theorem wrap_i64_of (v : Nat) (h : v < 18446744073709551616) : IntKind.i64.wrap (v : Int) = sgn64 v := by rw [IntKind.wrap_i64]; unfold sgn64; split <;> omega
set_option maxHeartbeats 1000000 in
theorem setNum_any {w : World} {g : Nat} {m : Me} {a : Option Addr} {cap : Nat} (h : MeAt w g m a cap) (p : Pt) (hp : p.isT = false) (ha : p ≠ .a) (v : Nat) (hv : v < 18446744073709551616) :
    Calls Tryz.prog 49 #[.pointer (some ⟨g, 0, none⟩), .int .u8 p.byte.toNat, .int .u64 v] w (SetP g m p v a cap w) := by
  have hf := h.frozen
  have hw := wrap_i64_of v hv
  have c := h.cells.2
  obtain ⟨c6, c7, c8, c9, c10, c11⟩ := c
  have H := Lib.hid h
  have f6 := hf 6
  have f7 := hf 7
  have f8 := hf 8
  have f9 := hf 9
  have f10 := hf 10
  clear h hf hv
  cases p
  case a => exact absurd rfl ha
  case n => cases hp
  case y => cases hp
  case e => cases hp
  case k => cases hp
  case x => cases hp
  all_goals
    go_enter Tryz.func49, Tryz.ntmps49
    go_wp2_with fail
    go_returns
    refine ⟨rfl, ?_, set_grown _ _ _ _, by simp [World.setCell]⟩
    unfold MeAt
    rw [set_heap H.out]
    have hvb : ((v : Int) == 1) = (v == 1) := by
      by_cases e : v = 1
      · subst e; rfl
      · rw [beq_eq_false_iff_ne.2 e, beq_eq_false_iff_ne.2 (by omega)]
    first | rfl | (simp [meC, Me.set]; done) | (simp [meC, Me.set, hvb]; done)

end Go.Proofs.YtiobcgolcoocnaaGreatDoor
