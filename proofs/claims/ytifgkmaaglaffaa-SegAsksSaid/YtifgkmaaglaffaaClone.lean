/-
  slices.Clone of bytes, walked.
-/
import Derived.Test.YtifgkmaaglaffaaKept
import Derived.Lib.SliceRun
import Derived.WalkSpells
import Derived.Laws.OwnMore
namespace Go.Proofs.Ytifgkmaaglaffaa
open Go.RowKit
set_option linter.unusedVariables false
variable {B : Nat}

theorem Buf.form2 {w : World} {base : Nat} {v : Value} {l : List UInt8} (h : Buf w base v l) : ∃ (N : Nat) (a : Option Addr) (c : Nat), N = l.length ∧ v = .slice a N c ∧ N ≤ c ∧ c ≤ maxLen := by
  obtain ⟨a, c, h1, h2, h3⟩ := h.form
  exact ⟨_, a, c, rfl, h1, h2, h3⟩
theorem clone_any (a : Option Addr) (cap : Nat) (l : List UInt8) (hl : l.length ≤ cap) (hcap : cap ≤ maxLen) (hl9 : l.length ≤ 1000000) (w : World) (hat : BytesAt B w a l) :
    Calls Try.prog 39 #[.slice a l.length cap] w fun e w' => ∃ v, e = .returned v ∧ Buf w' w.heap.size v l ∧ Below w.heap.size w w' := by
  cases a with
  | none =>
    obtain rfl : l = [] := by
      cases l with
      | nil => rfl
      | cons c r => obtain ⟨b, o, h, _⟩ := hat (by simp); cases h
    have hnil : (binOp .eql 22 (.slice none 0 cap) (.slice none 0 0)).run Try.prog w = .ok (.bool true) w := Lib.run_eql_slice_nil w 22 5 none 0 cap 0 0 Try.underlying22
    go_enter Try.func39, Try.ntmps39
    go_wp2_with fail
    go_ret
    exact ⟨_, rfl, Buf.nil _ _, Below.refl _ _⟩
  | some x =>
    have hb0 : Below w.heap.size w (w.alloc (.cells #[] 5)) := (Below.refl _ _).alloc (Nat.le_refl _) _
    have HB0 := Lib.hid hb0
    have HAT := Lib.hid (hat.below hb0)
    have hown : Buf (w.alloc (.cells #[] 5)) w.heap.size (.slice (some ⟨w.heap.size, 0, none⟩) 0 0) [] := World.ownsRow_lit w #[] 0 (Nat.le_refl _) (by decide) (by simp)
    have HOWN := Lib.hid hown
    clear hat hb0 hown
    have hnil : (binOp .eql 22 (.slice (some x) l.length cap) (.slice none 0 0)).run Try.prog w = .ok (.bool false) w := Lib.run_eql_slice_nil w 22 5 (some x) l.length cap 0 0 Try.underlying22
    go_enter Try.func39, Try.ntmps39
    go_wp2_with (at_builtin; refine put_bytes (base := w.heap.size) (l := []) (m := l) rfl (.tmp 5) (.tmp 6) rfl HOWN.out HB0.out.size HAT.out (by simp; omega) rfl rfl rfl ?_; intro v2 w2 hb2 hon2; have HB2 := Lib.hid hb2; have HBEL2 := Lib.hid (HB0.out.trans (hon2.below HOWN.out HB0.out.size)); clear hb2 hon2)
    go_ret
    exact ⟨_, rfl, HB2.out, HBEL2.out⟩

end Go.Proofs.Ytifgkmaaglaffaa
