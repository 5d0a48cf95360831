/-
  The document's own answer: a number's bytes: carrefourref1's Big, walked.
-/
import Derived.Test.YtifgkmaaglaffaaBy
import Derived.Deep.LoopGhost
import Derived.Deep.RegionHeld3
namespace Go.Proofs.Ytifgkmaaglaffaa
open Go.RowKit
set_option linter.unusedVariables false

def bigRel (W : World) (x size : Nat) (n : Nat) (v5 v6 : Value) (wr : World) : Prop :=
  ∃ s : Nat, s ≤ size ∧ n = s ∧ v6 = .int .i64 ((s : Int) - 1) ∧ Below W.heap.size W wr ∧ Buf wr W.heap.size v5 ((be size x).take (size - s))

theorem big_any (x size : Nat) (hx : x < 18446744073709551616) (hs : size ≤ 8) (w : World) :
    Calls Try.prog 33 #[.int .u64 x, .int .i64 size] w fun e w' => e = .returned (.string ⟨(be size x).toArray⟩) ∧ Below w.heap.size w w' := by
  have HX := Lib.hid hx
  clear hx
  go_enter Try.func33, Try.ntmps33
  go_wp2_with fail
  go_loopg [5, 6] size (bigRel w x size)
  case atStart => exact ⟨size, Nat.le_refl _, rfl, rfl, Below.refl _ _, by simpa using Buf.nil w w.heap.size⟩
  case round =>
    obtain ⟨s, hss, rfl, rfl, hb, hbuf⟩ := hrel
    have HB := Lib.hid hb
    have HBUF := Lib.hid hbuf
    clear hb hbuf
    cases gk with
    | zero =>
      obtain ⟨a, c, rfl, _, _⟩ := HBUF.out.form
      have hcv := HBUF.out.bytes
      obtain ⟨a', c', he, _, _, hat⟩ := hcv
      obtain ⟨rfl, -, rfl⟩ := Value.slice.inj he
      have hcv := conv_str c hat
      have htk : (be size x).take (size - 0) = be size x := List.take_of_length_le (by simp)
      rw [htk] at hcv ⊢
      rw [be_length] at hcv ⊢
      clear he hat htk
      go_wp2_with fail
      go_ret
      exact ⟨rfl, HB.out⟩
    | succ m =>
      rw [show ((m + 1 : Nat) : Int) - 1 = (m : Int) by omega]
      have hst := be_step (n := x) (s := m + 1) (by omega) hss
      rw [Nat.add_sub_cancel] at hst
      have HST := Lib.hid hst
      clear hst
      have hle : ((be size x).take (size - (m + 1))).length ≤ 1000000 := by simp; omega
      have hsz : w.heap.size ≤ wr.heap.size := HB.out.size
      have m0 : (0 : Int) ≤ (m : Int) := by omega
      have m8 : (m : Int) < 8 := by omega
      go_wp2_with (at_builtin; refine put_one (base := w.heap.size) (w := wr) rfl (.tmp 13) (.tmp 20) rfl HBUF.out hsz hle (UInt8.ofNat (x / 2 ^ (8 * m) % 256)) (by simp) rfl _ rfl rfl ?_; intro v2 w2 hb2 hon2; rw [← HST.out] at hb2; have HBUF2 := Lib.hid hb2; have HBEL2 := Lib.hid (HB.out.trans (hon2.below HBUF.out hsz)); clear hb2 hon2)
      go_roundg m
      case measure => omega
      case rel => exact ⟨m, by omega, rfl, by simp, HBEL2.out, HBUF2.out⟩

theorem cat_list (l l' : List UInt8) : (⟨l.toArray⟩ : ByteArray) ++ ⟨l'.toArray⟩ = ⟨(l ++ l').toArray⟩ := by
  rw [ByteArray.mk_append_mk]

theorem big1 (x : Nat) (hx : x < 18446744073709551616) (w : World) : Calls Try.prog 33 #[.int .u64 x, .int .i64 1] w fun e w' => e = .returned (.string ⟨(be 1 x).toArray⟩) ∧ Below w.heap.size w w' := big_any x 1 hx (by decide) w

theorem big2 (x : Nat) (hx : x < 18446744073709551616) (w : World) : Calls Try.prog 33 #[.int .u64 x, .int .i64 2] w fun e w' => e = .returned (.string ⟨(be 2 x).toArray⟩) ∧ Below w.heap.size w w' := big_any x 2 hx (by decide) w

theorem big4 (x : Nat) (hx : x < 18446744073709551616) (w : World) : Calls Try.prog 33 #[.int .u64 x, .int .i64 4] w fun e w' => e = .returned (.string ⟨(be 4 x).toArray⟩) ∧ Below w.heap.size w w' := big_any x 4 hx (by decide) w

theorem below_alloc {B : Nat} {w wx : World} {o : Obj} (h : Below B (w.alloc o) wx) : w.heap.size + 1 ≤ wx.heap.size := by
  have := h.size
  simpa using this


theorem big8 (x : Nat) (hx : x < 18446744073709551616) (w : World) : Calls Try.prog 33 #[.int .u64 x, .int .i64 8] w fun e w' => e = .returned (.string ⟨(be 8 x).toArray⟩) ∧ Below w.heap.size w w' := big_any x 8 hx (by decide) w

end Go.Proofs.Ytifgkmaaglaffaa
