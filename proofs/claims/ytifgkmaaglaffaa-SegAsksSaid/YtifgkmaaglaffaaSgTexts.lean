/-
  carrefourlaw11.texts, walked: rows of bytes and texts that are the same.
-/
import Derived.Test.YtifgkmaaglaffaaSgRLog
import Derived.Test.YtifgkmaaglaffaaSgKeep
import Derived.BigQuiet
namespace Go.Proofs.Ytifgkmaaglaffaa.Sg
open Go.RowKit
set_option linter.unusedVariables false
variable {B C : Nat}

def txRel (W : World) (n : Nat) (m : Nat) (v : Value) (wr : World) : Prop := ∃ i : Nat, i ≤ n ∧ v = .int .i64 i ∧ m = n - i ∧ Below W.heap.size W wr

set_option maxRecDepth 100000 in
set_option maxHeartbeats 1000000 in
theorem texts_any (a : Option Addr) (c : Nat) (a2 : Option Addr) (c2 : Nat) (l : List (List UInt8)) (w : World) (h1 : BbsAt C w a c l) (hC : C ≤ w.heap.size) (h2 : Top.StrsAt w a2 c2 l) (hc2 : c2 ≤ maxLen) :
    Calls Try.prog 19 #[.slice a l.length c, .slice a2 l.length c2] w fun e w' => e = .returned (.bool true) ∧ Below w.heap.size w w' := by
  have H1 := Lib.hid h1
  have H2 := Lib.hid h2
  have hl1 := h1.len
  have hm1 := h1.max
  have hl2 := h2.len
  unfold maxLen at hm1 hc2
  clear h1 h2
  go_enter Try.func19, Try.ntmps19
  go_wp2_with fail
  go_loopg [5] l.length (txRel w l.length)
  case atStart => exact ⟨0, Nat.zero_le _, rfl, rfl, Below.refl _ _⟩
  case round =>
    obtain ⟨i, hil, rfl, rfl, hb⟩ := hrel
    have HB := Lib.hid hb
    clear hb
    by_cases hlt : i < l.length
    · have hlti : (i : Int) < (l.length : Int) := by omega
      have h0i : (0 : Int) ≤ (i : Int) := by omega
      obtain ⟨b, o, da, dc, rfl, hbl, x0, hdl, hdm, hdat⟩ := (H1.out.under (HB.out.mono hC)).get i hlt
      obtain ⟨b2, o2, rfl, hy⟩ := (H2.out.below HB.out).at' (by omega)
      have y0 := hy i hlt
      unfold Top.str at y0
      have hcv1 := fun nq => conv_str (w := wr.drewN nq) dc (hdat.keep fun _ _ => rfl)
      obtain ⟨d, hd⟩ : ∃ d, d = l[i] := ⟨_, rfl⟩
      rw [← hd] at x0 y0 hcv1
      obtain ⟨n, hn⟩ : ∃ n, n = d.length := ⟨_, rfl⟩
      rw [← hn] at x0 hcv1
      clear hd hn hdl hdm hdat hy
      go_wp2_with fail
      go_quiet (fail)
      obtain ⟨w7, hw7⟩ : ∃ w7, w7 = wr.drewN nq := ⟨_, rfl⟩
      have hb7 : Below wr.heap.size wr w7 := by rw [hw7]; exact below_drewN _ wr nq
      rw [← hw7]
      have HB7 := Lib.hid (HB.out.trans (hb7.mono HB.out.size))
      clear hb7 hw7 x0 y0 hcv1
      go_wp2_with fail
      go_roundg (l.length - (i + 1))
      case measure => omega
      case rel => exact ⟨i + 1, by omega, by simp, rfl, HB7.out⟩
    · obtain rfl : i = l.length := by omega
      go_wp2_with fail
      go_ret
      exact ⟨rfl, HB.out⟩

end Go.Proofs.Ytifgkmaaglaffaa.Sg
