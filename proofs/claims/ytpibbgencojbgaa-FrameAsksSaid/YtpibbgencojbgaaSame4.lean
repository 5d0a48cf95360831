/-
  Same, told: walked.
-/
import Derived.Test.YtpibbgencojbgaaAll4
namespace Go.Proofs.Ytpibbgencojbgaa
open Go.RowKit
set_option linter.unusedVariables false

set_option maxHeartbeats 1000000 in
theorem equal_any {B C : Nat} (a b : Option Addr) (c d : Nat) (l m : List UInt8) (w : World) (hl : BytesAt B w a l) (hm : BytesAt C w b m) :
    Calls Try.prog 62 #[.slice a l.length c, .slice b m.length d] w (SaysW (l = m) w) := by
  have h1 := conv_str c hl
  have h2 := conv_str d hm
  clear hl hm
  go_enter Try.func62, Try.ntmps62
  go_wp2_with fail
  go_ret
  exact ⟨l == m, by simp, rfl, rfl⟩

set_option maxRecDepth 100000 in
set_option maxHeartbeats 4000000 in
theorem same_any {B C : Nat} (f g : Fr) (a b : Option Addr) (c d : Nat) (w : World) (hB : B ≤ w.heap.size) (hC : C ≤ w.heap.size) (hf : BytesAt B w a f.data) (hg : BytesAt C w b g.data) :
    Calls Try.prog 38 #[.agg #[.int .i64 f.kind, .int .i64 f.chan, .slice a f.data.length c], .agg #[.int .i64 g.kind, .int .i64 g.chan, .slice b g.data.length d]] w (SaysB (f = g) w) := by
  obtain ⟨k1, c1, l1⟩ := f
  obtain ⟨k2, c2, l2⟩ := g
  have hbel : Below w.heap.size w ((w.alloc (.cells #[.int .i64 k1, .int .i64 c1, .slice a l1.length c] 48)).alloc (.cells #[.int .i64 k2, .int .i64 c2, .slice b l2.length d] 48)) := ((Below.refl _ _).alloc (Nat.le_refl _) _).alloc (by simp) _
  have HB := Lib.hid hbel
  have hf2 := hf.under (hbel.mono hB)
  have hg2 := hg.under (hbel.mono hC)
  have HF := Lib.hid hf2
  have HG := Lib.hid hg2
  clear hbel hf hg hf2 hg2
  by_cases hk : k1 = k2
  · subst hk
    by_cases hc : c1 = c2
    · subst hc
      go_enter Try.func38, Try.ntmps38
      go_wp2_with fail
      refine (equal_any a b c d l1 l2 _ HF.out HG.out).mono ?_
      rintro e w' ⟨r, hr, rfl, rfl⟩
      have HR := Lib.hid hr
      clear hr
      go_wp2_with fail
      go_ret
      exact ⟨r, by rw [HR.out]; simp, rfl, HB.out⟩
    · have hcb : (c1 == c2) = false := by simpa using hc
      have HC := Lib.hid hc
      clear hc
      go_enter Try.func38, Try.ntmps38
      go_wp2_with fail
      go_ret
      exact ⟨false, by simpa using fun h => absurd h HC.out, rfl, HB.out⟩
  · have hkb : (k1 == k2) = false := by simpa using hk
    have HK := Lib.hid hk
    clear hk
    go_enter Try.func38, Try.ntmps38
    go_wp2_with fail
    go_ret
    exact ⟨false, by simpa using fun h => absurd h HK.out, rfl, HB.out⟩

end Go.Proofs.Ytpibbgencojbgaa
