/-
  value.May, walked.
-/
import Derived.Test.YtpibbgencojbgaaMayT
namespace Go.Proofs.Ytpibbgencojbgaa
open Go.RowKit
set_option linter.unusedVariables false

set_option maxHeartbeats 1000000 in
theorem mayV_any (x : It) (hk : -9223372036854775808 ≤ x.n ∧ x.n ≤ 9223372036854775807) (a : Option Addr) (cap : Nat) (hs : x.s.size ≤ maxLen) (w : World) (hl : Tb w a cap x.sub) :
    Calls Try.prog 23 #[.agg #[.int .i64 x.kind, .int .i64 x.n, .string x.s, .slice a x.sub.length cap]] w (SaysB (x.May 1) w) := by
  have HK := Lib.hid hk
  clear hk
  go_enter Try.func23, Try.ntmps23
  go_wp2_with fail
  refine (may_any 1 x HK.out a cap hs (Nat.le_trans hl.len.1 hl.len.2) _ (fun w1 hw1 => mayTab_any _ (Nat.le_refl _) 1 (by omega) w1 ((hl.below ((Below.refl _ _).alloc (Nat.le_refl _) _)).below hw1))).mono ?_
  rintro e w' ⟨r, hr, rfl, hb⟩
  have HR := Lib.hid hr
  clear hr
  go_wp2_with fail
  go_ret
  exact ⟨r, HR.out, rfl, ((Below.refl _ _).alloc (Nat.le_refl _) _).trans (hb.mono (by simp))⟩

end Go.Proofs.Ytpibbgencojbgaa
