/-
  ring's small functions, walked: mayShard, width; point.Way.
-/
import Derived.Test.YtkcccfllkgjdiaaDoorRgMem
import Derived.Deep.QuietTactic
import Derived.BigQuiet
namespace Go.Proofs.YtkcccfllkgjdiaaDoor.Rg
open Go.RowKit
set_option linter.unusedVariables false

def okS (s : Int) : Bool := decide (0 ≤ s ∧ s < 16)
set_option maxHeartbeats 400000 in
theorem mayShard_any (s : Int) (w : World) :
    Calls Tryd.prog 28 #[.int .i64 s] w fun e w' => e = .returned (.bool (okS s)) ∧ w = w' := by
  by_cases h1 : 0 ≤ s
  · by_cases h2 : s < 16
    · have hk : okS s = true := by unfold okS; simp [h1, h2]
      rw [hk]
      clear hk
      go_enter Tryd.func28, Tryd.ntmps28
      go_wp2
      go_ret
      exact ⟨rfl, rfl⟩
    · have hk : okS s = false := by unfold okS; simp; omega
      rw [hk]
      clear hk
      go_enter Tryd.func28, Tryd.ntmps28
      go_wp2
      go_ret
      exact ⟨rfl, rfl⟩
  · have hk : okS s = false := by unfold okS; simp; omega
    rw [hk]
    clear hk
    go_enter Tryd.func28, Tryd.ntmps28
    go_wp2
    go_ret
    exact ⟨rfl, rfl⟩

set_option maxHeartbeats 400000 in
theorem way_any (a b : Int) (w : World) :
    Calls Tryd.prog 83 #[.int .u32 a, .int .u32 b] w fun e w' => e = .returned (.int .u32 ((b - a) % 4294967296)) ∧ w = w' := by
  go_enter Tryd.func83, Tryd.ntmps83
  go_wp2
  go_ret
  exact ⟨rfl, rfl⟩

theorem nx_mod {l : List Ar} (k : Nat) (hk : k < l.length) : (l[(k + 1) % l.length]'(Nat.mod_lt _ (by omega))).f = nx l k := by
  unfold nx
  split
  · rename_i h
    simp only [Nat.mod_eq_of_lt h]
  · rename_i h
    have h1 : k + 1 = l.length := by omega
    simp only [h1, Nat.mod_self]
    exact (hd_get (by omega) 0).symm
theorem width_one {l : List Ar} (h : l.length = 1) : widthF l 0 = 4294967296 := by
  unfold widthF nx
  rw [dif_pos (by omega), dif_neg (by omega), hd_get (by omega)]
  exact wd_self _
theorem width_more {l : List Ar} (hw : Wf l) (hu : Up l) (h : l.length ≠ 1) (k : Nat) (hk : k < l.length) :
    widthF l k = ((l[(k + 1) % l.length]'(Nat.mod_lt _ (by omega))).f - l[k].f) % 4294967296 := by
  unfold widthF
  rw [dif_pos hk, ← nx_mod k hk]
  have hm := Nat.mod_lt (k + 1) (show l.length > 0 by omega)
  refine wd_ne (hw _ (List.getElem_mem _)) (hw _ (List.getElem_mem _)) ?_
  have hne : (k + 1) % l.length ≠ k := by
    by_cases h1 : k + 1 < l.length
    · rw [Nat.mod_eq_of_lt h1]; omega
    · rw [show k + 1 = l.length by omega, Nat.mod_self]; omega
  rcases Nat.lt_or_gt_of_ne hne with g | g
  · have := hu.lt hk g; omega
  · have := hu.lt hm g; omega

set_option maxHeartbeats 1000000 in
theorem width_any (a : Option Addr) (cap : Nat) (l : List Ar) (k : Nat) (w : World) (hf : AsAt w a cap l) (hw : Wf l) (hu : Up l) (hk : k < l.length) :
    Calls Tryd.prog 69 #[.slice a l.length cap, .int .i64 k] w fun e w' => e = .returned (.int .u64 (widthF l k)) ∧ ∃ n, w.drewN n = w' := by
  have hcap := hf.max
  have hlen := hf.len
  unfold maxLen at hcap
  by_cases h1 : l.length = 1
  · obtain rfl : k = 0 := by omega
    rw [width_one h1]
    have e1 : ((l.length : Int) == 1) = true := by rw [h1]; rfl
    clear hf hw hu
    go_enter Tryd.func69, Tryd.ntmps69
    go_wp2_with fail
    go_ret
    exact ⟨rfl, 0, rfl⟩
  · have e1 : ((l.length : Int) == 1) = false := by simp; omega
    have hm := Nat.mod_lt (k + 1) (show l.length > 0 by omega)
    rw [width_more hw hu h1 k hk]
    obtain ⟨b, o, rfl, c0, _⟩ := hf.get k hk
    obtain ⟨b', o', he, c1, _⟩ := hf.get _ hm
    injection he with he
    injection he with e2 e3
    subst e2 e3
    generalize (l[(k + 1) % l.length]'hm).f = y at *
    generalize l[k].f = x at *
    clear hf hw hu
    have hki : (k : Int) < (l.length : Int) := by omega
    have s5 : ((l.length : Int) == 0) = false := by rw [beq_eq_false_iff_ne]; omega
    have s1 : IntKind.i64.wrap ((k : Int) + 1) = (k : Int) + 1 := IntWalk.i64_in _ (by omega)
    have s2 : ((k : Int) + 1).tmod (l.length : Int) = ((k + 1) % l.length : Nat) := by
      rw [Int.tmod_eq_emod_of_nonneg (by omega)]; rfl
    have s3 : (((k + 1) % l.length : Nat) : Int) < (l.length : Int) := Int.ofNat_lt.2 hm
    have s4 : (0 : Int) ≤ (((k + 1) % l.length : Nat) : Int) := Int.natCast_nonneg _
    generalize (k + 1) % l.length = q at *
    have hway := way_any x y
    go_enter Tryd.func69, Tryd.ntmps69
    go_wp2_with fail
    go_quiet ((go_at_call 83; exact Calls.quiet_of_same ((hway _).mono fun e w' h => ⟨h.1, h.2.symm⟩)))
    go_wp2_with fail
    go_ret
    exact ⟨rfl, _, rfl⟩

end Go.Proofs.YtkcccfllkgjdiaaDoor.Rg
