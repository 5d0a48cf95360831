/-
  Sums of a list of complex numbers, walked: the program's and the document's.
-/
import Derived.Test.YtlnfghmkfgihjaaLeaf
import Derived.Lib.Hide
namespace Go.Proofs.Ytlnfghmkfgihjaa
open Go.RowKit

/-- the sum of the first so many. -/
def SumTo (zs : List (Nat × Nat)) : Nat → Nat × Nat → Prop
  | 0, r => r = (0, 0)
  | k + 1, r => ∃ m, SumTo zs k m ∧ CSumOf m (zs.getD k (0, 0)) r

/-- the cells of a list of complex numbers. -/
def HasC (w : World) (b off n : Nat) (zs : List (Nat × Nat)) : Prop :=
  ∀ j, j < n → w.cell? ⟨b, off + j, none⟩ = some (.complex .f64 (zs.getD j (0, 0)).1 (zs.getD j (0, 0)).2)

set_option maxHeartbeats 400000 in
theorem sum_any (b off n c : Nat) (zs : List (Nat × Nat)) (hn : n ≤ 1000) (w : World) (hc : HasC w b off n zs) :
    Calls Try.prog 16 #[.slice (some ⟨b, off, none⟩) n c] w fun e w' => ∃ r m, e = .returned (cx r) ∧ w.drewN m = w' ∧ SumTo zs n r := by
  go_enter Try.func16, Try.ntmps16
  go_wp2
  refine wp_scope_jumps 0 (fun a' w' => ∃ (k m : Nat) (z : Nat × Nat) (u5 u6 u7 u8 u9 u10 u11 u12 u13 u14 u15 u16 u17 : Value), w.drewN m = w' ∧ a' = { tmps := #[.slice (some ⟨b, off, none⟩) n c, undef, .complex .f64 0 0, .complex .f64 z.1 z.2, .int .i64 (k : Nat), u5, u6, u7, u8, u9, u10, u11, u12, u13, u14, u15, u16, u17], defers := [] } ∧ k ≤ n ∧ SumTo zs k z) (fun a' _ => n - (intOf (a'.tmps.getD 4 undef)).toNat) rfl ?_ ?_
  · go_wp2
    go_step3
    by_cases hlt : 0 < n
    · have h0 : w.cell? ⟨b, off, none⟩ = some (.complex .f64 (zs.getD 0 (0, 0)).1 (zs.getD 0 (0, 0)).2) := hc 0 hlt
      generalize hz : zs.getD 0 (0, 0) = z0 at h0
      have Hz := Lib.hid hz
      clear hz hc
      go_wp2
      go_step3
      refine ⟨rfl, 1, _, (_, _), _, _, _, _, _, _, _, _, _, _, _, _, _, rfl, rfl, by omega, (0, 0), rfl, ?_⟩
      rw [Hz.out]
      exact ⟨sumOf_addB _ _ _, sumOf_addB _ _ _⟩
    · clear hc
      go_wp2
      refine jump_ret ?_
      go_ret
      have h0 : n = 0 := by omega
      subst h0
      exact ⟨(0, 0), 0, rfl, rfl, rfl⟩
  · rintro a' w' ⟨k, m, z, u5, u6, u7, u8, u9, u10, u11, u12, u13, u14, u15, u16, u17, rfl, rfl, hk, hs⟩
    by_cases hlt : k < n
    · have h0 : w.cell? ⟨b, off + k, none⟩ = some (.complex .f64 (zs.getD k (0, 0)).1 (zs.getD k (0, 0)).2) := hc k hlt
      generalize hz : zs.getD k (0, 0) = z0 at h0
      have Hz := Lib.hid hz
      have HS := Lib.hid hs
      clear hz hc hs
      go_wp2
      go_step3
      rw [show ((k : Int) + 1) = ((k + 1 : Nat) : Int) from rfl]
      refine ⟨rfl, ⟨k + 1, _, (_, _), _, _, _, _, _, _, _, _, _, _, _, _, _, rfl, rfl, by omega, z, HS.out, ?_⟩, ?_⟩
      · rw [Hz.out]
        exact ⟨sumOf_addB _ _ _, sumOf_addB _ _ _⟩
      · simp [intOf]; omega
    · have HS := Lib.hid hs
      clear hc hs
      go_wp2
      refine jump_ret ?_
      go_ret
      have h0 : n = k := by omega
      subst h0
      exact ⟨z, m, rfl, rfl, HS.out⟩

set_option maxHeartbeats 400000 in
theorem sum_nil (w : World) :
    Calls Try.prog 16 #[.slice none 0 0] w fun e w' => e = .returned (cx (0, 0)) ∧ w = w' := by
  go_enter Try.func16, Try.ntmps16
  go_wp2
  refine wp_scope_passes 0 0 rfl ?_
  go_wp2
  go_step3
  go_wp2
  refine jump_ret ?_
  go_ret
  exact ⟨rfl, rfl⟩

set_option maxHeartbeats 400000 in
theorem rsum_nil (w : World) :
    Calls Try.prog 17 #[.slice none 0 0] w fun e w' => e = .returned (cx (0, 0)) ∧ w = w' := by
  go_enter Try.func17, Try.ntmps17
  go_wp2
  refine wp_loop_rounds 1 ?_
  rw [rounds_succ]
  go_wp2
  go_ret
  exact ⟨rfl, rfl⟩

set_option maxHeartbeats 400000 in
theorem rsum_any (b off n c : Nat) (zs : List (Nat × Nat)) (hn : n ≤ 1000) (w : World) (hc : HasC w b off n zs) :
    Calls Try.prog 17 #[.slice (some ⟨b, off, none⟩) n c] w fun e w' => ∃ r m, e = .returned (cx r) ∧ w.drewN m = w' ∧ SumTo zs n r := by
  go_enter Try.func17, Try.ntmps17
  go_wp2
  go_loopw [3, 4] (fun s i wr => ∃ (k m : Nat) (z : Nat × Nat), k ≤ n ∧ i = .int .i64 k ∧ s = .complex .f64 z.1 z.2 ∧ w.drewN m = wr ∧ SumTo zs k z) (fun _ i _ => n - (intOf i).toNat)
  case atStart => exact ⟨0, 0, (0, 0), Nat.zero_le _, rfl, rfl, rfl, rfl⟩
  case round =>
    obtain ⟨k, m, z, hk, rfl, rfl, rfl, hs⟩ := hrel
    by_cases hlt : k < n
    · have h0 : w.cell? ⟨b, off + k, none⟩ = some (.complex .f64 (zs.getD k (0, 0)).1 (zs.getD k (0, 0)).2) := hc k hlt
      generalize hz : zs.getD k (0, 0) = z0 at h0
      have Hz := Lib.hid hz
      have HS := Lib.hid hs
      clear hz hc hs
      go_wp2_with (go_at_call 27; refine (plus_any _ _ _ _ _).mono ?_; rintro e w' ⟨r, m', rfl, rfl, hr⟩)
      rename_i r m' hr
      have HR := Lib.hid hr
      clear hr
      go_roundw
      case rel => exact ⟨k + 1, _, r, by omega, by go_num, rfl, rfl, z, HS.out, by rw [Hz.out]; exact HR.out⟩
      case measure => simp [intOf]; omega
    · have HS := Lib.hid hs
      clear hc hs
      go_wp2
      go_ret
      have h0 : n = k := by omega
      subst h0
      exact ⟨z, m, rfl, rfl, HS.out⟩

theorem CSumOf.like {x y r x' r' : Nat × Nat} (h : CSumOf x y r) (h' : CSumOf x' y r') (hx : Like x.1 x'.1 ∧ Like x.2 x'.2) : Like r.1 r'.1 ∧ Like r.2 r'.2 :=
  ⟨h.1.like h'.1 hx.1 (Like.refl _), h.2.like h'.2 hx.2 (Like.refl _)⟩

theorem sumTo_like {zs : List (Nat × Nat)} : ∀ {k : Nat} {r r' : Nat × Nat}, SumTo zs k r → SumTo zs k r' → Like r.1 r'.1 ∧ Like r.2 r'.2
  | 0, r, r', h, h' => by cases h; cases h'; exact ⟨.refl _, .refl _⟩
  | k + 1, r, r', ⟨m, hm, h⟩, ⟨m', hm', h'⟩ => h.like h' (sumTo_like hm hm')

end Go.Proofs.Ytlnfghmkfgihjaa
