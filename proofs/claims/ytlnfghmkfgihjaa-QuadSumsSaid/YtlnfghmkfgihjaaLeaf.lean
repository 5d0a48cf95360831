/-
  The small functions of package quad and of the document's answer, walked: what each gives, as a function of the bits.
-/
import Derived.Test.YtlnfghmkfgihjaaRows
import Derived.Test.YtlnfghmkfgihjaaLaws
namespace Go.Proofs.Ytlnfghmkfgihjaa
open Go.RowKit

@[go_sem] theorem run_bits (b : Nat) (w : World) : (callFunc 31 #[.float .f64 b]).run Try.prog w = .ok (.value (.int .u64 b)) w := by kernel_rfl
@[go_sem] theorem run_frombits (b : Int) (w : World) : (callFunc 32 #[.int .u64 b]).run Try.prog w = .ok (.value (.float .f64 b.toNat)) w := by kernel_rfl

/-- turned by k quarters. -/
def spin (k : Int) (z : Nat × Nat) : Nat × Nat :=
  if k % 4 = 1 then (ng z.2, z.1) else if k % 4 = 2 then (ng z.1, ng z.2) else if k % 4 = 3 then (z.2, ng z.1) else z

def cx (z : Nat × Nat) : Value := .complex .f64 z.1 z.2
@[go_sem] theorem cx_eq (z : Nat × Nat) : cx z = .complex .f64 z.1 z.2 := rfl

theorem spin_0 {k : Int} (h : k % 4 = 0) (z : Nat × Nat) : spin k z = z := by
  unfold spin; rw [h]; rfl
theorem spin_1 {k : Int} (h : k % 4 = 1) (z : Nat × Nat) : spin k z = (ng z.2, z.1) := by
  unfold spin; rw [h]; rfl
theorem spin_2 {k : Int} (h : k % 4 = 2) (z : Nat × Nat) : spin k z = (ng z.1, ng z.2) := by
  unfold spin; rw [h]; rfl
theorem spin_3 {k : Int} (h : k % 4 = 3) (z : Nat × Nat) : spin k z = (z.2, ng z.1) := by
  unfold spin; rw [h]; rfl

set_option maxHeartbeats 400000 in
theorem quarters_any (k : Int) (w : World) :
    Calls Try.prog 30 #[.int .i64 k] w fun e w' => e = .returned (.int .i64 (k % 4)) ∧ w = w' := by
  have hb := i64_and3 k
  go_enter Try.func30, Try.ntmps30
  go_wp2
  go_ret
  exact ⟨rfl, rfl⟩

set_option maxHeartbeats 400000 in
theorem quarter_any (k : Int) (w : World) :
    Calls Try.prog 33 #[.int .i64 k] w fun e w' => e = .returned (.int .i64 (k % 4)) ∧ w = w' := by
  have hb := i64_and3 k
  go_enter Try.func33, Try.ntmps33
  go_wp2
  go_ret
  exact ⟨rfl, rfl⟩

set_option maxHeartbeats 400000 in
theorem spin_any (k : Int) (a b : Nat) (w : World) :
    Calls Try.prog 20 #[.complex .f64 a b, .int .i64 k] w fun e w' => e = .returned (cx (spin k (a, b))) ∧ w = w' := by
  have hk : k % 4 = 0 ∨ k % 4 = 1 ∨ k % 4 = 2 ∨ k % 4 = 3 := by omega
  go_enter Try.func20, Try.ntmps20
  rcases hk with hk | hk | hk | hk
  · rw [spin_0 hk]
    go_wp2_with (go_at_call 30; refine (quarters_any _ _).mono ?_; rintro e w' ⟨rfl, rfl⟩)
    go_ret
    exact ⟨rfl, rfl⟩
  · rw [spin_1 hk]
    go_wp2_with (go_at_call 30; refine (quarters_any _ _).mono ?_; rintro e w' ⟨rfl, rfl⟩)
    go_ret
    exact ⟨rfl, rfl⟩
  · rw [spin_2 hk]
    go_wp2_with (go_at_call 30; refine (quarters_any _ _).mono ?_; rintro e w' ⟨rfl, rfl⟩)
    go_ret
    exact ⟨rfl, rfl⟩
  · rw [spin_3 hk]
    go_wp2_with (go_at_call 30; refine (quarters_any _ _).mono ?_; rintro e w' ⟨rfl, rfl⟩)
    go_ret
    exact ⟨rfl, rfl⟩

/-- i to the power of k. -/
def turn (k : Int) : Nat × Nat :=
  if k % 4 = 1 then (0, 4607182418800017408) else if k % 4 = 2 then (13830554455654793216, 0) else if k % 4 = 3 then (0, 13830554455654793216) else (4607182418800017408, 0)

set_option maxHeartbeats 400000 in
theorem turn_any (k : Int) (w : World) :
    Calls Try.prog 22 #[.int .i64 k] w fun e w' => e = .returned (cx (turn k)) ∧ w = w' := by
  have hk : k % 4 = 0 ∨ k % 4 = 1 ∨ k % 4 = 2 ∨ k % 4 = 3 := by omega
  go_enter Try.func22, Try.ntmps22
  rcases hk with hk | hk | hk | hk
  all_goals
    have ht : turn k = turn (k % 4) := by unfold turn; rw [Int.emod_emod_of_dvd k (Int.dvd_refl 4)]
    rw [ht, hk]
    clear ht
    go_wp2_with (go_at_call 30; refine (quarters_any _ _).mono ?_; rintro e w' ⟨rfl, rfl⟩)
    go_ret
    exact ⟨rfl, rfl⟩

set_option maxHeartbeats 400000 in
theorem rspin_any (k : Int) (a b : Nat) (w : World) :
    Calls Try.prog 28 #[.complex .f64 a b, .int .i64 k] w fun e w' => e = .returned (cx (spin k (a, b))) ∧ w = w' := by
  have hk : k % 4 = 0 ∨ k % 4 = 1 ∨ k % 4 = 2 ∨ k % 4 = 3 := by omega
  go_enter Try.func28, Try.ntmps28
  rcases hk with hk | hk | hk | hk
  · rw [spin_0 hk]
    go_wp2_with (go_at_call 33; refine (quarter_any _ _).mono ?_; rintro e w' ⟨rfl, rfl⟩)
    go_ret
    exact ⟨rfl, rfl⟩
  · rw [spin_1 hk]
    go_wp2_with (go_at_call 33; refine (quarter_any _ _).mono ?_; rintro e w' ⟨rfl, rfl⟩)
    go_ret
    exact ⟨rfl, rfl⟩
  · rw [spin_2 hk]
    go_wp2_with (go_at_call 33; refine (quarter_any _ _).mono ?_; rintro e w' ⟨rfl, rfl⟩)
    go_ret
    exact ⟨rfl, rfl⟩
  · rw [spin_3 hk]
    go_wp2_with (go_at_call 33; refine (quarter_any _ _).mono ?_; rintro e w' ⟨rfl, rfl⟩)
    go_ret
    exact ⟨rfl, rfl⟩

set_option maxHeartbeats 400000 in
theorem z_any (a b : Nat) (w : World) :
    Calls Try.prog 10 #[.float .f64 a, .float .f64 b] w fun e w' => e = .returned (cx (a, b)) ∧ w = w' := by
  go_enter Try.func10, Try.ntmps10
  go_wp2
  go_ret
  exact ⟨rfl, rfl⟩

/-- the sum of two complex numbers, part by part. -/
def CSumOf (x y r : Nat × Nat) : Prop := SumOf x.1 y.1 r.1 ∧ SumOf x.2 y.2 r.2

set_option maxHeartbeats 400000 in
theorem plus_any (a b c d : Nat) (w : World) :
    Calls Try.prog 27 #[.complex .f64 a b, .complex .f64 c d] w fun e w' => ∃ r n, e = .returned (cx r) ∧ w.drewN n = w' ∧ CSumOf (a, b) (c, d) r := by
  go_enter Try.func27, Try.ntmps27
  go_wp2
  go_ret
  exact ⟨(_, _), _, rfl, rfl, sumOf_addB _ _ _, sumOf_addB _ _ _⟩

set_option maxHeartbeats 400000 in
theorem fourth_any (a b : Nat) (w : World) :
    Calls Try.prog 26 #[.complex .f64 a b] w fun e w' => ∃ r n, e = .returned (cx r) ∧ w.drewN n = w' ∧ DivOf a 4616189618054758400 r.1 ∧ DivOf b 4616189618054758400 r.2 := by
  go_enter Try.func26, Try.ntmps26
  go_wp2
  go_ret
  exact ⟨(_, _), _, rfl, rfl, divOf_divB _ _ _, divOf_divB _ _ _⟩

set_option maxHeartbeats 400000 in
theorem norm_any (a b : Nat) (w : World) :
    Calls Try.prog 18 #[.complex .f64 a b] w fun e w' => ∃ x y r n, e = .returned (.float .f64 r) ∧ w.drewN n = w' ∧ MulOf a a x ∧ MulOf b b y ∧ SumOf x y r := by
  go_enter Try.func18, Try.ntmps18
  go_wp2
  go_ret
  exact ⟨_, _, _, _, rfl, rfl, mulOf_mulB _ _ _, mulOf_mulB _ _ _, sumOf_addB _ _ _⟩

theorem order_nan {a : Nat} (b : Nat) (h : NaN a) : Ieee.double.order a b = none := by
  obtain ⟨s, t, e⟩ := datum_nan h
  unfold Ieee.Format.order
  rw [e]; rfl

theorem order_self {a : Nat} (h : ¬ NaN a) : Ieee.double.order a a = some .eq := by
  unfold Ieee.Format.order
  unfold NaN at h
  cases e : Ieee.double.read a with
  | nan s t => rw [e] at h; exact absurd rfl h
  | infinity s => simp [Ieee.Datum.order]
  | number s m i => simp [Ieee.Datum.order]

set_option maxHeartbeats 400000 in
theorem float_yes (a b : Nat) (h : Like a b) (w : World) :
    Calls Try.prog 21 #[.float .f64 a, .float .f64 b] w fun e w' => e = .returned (.bool true) ∧ w = w' := by
  by_cases hn : NaN a ∧ NaN b
  · have h1 : FloatKind.f64.format.order a a = none := order_nan a hn.1
    have h2 : FloatKind.f64.format.order b b = none := order_nan b hn.2
    clear h hn
    go_enter Try.func21, Try.ntmps21
    go_wp2
    go_ret
    exact ⟨rfl, rfl⟩
  · have hab : a = b := by
      rcases h with h | h
      · exact h
      · exact absurd h hn
    subst hab
    have h1 : FloatKind.f64.format.order a a = some .eq := order_self (fun h' => hn ⟨h', h'⟩)
    clear h hn
    go_enter Try.func21, Try.ntmps21
    go_wp2
    go_ret
    exact ⟨rfl, rfl⟩

end Go.Proofs.Ytlnfghmkfgihjaa
