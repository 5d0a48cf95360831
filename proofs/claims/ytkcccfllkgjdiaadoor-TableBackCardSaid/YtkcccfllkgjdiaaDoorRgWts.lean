/-
  Weights and the arcs that are made of them, as plain data.
-/
import Derived.Test.YtkcccfllkgjdiaaDoorRgLaw
import Derived.Test.YtkcccfllkgjdiaaDoorRgApart
namespace Go.Proofs.YtkcccfllkgjdiaaDoor.Rg
set_option linter.unusedVariables false

/-- points of shards, numbered: 32 for each shard. -/
def codes : List Int → Nat → List Nat
  | [], _ => []
  | w :: t, i => (List.range (8 * w).toNat).map (fun k => 32 * i + k) ++ codes t (i + 1)
def arN (n : Nat) : Ar := ⟨mkN n, ((n / 32 : Nat) : Int)⟩
def marksF (ws : List Int) : List Ar := (codes ws 0).map arN
def MayW (ws : List Int) : Prop := 1 ≤ ws.length ∧ ws.length ≤ 16 ∧ (∀ x ∈ ws, 0 ≤ x ∧ x ≤ 4) ∧ ∃ x ∈ ws, 0 < x
theorem codes_app (a b : List Int) (i : Nat) : codes (a ++ b) i = codes a i ++ codes b (i + a.length) := by
  induction a generalizing i with
  | nil => rfl
  | cons w t ih =>
    rw [List.cons_append, codes, codes, ih, List.append_assoc, List.length_cons]
    rw [show i + 1 + t.length = i + (t.length + 1) by omega]
theorem codes_in (ws : List Int) (h : ∀ x ∈ ws, 0 ≤ x ∧ x ≤ 4) (i : Nat) : ∀ n ∈ codes ws i, 32 * i ≤ n ∧ n < 32 * (i + ws.length) := by
  induction ws generalizing i with
  | nil => intro n hn; simp [codes] at hn
  | cons w t ih =>
    intro n hn
    have hw := h w (by simp)
    rw [codes] at hn
    rcases List.mem_append.1 hn with hn | hn
    · obtain ⟨k, hk, rfl⟩ := List.mem_map.1 hn
      have := List.mem_range.1 hk
      rw [List.length_cons]
      omega
    · have := ih (fun x hx => h x (by simp [hx])) (i + 1) n hn
      rw [List.length_cons]
      omega
theorem codes_up (ws : List Int) (h : ∀ x ∈ ws, 0 ≤ x ∧ x ≤ 4) (i : Nat) : (codes ws i).Pairwise (· < ·) := by
  induction ws generalizing i with
  | nil => exact List.Pairwise.nil
  | cons w t ih =>
    have hw := h w (by simp)
    have ht : ∀ x ∈ t, 0 ≤ x ∧ x ≤ 4 := fun x hx => h x (by simp [hx])
    rw [codes]
    refine List.pairwise_append.2 ⟨?_, ih ht (i + 1), fun a ha b hb => ?_⟩
    · rw [List.pairwise_map]
      refine List.Pairwise.imp ?_ (List.pairwise_lt_range)
      intro a b hab
      omega
    · obtain ⟨k, hk, rfl⟩ := List.mem_map.1 ha
      have := List.mem_range.1 hk
      have := codes_in t ht (i + 1) b hb
      omega
theorem codes_length (ws : List Int) (h : ∀ x ∈ ws, 0 ≤ x ∧ x ≤ 4) (i : Nat) : (codes ws i).length ≤ 32 * ws.length := by
  induction ws generalizing i with
  | nil => simp [codes]
  | cons w t ih =>
    have hw := h w (by simp)
    have := ih (fun x hx => h x (by simp [hx])) (i + 1)
    rw [codes, List.length_append, List.length_map, List.length_range, List.length_cons]
    omega
theorem MayW.take {ws : List Int} (h : MayW ws) : (∀ x ∈ ws, 0 ≤ x ∧ x ≤ 4) ∧ ws.length ≤ 16 := ⟨h.2.2.1, h.2.1⟩
theorem marks_apartF {ws : List Int} (h : ∀ x ∈ ws, 0 ≤ x ∧ x ≤ 4) (h16 : ws.length ≤ 16) : Apart (marksF ws) := by
  unfold Apart marksF
  rw [List.pairwise_map]
  refine List.Pairwise.imp_of_mem ?_ (codes_up ws h 0)
  intro a b ha hb hab
  have := codes_in ws h 0 b hb
  exact mkN_ne hab (by omega)
theorem marks_wf {ws : List Int} (h : ∀ x ∈ ws, 0 ≤ x ∧ x ≤ 4) (h16 : ws.length ≤ 16) : Wf (marksF ws) := by
  intro a ha
  obtain ⟨n, hn, rfl⟩ := List.mem_map.1 ha
  have := codes_in ws h 0 n hn
  exact mkN_in n (by omega)
theorem marks_shard {ws : List Int} (h : ∀ x ∈ ws, 0 ≤ x ∧ x ≤ 4) {a : Ar} (ha : a ∈ marksF ws) : 0 ≤ a.s ∧ a.s < ws.length := by
  obtain ⟨n, hn, rfl⟩ := List.mem_map.1 ha
  have := codes_in ws h 0 n hn
  simp only [arN]
  omega
theorem codes_some {ws : List Int} (h : ∃ x ∈ ws, 0 < x) (i : Nat) : codes ws i ≠ [] := by
  obtain ⟨x, hx, h0⟩ := h
  obtain ⟨a, b, rfl⟩ := List.append_of_mem hx
  rw [codes_app, codes]
  intro e
  have := congrArg List.length e
  simp at this
  omega
theorem marks_some {ws : List Int} (h : ∃ x ∈ ws, 0 < x) : marksF ws ≠ [] := by
  unfold marksF
  intro e
  exact codes_some h 0 (List.map_eq_nil_iff.1 e)
theorem marks_le {ws : List Int} (h : ∀ x ∈ ws, 0 ≤ x ∧ x ≤ 4) (h16 : ws.length ≤ 16) : (marksF ws).length ≤ 512 := by
  unfold marksF
  rw [List.length_map]
  have := codes_length ws h 0
  omega
def ringW (ws : List Int) : List Ar := srt (marksF ws)
theorem ringW_may {ws : List Int} (h : MayW ws) : May (ringW ws) := by
  obtain ⟨h1, h2, h3, h4⟩ := h
  have h5 := marks_le h3 h2
  have h6 := List.length_pos_iff.2 (marks_some h4)
  refine may_of (by unfold ringW; rw [srt_length]; omega) (by unfold ringW; rw [srt_length]; omega) (fun a ha => ?_) (srt_up (marks_apartF h3 h2))
  have := marks_shard h3 ((srt_perm _).mem_iff.1 ha)
  omega

end Go.Proofs.YtkcccfllkgjdiaaDoor.Rg
