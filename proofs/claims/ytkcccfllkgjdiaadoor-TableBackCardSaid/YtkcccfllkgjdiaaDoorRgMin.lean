/-
  Weights in memory; the least, the greatest; which weights may be: walked.
-/
import Derived.Test.YtkcccfllkgjdiaaDoorRgWts
import Derived.Test.YtkcccfllkgjdiaaDoorRgMay
import Derived.Test.YtkcccfllkgjdiaaDoorRgOwnW
import Derived.Deep.LoopGhost
namespace Go.Proofs.YtkcccfllkgjdiaaDoor.Rg
open Go.RowKit
set_option linter.unusedVariables false

def minK (ws : List Int) (k : Nat) : Int := (ws.take k).foldl (fun a b => if b < a then b else a) (ws.headD 0)
def maxK (ws : List Int) (k : Nat) : Int := (ws.take k).foldl (fun a b => if a < b then b else a) (ws.headD 0)
theorem minK_succ {ws : List Int} (k : Nat) (h : k < ws.length) : minK ws (k + 1) = if ws[k] < minK ws k then ws[k] else minK ws k := by
  unfold minK
  rw [List.take_succ_eq_append_getElem h, List.foldl_append]
  rfl
theorem maxK_succ {ws : List Int} (k : Nat) (h : k < ws.length) : maxK ws (k + 1) = if maxK ws k < ws[k] then ws[k] else maxK ws k := by
  unfold maxK
  rw [List.take_succ_eq_append_getElem h, List.foldl_append]
  rfl
theorem minK_one {ws : List Int} (h : 0 < ws.length) : minK ws 1 = ws[0] := by
  cases ws with
  | nil => simp at h
  | cons a t => unfold minK; simp
theorem maxK_one {ws : List Int} (h : 0 < ws.length) : maxK ws 1 = ws[0] := by
  cases ws with
  | nil => simp at h
  | cons a t => unfold maxK; simp
theorem minK_is {ws : List Int} (k : Nat) (h1 : 1 ≤ k) (h : k ≤ ws.length) : (∃ i, ∃ g : i < ws.length, i < k ∧ minK ws k = ws[i]) ∧ ∀ i (g : i < ws.length), i < k → minK ws k ≤ ws[i] := by
  induction k with
  | zero => omega
  | succ k ih =>
    by_cases h0 : k = 0
    · subst h0
      rw [minK_one (by omega)]
      exact ⟨⟨0, by omega, by omega, rfl⟩, fun i g hi => by obtain rfl : i = 0 := by omega
                                                            exact Int.le_refl _⟩
    · obtain ⟨⟨i, g, hi, e⟩, hm⟩ := ih (by omega) (by omega)
      rw [minK_succ k (by omega)]
      split
      · refine ⟨⟨k, by omega, by omega, rfl⟩, fun j gj hj => ?_⟩
        by_cases hjk : j = k
        · subst hjk; exact Int.le_refl _
        · have := hm j gj (by omega); omega
      · refine ⟨⟨i, g, by omega, e⟩, fun j gj hj => ?_⟩
        by_cases hjk : j = k
        · subst hjk; omega
        · exact hm j gj (by omega)
theorem maxK_is {ws : List Int} (k : Nat) (h1 : 1 ≤ k) (h : k ≤ ws.length) : (∃ i, ∃ g : i < ws.length, i < k ∧ maxK ws k = ws[i]) ∧ ∀ i (g : i < ws.length), i < k → ws[i] ≤ maxK ws k := by
  induction k with
  | zero => omega
  | succ k ih =>
    by_cases h0 : k = 0
    · subst h0
      rw [maxK_one (by omega)]
      exact ⟨⟨0, by omega, by omega, rfl⟩, fun i g hi => by obtain rfl : i = 0 := by omega
                                                            exact Int.le_refl _⟩
    · obtain ⟨⟨i, g, hi, e⟩, hm⟩ := ih (by omega) (by omega)
      rw [maxK_succ k (by omega)]
      split
      · refine ⟨⟨k, by omega, by omega, rfl⟩, fun j gj hj => ?_⟩
        by_cases hjk : j = k
        · subst hjk; exact Int.le_refl _
        · have := hm j gj (by omega); omega
      · refine ⟨⟨i, g, by omega, e⟩, fun j gj hj => ?_⟩
        by_cases hjk : j = k
        · subst hjk; omega
        · exact hm j gj (by omega)
instance (ws : List Int) : Decidable (MayW ws) := inferInstanceAs (Decidable (_ ∧ _ ∧ _ ∧ _))
theorem mayW_is {ws : List Int} (h1 : 1 ≤ ws.length) (h2 : ws.length ≤ 16) : decide (MayW ws) = (decide (0 ≤ minK ws ws.length) && decide (0 < maxK ws ws.length) && decide (maxK ws ws.length ≤ 4)) := by
  obtain ⟨⟨i, gi, _, ei⟩, hi⟩ := minK_is ws.length h1 (Nat.le_refl _)
  obtain ⟨⟨j, gj, _, ej⟩, hj⟩ := maxK_is ws.length h1 (Nat.le_refl _)
  rw [Bool.eq_iff_iff]
  simp only [decide_eq_true_eq, Bool.and_eq_true]
  constructor
  · rintro ⟨_, _, h3, x, hx, h4⟩
    obtain ⟨k, hk, rfl⟩ := List.getElem_of_mem hx
    have a1 := (h3 _ (List.getElem_mem gi)).1
    have a2 := (h3 _ (List.getElem_mem gj)).2
    have a3 := hj k hk hk
    omega
  · rintro ⟨⟨a1, a2⟩, a3⟩
    refine ⟨h1, h2, fun x hx => ?_, ws[j], List.getElem_mem gj, by omega⟩
    obtain ⟨k, hk, rfl⟩ := List.getElem_of_mem hx
    have := hi k hk hk
    have := hj k hk hk
    omega

theorem ret_bool {a b : Bool} (h : a = b) : Ending.returned (.bool a) = .returned (.bool b) := by rw [h]
theorem min_if (y x : Int) : min y x = if x < y then x else y := by split <;> omega
theorem max_if (y x : Int) : max y x = if y < x then x else y := by split <;> omega
def minRel (w : World) (f : Nat → Int) (n : Nat) (m : Nat) (u v : Value) (wr : World) : Prop :=
  ∃ i : Nat, 1 ≤ i ∧ i ≤ n ∧ u = .int .i64 (f i) ∧ v = .int .i64 i ∧ m = n - i ∧ wr = w
set_option maxHeartbeats 1000000 in
theorem min_any (a : Option Addr) (cap : Nat) (ws : List Int) (w : World) (hf : WsAt w a cap ws) (h1 : 1 ≤ ws.length) :
    Calls Tryd.prog 46 #[.slice a ws.length cap] w fun e w' => e = .returned (.int .i64 (minK ws ws.length)) ∧ w = w' := by
  have hcap := hf.max
  have hlen := hf.len
  unfold maxLen at hcap
  have HF := Lib.hid hf
  have h1i : ¬ (ws.length : Int) < 1 := by omega
  obtain ⟨b, o, rfl, c0⟩ := WsAt.get hf 0 h1
  rw [Nat.add_zero, ← minK_one h1] at c0
  have HS := Lib.hid fun k (h : k < ws.length) => minK_succ k h
  clear hf
  go_enter Tryd.func46, Tryd.ntmps46
  go_wp2_with fail
  clear c0
  go_loopg [3, 4] (ws.length - 1) (minRel w (minK ws) ws.length)
  case atStart => exact ⟨1, by omega, by omega, rfl, rfl, rfl, rfl⟩
  case round =>
    obtain ⟨i, hi1, hi, rfl, rfl, rfl, rfl⟩ := hrel
    by_cases hlt : i < ws.length
    · have hlti : (i : Int) < (ws.length : Int) := by omega
      have h0i : (0 : Int) ≤ (i : Int) := by omega
      obtain ⟨b', o', he, c1⟩ := WsAt.get HF.out i hlt
      injection he with he
      injection he with e2 e3
      subst e2 e3
      have HS1 := Lib.hid (HS.out i hlt)
      go_wp2_with fail
      go_roundg (ws.length - (i + 1))
      case measure => omega
      case rel => exact ⟨i + 1, by omega, by omega, by rw [min_if, ← HS1.out], by go_num, by simp, rfl⟩
    · obtain rfl : i = ws.length := by omega
      go_wp2_with fail
      go_ret
      exact ⟨rfl, rfl⟩

set_option maxHeartbeats 1000000 in
theorem max_any (a : Option Addr) (cap : Nat) (ws : List Int) (w : World) (hf : WsAt w a cap ws) (h1 : 1 ≤ ws.length) :
    Calls Tryd.prog 47 #[.slice a ws.length cap] w fun e w' => e = .returned (.int .i64 (maxK ws ws.length)) ∧ w = w' := by
  have hcap := hf.max
  have hlen := hf.len
  unfold maxLen at hcap
  have HF := Lib.hid hf
  have h1i : ¬ (ws.length : Int) < 1 := by omega
  obtain ⟨b, o, rfl, c0⟩ := WsAt.get hf 0 h1
  rw [Nat.add_zero, ← maxK_one h1] at c0
  have HS := Lib.hid fun k (h : k < ws.length) => maxK_succ k h
  clear hf
  go_enter Tryd.func47, Tryd.ntmps47
  go_wp2_with fail
  clear c0
  go_loopg [3, 4] (ws.length - 1) (minRel w (maxK ws) ws.length)
  case atStart => exact ⟨1, by omega, by omega, rfl, rfl, rfl, rfl⟩
  case round =>
    obtain ⟨i, hi1, hi, rfl, rfl, rfl, rfl⟩ := hrel
    by_cases hlt : i < ws.length
    · have hlti : (i : Int) < (ws.length : Int) := by omega
      have h0i : (0 : Int) ≤ (i : Int) := by omega
      obtain ⟨b', o', he, c1⟩ := WsAt.get HF.out i hlt
      injection he with he
      injection he with e2 e3
      subst e2 e3
      have HS1 := Lib.hid (HS.out i hlt)
      go_wp2_with fail
      go_roundg (ws.length - (i + 1))
      case measure => omega
      case rel => exact ⟨i + 1, by omega, by omega, by rw [max_if, ← HS1.out], by go_num, by simp, rfl⟩
    · obtain rfl : i = ws.length := by omega
      go_wp2_with fail
      go_ret
      exact ⟨rfl, rfl⟩

set_option maxHeartbeats 1000000 in
theorem mayW_any (a : Option Addr) (cap : Nat) (ws : List Int) (w : World) (hf : WsAt w a cap ws) :
    Calls Tryd.prog 35 #[.slice a ws.length cap] w fun e w' => e = .returned (.bool (decide (MayW ws))) ∧ w = w' := by
  by_cases h0 : ws.length = 0
  · have HR : Hid (decide (MayW ws) = false) := Lib.hid (by rw [decide_eq_false_iff_not]; exact fun h => by have := h.1; omega)
    have e0 : ((ws.length : Int) == 0) = true := by rw [h0]; rfl
    clear hf h0
    go_enter Tryd.func35, Tryd.ntmps35
    go_wp2_with fail
    go_ret
    exact ⟨by rw [HR.out]; rfl, rfl⟩
  have e0 : ((ws.length : Int) == 0) = false := by rw [beq_eq_false_iff_ne]; omega
  by_cases h16 : 16 < ws.length
  · have HR : Hid (decide (MayW ws) = false) := Lib.hid (by rw [decide_eq_false_iff_not]; exact fun h => by have := h.2.1; omega)
    have e1 : (16 : Int) < (ws.length : Int) := by omega
    clear hf
    go_enter Tryd.func35, Tryd.ntmps35
    go_wp2_with fail
    go_ret
    exact ⟨by rw [HR.out]; rfl, rfl⟩
  have e1 : ¬ (16 : Int) < (ws.length : Int) := by omega
  have hmin := min_any a cap ws w hf (by omega)
  have hmax := max_any a cap ws w hf (by omega)
  rw [mayW_is (by omega) (by omega)]
  generalize minK ws ws.length = y at *
  generalize maxK ws ws.length = z at *
  clear hf
  obtain ⟨q, hq⟩ : ∃ q, (decide (0 ≤ y) && decide (0 < z) && decide (z ≤ 4)) = q := ⟨_, rfl⟩
  rw [hq]
  have HQ := Lib.hid hq
  clear hq
  by_cases h1 : 0 ≤ y
  · have H1 := Lib.hid h1
    by_cases h2 : 0 < z
    · have H2 := Lib.hid h2
      by_cases h3 : z ≤ 4
      · have H3 := Lib.hid h3
        go_enter Tryd.func35, Tryd.ntmps35
        go_wp2_with (first | (go_at_call 46; refine hmin.mono ?_; rintro e w1 ⟨rfl, rfl⟩) | (go_at_call 47; refine hmax.mono ?_; rintro e w1 ⟨rfl, rfl⟩))
        go_ret
        exact ⟨ret_bool (by rw [← HQ.out]; simp [H1.out, H2.out, H3.out]), rfl⟩
      · have H3 := Lib.hid h3
        go_enter Tryd.func35, Tryd.ntmps35
        go_wp2_with (first | (go_at_call 46; refine hmin.mono ?_; rintro e w1 ⟨rfl, rfl⟩) | (go_at_call 47; refine hmax.mono ?_; rintro e w1 ⟨rfl, rfl⟩))
        go_ret
        exact ⟨ret_bool (by rw [← HQ.out]; simp [H1.out, H2.out]), rfl⟩
    · have H2 := Lib.hid h2
      go_enter Tryd.func35, Tryd.ntmps35
      go_wp2_with (first | (go_at_call 46; refine hmin.mono ?_; rintro e w1 ⟨rfl, rfl⟩) | (go_at_call 47; refine hmax.mono ?_; rintro e w1 ⟨rfl, rfl⟩))
      go_ret
      exact ⟨ret_bool (by rw [← HQ.out, decide_eq_false (show ¬ 0 < z by have := H2.out; omega), Bool.and_false, Bool.false_and]), rfl⟩
  · have H1 := Lib.hid h1
    go_enter Tryd.func35, Tryd.ntmps35
    go_wp2_with (first | (go_at_call 46; refine hmin.mono ?_; rintro e w1 ⟨rfl, rfl⟩) | (go_at_call 47; refine hmax.mono ?_; rintro e w1 ⟨rfl, rfl⟩))
    go_ret
    exact ⟨ret_bool (by rw [← HQ.out, decide_eq_false (show ¬ 0 ≤ y by have := H1.out; omega), Bool.false_and, Bool.false_and]), rfl⟩

end Go.Proofs.YtkcccfllkgjdiaaDoor.Rg
