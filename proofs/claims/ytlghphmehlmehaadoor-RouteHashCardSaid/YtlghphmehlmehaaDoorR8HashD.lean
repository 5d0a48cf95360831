/-
  Law RouteHash: what the calls in turn make of plain data.
-/
import Derived.Test.YtlghphmehlmehaaDoorR8BndD
namespace Go.Proofs.YtlghphmehlmehaaDoor.Rt
open Top
set_option linter.unusedVariables false

abbrev eh : Ex := ⟨[104], 4⟩
def hbN (f : Nat → Int) (i : Nat) : Bd := ⟨[104], [113, dgs.getD i 0], [], 1 + f i⟩
def hsN (f : Nat → Int) (n : Nat) : List Bd := (List.range n).map (hbN f)
theorem hsN_length (f : Nat → Int) (n : Nat) : (hsN f n).length = n := by simp [hsN]
theorem hsN_get (f : Nat → Int) (n i : Nat) (h : i < (hsN f n).length) : (hsN f n)[i] = hbN f i := by simp [hsN]
theorem hsN_succ (f : Nat → Int) (n : Nat) : hsN f (n + 1) = hsN f n ++ [hbN f n] := by simp [hsN, List.range_succ]
theorem hb_alike0 : ∀ i j : Fin 8, lk (hbN (fun _ => 0) i.val) (hbN (fun _ => 0) j.val) = decide (i = j) := by decide +kernel
theorem hb_alike (f : Nat → Int) (i j : Nat) (hi : i < 8) (hj : j < 8) : lk (hbN f i) (hbN f j) = decide (i = j) := by
  have := hb_alike0 ⟨i, hi⟩ ⟨j, hj⟩
  rw [show lk (hbN f i) (hbN f j) = lk (hbN (fun _ => 0) i) (hbN (fun _ => 0) j) from rfl]
  rw [this, decide_eq_decide]
  simp
theorem hb_name : ∀ i : Fin 8, MayNm [113, dgs.getD i.val 0] := by decide +kernel
theorem eh_may : MayX [eh] := by decide +kernel
theorem hs_may (f : Nat → Int) (n : Nat) (hn : n ≤ 8) (hf : ∀ i, i < n → 0 ≤ f i ∧ f i < 4) : MayR [eh] (hsN f n) := by
  refine ⟨eh_may, by rw [hsN_length]; omega, fun i hi => ?_⟩
  rw [hsN_length] at hi
  rw [hsN_get]
  have := hf i hi
  refine ⟨⟨0, (by show fnd [104] [eh] = some 0; decide), hb_name ⟨i, by omega⟩, by simp [hbN], .inl ⟨(by show kindAt [eh] 0 = 4; decide), by show 1 ≤ 1 + f i; omega, by show 1 + f i ≤ 4; omega⟩⟩, ?_⟩
  have hil : i < (hsN f n).length := by rw [hsN_length]; exact hi
  refine find_first hil ?_ fun j hj => ?_
  · rw [hsN_get, hb_alike f i i (by omega) (by omega)]; simp
  · rw [hsN_get, hb_alike f i j (by omega) (by omega)]; simp; omega
theorem bind_h (f : Nat → Int) (i : Nat) (h : i < 8) (hf : ∀ j, j < i + 1 → 0 ≤ f j ∧ f j < 4) : bindF [eh] (hsN f i) (hbN f i) = (hsN f (i + 1), 0) := by
  unfold bindF
  rw [show fnd (hbN f i).ex [eh] = some 0 by (show fnd [104] [eh] = some 0; decide)]
  rw [show alk (hbN f i) (hsN f i) = none from find_not fun j hj => by
    rw [hsN_length] at hj
    rw [hsN_get, hb_alike f i j (by omega) (by omega)]; simp; omega]
  simp only
  rw [if_pos (by rw [← hsN_succ]; exact hs_may f (i + 1) (by omega) hf), ← hsN_succ]

theorem hs_q (f : Nat → Int) (n : Nat) : ∀ b ∈ hsN f n, b.q.length ≤ 1000000 := by
  intro b hb
  simp only [hsN, List.mem_map] at hb
  obtain ⟨j, _, rfl⟩ := hb
  simp [hbN]
def lastN (s : Option (List UInt8 × Int)) : List UInt8 := match s with | none => [] | some (q, _) => q
theorem near_snoc (ex key : List UInt8) (l : List Bd) (b : Bd) : nearL ex key (l ++ [b]) = nearB ex (ofB key) (nearL ex key l) b := by
  simp [nearL, nearS, List.foldl_append]
theorem near_step (f : Nat → Int) (key : List UInt8) (i : Nat) :
    ∃ q m, nearL [104] key (hsN f (i + 1)) = some (q, m) ∧ (q = lastN (nearL [104] key (hsN f i)) ∨ q = (hbN f i).q) ∧ q ≠ [] := by
  induction i with
  | zero =>
    rw [hsN_succ, near_snoc]
    exact ⟨(hbN f 0).q, _, rfl, .inr rfl, by simp [hbN]⟩
  | succ i ih =>
    obtain ⟨q, m, h1, _, h3⟩ := ih
    rw [hsN_succ, near_snoc, h1]
    unfold nearB
    rw [if_pos (show (hbN f (i + 1)).ex = [104] from rfl)]
    by_cases hlt : wayB (ofB key) (hbN f (i + 1)) < m
    · exact ⟨(hbN f (i + 1)).q, wayB (ofB key) (hbN f (i + 1)), by simp only [hlt, if_true], .inr rfl, by simp [hbN]⟩
    · exact ⟨q, m, by simp only [hlt, if_false], .inl rfl, h3⟩

end Go.Proofs.YtlghphmehlmehaaDoor.Rt
