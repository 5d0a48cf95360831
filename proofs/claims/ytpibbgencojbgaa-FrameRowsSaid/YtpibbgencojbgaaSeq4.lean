/-
  Frames one behind the other, cut somewhere: plain lists.
-/
import Derived.Test.YtpibbgencojbgaaDat4
namespace Go.Proofs.Ytpibbgencojbgaa
set_option linter.unusedVariables false

/-- frames that may be, one behind the other, and whatever behind them. -/
theorem allP_puts : ∀ (l : List Fr) (r : List UInt8) (F : Nat), (∀ f ∈ l, MayF f) → (l.flatMap putF ++ r).length < F →
    allP F (l.flatMap putF ++ r) = (l ++ (allP (r.length + 1) r).1, (l.flatMap putF).length + (allP (r.length + 1) r).2.1, (allP (r.length + 1) r).2.2)
  | [], r, F, _, hF => by
    simp only [List.flatMap_nil, List.nil_append, List.length_nil, Nat.zero_add] at *
    rw [allP_fuel F (r.length + 1) r hF (by omega)]
  | f :: l, r, 0, _, hF => by omega
  | f :: l, r, F + 1, h, hF => by
    have hf := nextP_put (h f (by simp)) (l.flatMap putF ++ r)
    have hlf := putF_length f
    rw [List.flatMap_cons, List.append_assoc] at hF ⊢
    rw [allP_got hf, List.drop_left' hlf]
    rw [List.length_append, hlf] at hF
    rw [allP_puts l r F (fun x hx => h x (by simp [hx])) (by omega)]
    simp only [List.length_append, hlf, List.cons_append]
    simp only [Nat.add_assoc]
theorem nextP_cut {f : Fr} (h : MayF f) {j : Nat} (hj : j < (putF f).length) : nextP ((putF f).take j) = .cut := by
  have hp := nextP_put h []
  rw [List.append_nil] at hp
  have hg := nextP_got hp
  have hl : ((putF f).take j).length = j := by simp; omega
  rw [putF_length] at hj
  have e1 : 1 ≤ j → kd ((putF f).take j) = kd (putF f) := fun h => by unfold kd; rw [List.take_take, Nat.min_eq_left h]
  have e2 : 3 ≤ j → cn ((putF f).take j) = cn (putF f) := fun h => by unfold cn; rw [List.drop_take, List.take_take, Nat.min_eq_left (by omega)]
  have e3 : 7 ≤ j → ln ((putF f).take j) = ln (putF f) := fun h => by unfold ln; rw [List.drop_take, List.take_take, Nat.min_eq_left (by omega)]
  obtain ⟨hf, hn, _, hm, hdl, _⟩ := hg
  have ek : f.kind = kd (putF f) := congrArg Fr.kind hf
  have ec : f.chan = cn (putF f) := congrArg Fr.chan hf
  obtain ⟨k1, k2, k3⟩ := hm
  rw [hdl] at k3
  rw [ek] at k1 k2 k3
  rw [ec] at k2
  unfold nextP
  rw [hl]
  by_cases h1 : j < 1
  · rw [if_pos h1]
  rw [if_neg h1, e1 (by omega), if_neg (Classical.not_not.2 k1)]
  by_cases h3 : j < 3
  · rw [if_pos h3]
  rw [if_neg h3, e2 (by omega), if_neg (Classical.not_not.2 k2)]
  by_cases h7 : j < 7
  · rw [if_pos h7]
  rw [if_neg h7, e3 (by omega), if_neg (Classical.not_not.2 k3)]
  by_cases h8 : j < 7 + ln (putF f)
  · rw [if_pos h8]
  rw [if_neg h8, if_pos (by omega)]
theorem nextP_kind {c : UInt8} {r : List UInt8} (h : ¬ KindOk c.toNat) : nextP (c :: r) = .never := by
  have : kd (c :: r) = c.toNat := by simp [kd, de]
  unfold nextP
  rw [this, if_neg (by simp), if_pos h]
def beat : Fr := ⟨8, 0, []⟩
theorem beat_may : MayF beat := ⟨.inr (.inr (.inr rfl)), .inl ⟨rfl, rfl⟩, .inl ⟨rfl, rfl⟩⟩
theorem beat_bytes : putF beat = [8, 0, 0, 0, 0, 0, 0, 206] := by decide

end Go.Proofs.Ytpibbgencojbgaa
