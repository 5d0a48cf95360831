/-
  Frames' bytes, what bytes begin with, frames one behind the other: plain lists. Nothing of the program.
-/
import Derived.Test.YtpibbgencojbgaaLeaf4
namespace Go.Proofs.Ytpibbgencojbgaa
set_option linter.unusedVariables false

/-- a frame's bytes. -/
def putF (f : Fr) : List UInt8 := be 1 f.kind.toNat ++ be 2 f.chan.toNat ++ be 4 f.data.length ++ f.data ++ be 1 206
theorem putF_length (f : Fr) : (putF f).length = f.data.length + 8 := by simp [putF]; omega

/-- what bytes begin with. -/
inductive Nx
  | cut
  | never
  | got (f : Fr) (n : Nat)
/-- the numbers there. -/
def kd (l : List UInt8) : Nat := de (l.take 1)
def cn (l : List UInt8) : Nat := de ((l.drop 1).take 2)
def ln (l : List UInt8) : Nat := de ((l.drop 3).take 4)
def lst (l : List UInt8) : Nat := de ((l.drop (7 + ln l)).take 1)
def frm (l : List UInt8) : Fr := ⟨kd l, cn l, (l.drop 7).take (ln l)⟩
open Classical in
noncomputable def nextP (l : List UInt8) : Nx :=
  if l.length < 1 then .cut
  else if ¬ KindOk (kd l) then .never
  else if l.length < 3 then .cut
  else if ¬ FitsN (kd l) (cn l) 65535 then .never
  else if l.length < 7 then .cut
  else if ¬ FitsN (kd l) (ln l) 4096 then .never
  else if l.length < 7 + ln l then .cut
  else if l.length < 8 + ln l then .cut
  else if ¬ lst l = 206 then .never
  else .got (frm l) (8 + ln l)

theorem de_lt1 (l : List UInt8) : de (l.take 1) < 256 := by
  have h := de_lt (l.take 1)
  have : (l.take 1).length ≤ 1 := by simp; omega
  exact Nat.lt_of_lt_of_le h (Nat.pow_le_pow_right (by decide) this)
theorem de_lt2 (l : List UInt8) : de (l.take 2) < 65536 := by
  have h := de_lt (l.take 2)
  have : (l.take 2).length ≤ 2 := by simp; omega
  exact Nat.lt_of_lt_of_le h (Nat.pow_le_pow_right (n := 256) (by decide) this)
theorem de_lt4 (l : List UInt8) : de (l.take 4) < 4294967296 := by
  have h := de_lt (l.take 4)
  have : (l.take 4).length ≤ 4 := by simp; omega
  exact Nat.lt_of_lt_of_le h (Nat.pow_le_pow_right (n := 256) (by decide) this)

theorem nextP_got {l : List UInt8} {f : Fr} {n : Nat} (h : nextP l = .got f n) : f = frm l ∧ n = 8 + ln l ∧ n ≤ l.length ∧ MayF f ∧ f.data.length = ln l ∧ lst l = 206 := by
  unfold nextP at h
  repeat' split at h
  all_goals first | cases h | skip
  rename_i h1 h2 h3 h4 h5 h6 h7 h8 h9
  have hl : (frm l).data.length = ln l := by simp [frm]; omega
  refine ⟨rfl, rfl, by omega, ⟨Classical.not_not.1 h2, Classical.not_not.1 h4, ?_⟩, hl, Classical.not_not.1 h9⟩
  rw [hl]
  exact Classical.not_not.1 h6

/-! ### what a frame's bytes begin with -/
theorem kind_range {k : Int} (h : KindOk k) : 0 ≤ k ∧ k ≤ 8 := by rcases h with rfl | rfl | rfl | rfl <;> decide
theorem fits_range {k n m : Int} (h : FitsN k n m) (hm : 0 ≤ m) : 0 ≤ n ∧ n ≤ m := by rcases h with ⟨_, rfl⟩ | ⟨_, h⟩ <;> omega
theorem chan_range {k n : Int} (h : FitsN k n 65535) : 0 ≤ n ∧ n ≤ 65535 := fits_range h (by decide)
theorem len_range {k n : Int} (h : FitsN k n 4096) : 0 ≤ n ∧ n ≤ 4096 := fits_range h (by decide)

/-- bytes that begin with a frame's numbers, cut where you like behind them. -/
theorem kd_put {k : Nat} {r : List UInt8} (hk : k < 256) : kd (be 1 k ++ r) = k := by
  unfold kd
  rw [List.take_left' (by simp), de_be, Nat.mod_eq_of_lt (by omega)]
theorem cn_put {k c : Nat} {r : List UInt8} (hc : c < 65536) : cn (be 1 k ++ be 2 c ++ r) = c := by
  unfold cn
  rw [List.append_assoc, List.drop_left' (by simp), List.take_left' (by simp), de_be, Nat.mod_eq_of_lt (by omega)]
theorem ln_put {k c n : Nat} {r : List UInt8} (hn : n < 4294967296) : ln (be 1 k ++ be 2 c ++ be 4 n ++ r) = n := by
  unfold ln
  rw [List.append_assoc, List.drop_left' (by simp), List.take_left' (by simp), de_be, Nat.mod_eq_of_lt (by omega)]

/-- a frame that may be, with whatever stands behind it. -/
theorem nextP_put {f : Fr} (h : MayF f) (r : List UInt8) : nextP (putF f ++ r) = .got f (f.data.length + 8) := by
  obtain ⟨k, c, d⟩ := f
  obtain ⟨h1, h2, h3⟩ := h
  have k1 := kind_range h1
  have k2 := chan_range h2
  have k3 := len_range h3
  obtain ⟨kn, rfl⟩ : ∃ n : Nat, k = n := ⟨k.toNat, by simp only at k1; omega⟩
  obtain ⟨c', rfl⟩ : ∃ n : Nat, c = n := ⟨c.toNat, by simp only at k2; omega⟩
  simp only at h1 h2 h3 k1 k2 k3
  have e1 : kd (putF ⟨kn, c', d⟩ ++ r) = kn := by
    simp only [putF, List.append_assoc, Int.toNat_natCast]
    exact kd_put (by omega)
  have e2 : cn (putF ⟨kn, c', d⟩ ++ r) = c' := by
    have := cn_put (k := kn) (c := c') (r := be 4 d.length ++ d ++ be 1 206 ++ r) (by omega)
    simpa only [putF, List.append_assoc, Int.toNat_natCast] using this
  have e3 : ln (putF ⟨kn, c', d⟩ ++ r) = d.length := by
    have := ln_put (k := kn) (c := c') (n := d.length) (r := d ++ be 1 206 ++ r) (by omega)
    simpa only [putF, List.append_assoc, Int.toNat_natCast] using this
  have hp : putF ⟨kn, c', d⟩ ++ r = (be 1 kn ++ be 2 c' ++ be 4 d.length) ++ (d ++ (be 1 206 ++ r)) := by simp only [putF, List.append_assoc, Int.toNat_natCast]
  have hl : (putF ⟨kn, c', d⟩ ++ r).length = d.length + 8 + r.length := by rw [List.length_append, putF_length]
  have e4 : frm (putF ⟨kn, c', d⟩ ++ r) = ⟨kn, c', d⟩ := by
    unfold frm
    rw [e1, e2, e3, hp, List.drop_left' (by simp), List.take_left]
  have e5 : lst (putF ⟨kn, c', d⟩ ++ r) = 206 := by
    unfold lst
    rw [e3, hp, ← List.append_assoc, List.drop_left' (by simp; omega), List.take_left' (by simp), de_be]
  unfold nextP
  rw [hl, e1, e2, e3, e4, e5]
  rw [if_neg (by omega), if_neg (by simpa using h1), if_neg (by omega), if_neg (by simpa using h2), if_neg (by omega), if_neg (by simpa using h3), if_neg (by omega), if_neg (by omega), if_neg (by simp)]
  congr 1
  simp only []
  omega

/-! ### frames one behind the other -/
noncomputable def allP : Nat → List UInt8 → List Fr × Nat × Int
  | 0, _ => ([], 0, 0)
  | F + 1, l => if l.length = 0 then ([], 0, 0) else
    match nextP l with
    | .cut => ([], 0, 3)
    | .never => ([], 0, 501)
    | .got f n => (f :: (allP F (l.drop n)).1, n + (allP F (l.drop n)).2.1, (allP F (l.drop n)).2.2)
theorem allP_nil (F : Nat) : allP F [] = ([], 0, 0) := by cases F <;> simp [allP]
theorem allP_cut {F : Nat} {l : List UInt8} (h0 : 0 < l.length) (h : nextP l = .cut) : allP (F + 1) l = ([], 0, 3) := by
  rw [allP, if_neg (by omega), h]
theorem allP_never {F : Nat} {l : List UInt8} (h0 : 0 < l.length) (h : nextP l = .never) : allP (F + 1) l = ([], 0, 501) := by
  rw [allP, if_neg (by omega), h]
theorem allP_got {F n : Nat} {l : List UInt8} {f : Fr} (h : nextP l = .got f n) : allP (F + 1) l = (f :: (allP F (l.drop n)).1, n + (allP F (l.drop n)).2.1, (allP F (l.drop n)).2.2) := by
  have := nextP_got h
  rw [allP, if_neg (by omega), h]
theorem allP_fuel : ∀ (F G : Nat) (l : List UInt8), l.length < F → l.length < G → allP F l = allP G l
  | 0, _, _, h, _ => by omega
  | _, 0, _, _, h => by omega
  | F + 1, G + 1, l, h1, h2 => by
    by_cases h0 : l.length = 0
    · obtain rfl : l = [] := List.eq_nil_of_length_eq_zero h0
      rw [allP_nil, allP_nil]
    · cases hn : nextP l with
      | cut => rw [allP_cut (by omega) hn, allP_cut (by omega) hn]
      | never => rw [allP_never (by omega) hn, allP_never (by omega) hn]
      | got f n =>
        have hg := nextP_got hn
        rw [allP_got hn, allP_got hn, allP_fuel F G (l.drop n) (by simp; omega) (by simp; omega)]
theorem allP_data : ∀ (F : Nat) (l : List UInt8), (∀ f ∈ (allP F l).1, MayF f) ∧ (allP F l).2.1 ≤ l.length ∧ 8 * (allP F l).1.length ≤ l.length
  | 0, l => by simp [allP]
  | F + 1, l => by
    by_cases h0 : l.length = 0
    · obtain rfl : l = [] := List.eq_nil_of_length_eq_zero h0
      rw [allP_nil]
      simp
    · cases hn : nextP l with
      | cut => rw [allP_cut (by omega) hn]; simp
      | never => rw [allP_never (by omega) hn]; simp
      | got f n =>
        have hg := nextP_got hn
        have ih := allP_data F (l.drop n)
        rw [allP_got hn]
        simp only [List.length_drop] at ih
        refine ⟨fun x hx => ?_, by simp only []; omega, by simp only [List.length_cons]; omega⟩
        rcases List.mem_cons.1 hx with rfl | hx
        · exact hg.2.2.2.1
        · exact ih.1 x hx

end Go.Proofs.Ytpibbgencojbgaa
