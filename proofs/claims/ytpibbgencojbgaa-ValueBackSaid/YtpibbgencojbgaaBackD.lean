/-
  ValueBack: what it needs of plain data.
-/
import Derived.Test.YtpibbgencojbgaaDat
namespace Go.Proofs.Ytpibbgencojbgaa
set_option linter.unusedVariables false

/-- bytes of one beginning are of one length. -/
theorem put_head {l m : List It} (hl : (putT l).length < 4294967296) (hm : (putT m).length < 4294967296) (h : (putT m).take 4 = (putT l).take 4) : (putT m).length = (putT l).length := by
  have e : ∀ x : List It, (putT x).take 4 = be 4 (putAll x).length := fun x => by
    rw [putT, List.take_left' (by simp)]
  rw [e, e] at h
  have h2 := congrArg de h
  rw [de_be, de_be, show (256 : Nat) ^ 4 = 4294967296 from rfl] at h2
  rw [putT_length] at hl hm ⊢
  rw [putT_length]
  omega
theorem put_len4 (l : List It) : 4 ≤ (putT l).length := by rw [putT_length]; omega
/-- a beginning is no table's bytes. -/
theorem put_cut {l m : List It} {k : Nat} (hl : (putT l).length ≤ 3000) (hk : k < (putT l).length) (h : putT m = (putT l).take k) : False := by
  have h4 := put_len4 m
  have hlen := congrArg List.length h
  rw [List.length_take, Nat.min_eq_left (by omega)] at hlen
  have := put_head (l := l) (m := m) (by omega) (by omega) (by rw [h, List.take_take, Nat.min_eq_left (by omega)])
  omega
/-- nor with a byte behind. -/
theorem put_more {l m : List It} {c : UInt8} (hl : (putT l).length ≤ 3000) (h : putT m = putT l ++ [c]) : False := by
  have h4 := put_len4 l
  have hlen := congrArg List.length h
  rw [List.length_append, List.length_singleton] at hlen
  have := put_head (l := l) (m := m) (by omega) (by omega) (by rw [h, List.take_append_of_le_length h4])
  omega
/-- a table weighs no more than its bytes. -/
theorem weigh_put : ∀ (n : Nat) (l : List It), weigh l ≤ n → ∀ d, MayAll d l → weigh l ≤ 1 + (putAll l).length
  | 0, l, h => by have := weigh_pos l; omega
  | n + 1, [], _ => by intro _ _; simp [weigh]
  | n + 1, x :: r, h => by
    intro d hm
    simp only [MayAll] at hm
    have h0 := weigh_pos x.sub
    have h1 := weigh_pos r
    rw [weigh_cons] at h ⊢
    have hr := weigh_put n r (by omega) d hm.2
    have hx : weigh x.sub ≤ x.put.length := by
      have hp := put_eq x
      have hlen : x.put.length = 1 + x.name.size + x.putV.length := by rw [hp]; simp only [List.cons_append, List.length_cons, List.length_append, size_toList]; omega
      have hk : (x.kind = 5 ∧ MayT d x.sub) ∨ x.sub = [] := by
        have := hm.1
        rw [may_iff] at this
        rcases this with ⟨_, _, _, h⟩ | ⟨_, _, _, h⟩ | ⟨_, _, _, h⟩ | ⟨_, _, h⟩ | ⟨_, _, _, h⟩ | ⟨h5, _, _, hs⟩
        all_goals first | exact .inr h | exact .inl ⟨h5, hs⟩
      rcases hk with ⟨hk, hs⟩ | hk
      · have hv : x.putV = 70 :: putT x.sub := by unfold It.putV; rw [hk]; rfl
        have hsub := weigh_put n x.sub (by omega) (d + 1) hs.2.2.2
        rw [hv, List.length_cons, putT_length] at hlen
        omega
      · rw [hk]
        simp only [weigh]
        omega
    rw [putAll, List.length_append]
    omega

/-- a byte turned. -/
theorem set_same {l : List UInt8} {k : Nat} (hk : k < l.length) : l.set k (l[k] ^^^ 0) = l := by
  rw [UInt8.xor_zero, List.set_getElem_self]
theorem set_turn {l : List UInt8} {k : Nat} (hk : k < l.length) {c : UInt8} (h : l.set k (l[k] ^^^ c) = l) : c = 0 := by
  have h2 : (l.set k (l[k] ^^^ c))[k]'(by simpa using hk) = l[k] := by simp only [h]
  rw [List.getElem_set_self] at h2
  have h3 := congrArg (fun x => l[k] ^^^ x) h2
  simp only [← UInt8.xor_assoc, UInt8.xor_self, UInt8.zero_xor] at h3
  exact h3

end Go.Proofs.Ytpibbgencojbgaa
