/-
  Tables as plain data: which may be, their bytes, and what bytes are read as; no program here.
  A table in memory: how a slice of items reads as plain data, what keeps the reading, and that an argument reads so.
-/
import Derived.Test.YtiobcgolcoocnaaGreatDoorOctD
import Derived.Test.YtiobcgolcoocnaaGreatDoorBy
import Derived.Deep.Draws

namespace Go.Proofs.YtiobcgolcoocnaaGreatDoor
set_option linter.unusedVariables false

/-- an item: its name, and its value's four parts. -/
inductive It where
  | mk (name : ByteArray) (kind n : Int) (s : ByteArray) (sub : List It)

namespace It
def name : It → ByteArray | mk a _ _ _ _ => a
def kind : It → Int | mk _ k _ _ _ => k
def n : It → Int | mk _ _ n _ _ => n
def s : It → ByteArray | mk _ _ _ s _ => s
def sub : It → List It | mk _ _ _ _ l => l
@[simp] theorem name_mk (a : ByteArray) (k n : Int) (s : ByteArray) (l : List It) : (It.mk a k n s l).name = a := rfl
@[simp] theorem kind_mk (a : ByteArray) (k n : Int) (s : ByteArray) (l : List It) : (It.mk a k n s l).kind = k := rfl
@[simp] theorem n_mk (a : ByteArray) (k n : Int) (s : ByteArray) (l : List It) : (It.mk a k n s l).n = n := rfl
@[simp] theorem s_mk (a : ByteArray) (k n : Int) (s : ByteArray) (l : List It) : (It.mk a k n s l).s = s := rfl
@[simp] theorem sub_mk (a : ByteArray) (k n : Int) (s : ByteArray) (l : List It) : (It.mk a k n s l).sub = l := rfl
theorem eta (x : It) : It.mk x.name x.kind x.n x.s x.sub = x := by cases x; rfl
theorem ext' {x y : It} (h1 : x.name = y.name) (h2 : x.kind = y.kind) (h3 : x.n = y.n) (h4 : x.s = y.s) (h5 : x.sub = y.sub) : x = y := by
  cases x; cases y; simp_all
end It

/-- how many items there are in all, one more for the list itself. -/
def weigh : List It → Nat
  | [] => 1
  | .mk _ _ _ _ sub :: r => weigh sub + weigh r
theorem weigh_pos : ∀ l : List It, 0 < weigh l
  | [] => by simp [weigh]
  | .mk _ _ _ _ sub :: r => by have := weigh_pos r; simp only [weigh]; omega
theorem weigh_cons (x : It) (r : List It) : weigh (x :: r) = weigh x.sub + weigh r := by cases x; simp [weigh]
theorem weigh_mem : ∀ {l : List It} {x : It}, x ∈ l → weigh x.sub < weigh l
  | [], x, h => by simp at h
  | y :: r, x, h => by
    rw [weigh_cons]
    rcases List.mem_cons.1 h with rfl | h
    · have := weigh_pos r; omega
    · have := weigh_mem h; omega

/-- names within a table: of 1 to 40 bytes, all unlike. -/
def Named (l : List It) : Prop := ∀ (i : Nat) (h : i < l.length), 1 ≤ l[i].name.size ∧ l[i].name.size ≤ 40 ∧ ∀ (j : Nat) (hj : j < i), (l[j]'(by omega)).name ≠ l[i].name

mutual
/-- an item's value may be; a table within it stands so deep. -/
def It.May (d : Nat) : It → Prop
  | .mk _ k n s sub =>
    (k = 0 ∧ n = 0 ∧ s.size = 0 ∧ sub = []) ∨ (k = 1 ∧ (n = 0 ∨ n = 1) ∧ s.size = 0 ∧ sub = []) ∨
    (k = 2 ∧ (-2147483648 ≤ n ∧ n ≤ 2147483647) ∧ s.size = 0 ∧ sub = []) ∨ (k = 3 ∧ s.size = 0 ∧ sub = []) ∨
    (k = 4 ∧ n = 0 ∧ s.size ≤ 200 ∧ sub = []) ∨
    (k = 5 ∧ n = 0 ∧ s.size = 0 ∧ (d ≤ 4 ∧ sub.length ≤ 32 ∧ Named sub ∧ MayAll (d + 1) sub))
def MayAll (d : Nat) : List It → Prop
  | [] => True
  | x :: r => x.May d ∧ MayAll d r
end
/-- a table may be, so deep. -/
def MayT (d : Nat) (l : List It) : Prop := d ≤ 4 ∧ l.length ≤ 32 ∧ Named l ∧ MayAll (d + 1) l

theorem may_iff (d : Nat) (x : It) : x.May d ↔
    (x.kind = 0 ∧ x.n = 0 ∧ x.s.size = 0 ∧ x.sub = []) ∨ (x.kind = 1 ∧ (x.n = 0 ∨ x.n = 1) ∧ x.s.size = 0 ∧ x.sub = []) ∨
    (x.kind = 2 ∧ (-2147483648 ≤ x.n ∧ x.n ≤ 2147483647) ∧ x.s.size = 0 ∧ x.sub = []) ∨ (x.kind = 3 ∧ x.s.size = 0 ∧ x.sub = []) ∨
    (x.kind = 4 ∧ x.n = 0 ∧ x.s.size ≤ 200 ∧ x.sub = []) ∨ (x.kind = 5 ∧ x.n = 0 ∧ x.s.size = 0 ∧ MayT d x.sub) := by
  cases x; simp only [It.May, MayT, It.kind_mk, It.n_mk, It.s_mk, It.sub_mk]

theorem mayAll_iff (d : Nat) : ∀ l : List It, MayAll d l ↔ ∀ x ∈ l, x.May d
  | [] => by simp [MayAll]
  | x :: r => by simp [MayAll, mayAll_iff d r]

theorem named_snoc {l : List It} {x : It} : Named (l ++ [x]) ↔ Named l ∧ 1 ≤ x.name.size ∧ x.name.size ≤ 40 ∧ ∀ y ∈ l, y.name ≠ x.name := by
  constructor
  · intro h
    refine ⟨fun i hi => ?_, ?_⟩
    · obtain ⟨a, b, c⟩ := h i (by simp; omega)
      simp only [List.getElem_append_left hi] at a b c
      refine ⟨a, b, fun j hj => ?_⟩
      have := c j hj
      rwa [List.getElem_append_left (by omega)] at this
    · obtain ⟨a, b, c⟩ := h l.length (by simp)
      simp only [List.getElem_append_right (Nat.le_refl _), Nat.sub_self, List.getElem_cons_zero] at a b c
      refine ⟨a, b, fun y hy => ?_⟩
      obtain ⟨j, hj, rfl⟩ := List.getElem_of_mem hy
      have := c j hj
      rwa [List.getElem_append_left hj] at this
  · rintro ⟨h, a, b, c⟩ i hi
    by_cases hl : i < l.length
    · obtain ⟨a', b', c'⟩ := h i hl
      simp only [List.getElem_append_left hl]
      refine ⟨a', b', fun j hj => ?_⟩
      rw [List.getElem_append_left (by omega)]
      exact c' j hj
    · have he : i = l.length := by simp at hi; omega
      subst he
      simp only [List.getElem_append_right (Nat.le_refl _), Nat.sub_self, List.getElem_cons_zero]
      refine ⟨a, b, fun j hj => ?_⟩
      rw [List.getElem_append_left (by omega)]
      exact c _ (List.getElem_mem _)
theorem named_nil : Named [] := fun i h => by simp at h
theorem mayAll_snoc {d : Nat} {l : List It} {x : It} : MayAll d (l ++ [x]) ↔ MayAll d l ∧ x.May d := by
  simp only [mayAll_iff, List.mem_append, List.mem_singleton]
  constructor
  · intro h; exact ⟨fun y hy => h y (.inl hy), h x (.inr rfl)⟩
  · rintro ⟨h, hx⟩ y (hy | rfl)
    · exact h y hy
    · exact hx
/-- what holds of the first k items. -/
def Upto (d k : Nat) (l : List It) : Prop := Named (l.take k) ∧ MayAll d (l.take k)
theorem upto_zero (d : Nat) (l : List It) : Upto d 0 l := by simp [Upto, named_nil, MayAll]
theorem upto_succ {d k : Nat} {l : List It} (hk : k < l.length) : Upto d (k + 1) l ↔ Upto d k l ∧ (1 ≤ l[k].name.size ∧ l[k].name.size ≤ 40 ∧ ∀ y ∈ l.take k, y.name ≠ l[k].name) ∧ l[k].May d := by
  unfold Upto
  rw [List.take_succ_eq_append_getElem hk, named_snoc, mayAll_snoc]
  constructor
  · rintro ⟨⟨a, b⟩, c, e⟩; exact ⟨⟨a, c⟩, b, e⟩
  · rintro ⟨⟨a, c⟩, b, e⟩; exact ⟨⟨a, b⟩, c, e⟩
theorem upto_mono {d k m : Nat} {l : List It} (h : Upto d m l) (hk : k ≤ m) : Upto d k l := by
  obtain ⟨a, b⟩ := h
  refine ⟨fun i hi => ?_, ?_⟩
  · simp only [List.length_take] at hi
    obtain ⟨x, y, z⟩ := a i (by simp; omega)
    simp only [List.getElem_take] at x y z ⊢
    exact ⟨x, y, fun j hj => z j hj⟩
  · rw [mayAll_iff] at b ⊢
    intro x hx
    exact b x (List.mem_of_mem_take (show x ∈ (l.take m).take k by rw [List.take_take, Nat.min_eq_left hk]; exact hx))
theorem mayT_upto {d : Nat} {l : List It} : MayT d l ↔ d ≤ 4 ∧ l.length ≤ 32 ∧ Upto (d + 1) l.length l := by
  unfold MayT Upto; rw [List.take_length]

/-! ### bytes -/
/-- a signed number's 64 bits. -/
def u64 (n : Int) : Nat := (n % 18446744073709551616).toNat

mutual
/-- an item's bytes: its name, its value. -/
def It.put : It → List UInt8
  | .mk name k n s sub => UInt8.ofNat name.size :: name.data.toList ++
    (if k = 1 then 116 :: be 1 (u64 n) else if k = 2 then 73 :: be 4 (u64 n) else if k = 3 then 108 :: be 8 (u64 n)
     else if k = 4 then 83 :: (be 4 s.size ++ s.data.toList) else if k = 5 then 70 :: (be 4 (putAll sub).length ++ putAll sub) else [86])
def putAll : List It → List UInt8
  | [] => []
  | x :: r => x.put ++ putAll r
end
/-- a table's bytes. -/
def putT (l : List It) : List UInt8 := be 4 (putAll l).length ++ putAll l
theorem putAll_append (l m : List It) : putAll (l ++ m) = putAll l ++ putAll m := by
  induction l with
  | nil => simp [putAll]
  | cons x r ih => simp [putAll, ih]
theorem putT_length (l : List It) : (putT l).length = 4 + (putAll l).length := by simp [putT]
/-- a value's bytes. -/
def It.putV (x : It) : List UInt8 :=
  if x.kind = 1 then 116 :: be 1 (u64 x.n) else if x.kind = 2 then 73 :: be 4 (u64 x.n) else if x.kind = 3 then 108 :: be 8 (u64 x.n)
     else if x.kind = 4 then 83 :: (be 4 x.s.size ++ x.s.data.toList) else if x.kind = 5 then 70 :: putT x.sub else [86]
theorem put_eq (x : It) : x.put = UInt8.ofNat x.name.size :: x.name.data.toList ++ x.putV := by
  cases x
  simp only [It.put, It.putV, putT, It.name_mk, It.kind_mk, It.n_mk, It.s_mk, It.sub_mk]
  rfl

/-! ### what bytes are read as -/
def kindOf (c : Nat) : Int := if c = 86 then 0 else if c = 116 then 1 else if c = 73 then 2 else if c = 108 then 3 else if c = 83 then 4 else if c = 70 then 5 else -1
/-- 32 bits, signed; 64 bits, signed. -/
def sgn32 (n : Nat) : Int := if n % 4294967296 < 2147483648 then (n % 4294967296 : Nat) else (n % 4294967296 : Nat) - 4294967296
def sgn64 (n : Nat) : Int := if n % 18446744073709551616 < 9223372036854775808 then (n % 18446744073709551616 : Nat) else (n % 18446744073709551616 : Nat) - 18446744073709551616
/-- a table, its items read by f. -/
def tabP (f : List UInt8 → List It × Bool) (l : List UInt8) : List It × List UInt8 × Bool :=
  ((f (cntP 4 l).1).1, (cntP 4 l).2.1, (cntP 4 l).2.2 || (f (cntP 4 l).1).2)
/-- a value: an item without a name. -/
def valP (f : List UInt8 → List It × Bool) (nm : ByteArray) (l : List UInt8) : It × List UInt8 × Bool :=
  let k := kindOf (numP 1 l).1
  let r := (numP 1 l).2.1
  let b := (numP 1 l).2.2
  if k = 1 then (.mk nm 1 (numP 1 r).1 ByteArray.empty [], (numP 1 r).2.1, b || (numP 1 r).2.2)
  else if k = 2 then (.mk nm 2 (sgn32 (numP 4 r).1) ByteArray.empty [], (numP 4 r).2.1, b || (numP 4 r).2.2)
  else if k = 3 then (.mk nm 3 (sgn64 (numP 8 r).1) ByteArray.empty [], (numP 8 r).2.1, b || (numP 8 r).2.2)
  else if k = 4 then (.mk nm 4 0 ⟨(cntP 4 r).1.toArray⟩ [], (cntP 4 r).2.1, b || (cntP 4 r).2.2)
  else if k = 5 then (.mk nm 5 0 ByteArray.empty (tabP f r).1, (tabP f r).2.1, b || (tabP f r).2.2)
  else (.mk nm k 0 ByteArray.empty [], r, b)
def itemsP : Nat → List UInt8 → List It × Bool
  | 0, _ => ([], false)
  | f + 1, l => if l = [] then ([], false) else
    let c := cntP 1 l
    let v := valP (itemsP f) ⟨c.1.toArray⟩ c.2.1
    let r := itemsP f v.2.1
    (v.1 :: r.1, c.2.2 || v.2.2 || r.2)

theorem tabP_le (f : List UInt8 → List It × Bool) (l : List UInt8) : (tabP f l).2.1.length ≤ l.length := (cntP_le 4 l).1
theorem valP_le (f : List UInt8 → List It × Bool) (nm : ByteArray) (l : List UInt8) : (valP f nm l).2.1.length ≤ l.length := by
  have h := numP_le 1 l
  unfold valP
  simp only []
  repeat' split
  · exact Nat.le_trans (numP_le 1 _) h
  · exact Nat.le_trans (numP_le 4 _) h
  · exact Nat.le_trans (numP_le 8 _) h
  · exact Nat.le_trans (cntP_le 4 _).1 h
  · exact Nat.le_trans (tabP_le f _) h
  · exact h

theorem kindOf_one {c : Nat} (h : c < 256) {k : Int} (hk : kindOf c = k) : (k = 0 → c = 86) ∧ (k = 1 → c = 116) ∧ (k = 2 → c = 73) ∧ (k = 3 → c = 108) ∧ (k = 4 → c = 83) ∧ (k = 5 → c = 70) ∧ (k = 0 ∨ k = 1 ∨ k = 2 ∨ k = 3 ∨ k = 4 ∨ k = 5 ∨ k = -1) := by
  unfold kindOf at hk
  repeat' split at hk
  all_goals (subst hk; refine ⟨?_, ?_, ?_, ?_, ?_, ?_, ?_⟩ <;> first | omega | (intro h0; first | omega | (exfalso; revert h0; decide)))

theorem u64_nat {m : Nat} (h : m < 18446744073709551616) : u64 (m : Int) = m := by unfold u64; omega
theorem u64_sgn64 {m : Nat} (h : m < 18446744073709551616) : u64 (sgn64 m) = m := by unfold u64 sgn64; split <;> omega
theorem u64_sgn32 (m : Nat) : u64 (sgn32 m) % 4294967296 = m % 4294967296 := by unfold u64 sgn32; split <;> omega
theorem sgn32_u64 {n : Int} (h : -2147483648 ≤ n ∧ n ≤ 2147483647) : sgn32 (u64 n % 4294967296) = n := by unfold u64 sgn32; split <;> omega
theorem sgn64_u64 {n : Int} (h : -9223372036854775808 ≤ n ∧ n ≤ 9223372036854775807) : sgn64 (u64 n % 18446744073709551616) = n := by unfold u64 sgn64; split <;> omega
/-- what is read as a value that may be was its bytes. -/
theorem valP_ok {d : Nat} {f : List UInt8 → List It × Bool} {nm : ByteArray} {l : List UInt8} (hf : ∀ c, c.length < l.length → (f c).2 = false → MayT d (f c).1 → putAll (f c).1 = c)
    (h : (valP f nm l).2.2 = false) (hm : (valP f nm l).1.May d) : l = (valP f nm l).1.putV ++ (valP f nm l).2.1 ∧ (valP f nm l).1.name = nm := by
  unfold valP at h hm ⊢
  simp only [] at h hm ⊢
  have hb : (numP 1 l).2.2 = false := by
    revert h
    repeat' split
    all_goals (intro h; first | exact (Bool.or_eq_false_iff.1 h).1 | exact h)
  obtain ⟨h1, h2⟩ := numP_ok hb
  rw [be_one] at h1
  obtain ⟨k0, k1, k2, k3, k4, k5, k6⟩ := kindOf_one h2 rfl
  have hlt : (numP 1 l).2.1.length < l.length := by rw [congrArg List.length h1]; simp
  generalize hk : kindOf (numP 1 l).1 = k at *
  generalize (numP 1 l).1 = c at *
  generalize hr : (numP 1 l).2.1 = r at *
  rcases k6 with rfl | rfl | rfl | rfl | rfl | rfl | rfl
  · simp only [show ((0 : Int) = 1) = False by simp, show ((0 : Int) = 2) = False by simp, show ((0 : Int) = 3) = False by simp, show ((0 : Int) = 4) = False by simp, show ((0 : Int) = 5) = False by simp, if_false] at h hm ⊢
    obtain rfl := k0 rfl
    exact ⟨by simpa [It.putV] using h1, rfl⟩
  · simp only [if_true] at h hm ⊢
    obtain rfl := k1 rfl
    obtain ⟨h3, h4⟩ := numP_ok (Bool.or_eq_false_iff.1 h).2
    refine ⟨?_, rfl⟩
    rw [h1, It.putV]
    simp only [It.kind_mk, It.n_mk, if_true]
    rw [u64_nat (by omega)]
    conv => lhs; rw [h3]
    rfl
  · simp only [show ((2 : Int) = 1) = False by simp, if_false, if_true] at h hm ⊢
    obtain rfl := k2 rfl
    obtain ⟨h3, h4⟩ := numP_ok (Bool.or_eq_false_iff.1 h).2
    refine ⟨?_, rfl⟩
    rw [h1, It.putV]
    simp only [It.kind_mk, It.n_mk, show ((2 : Int) = 1) = False by simp, if_false, if_true]
    rw [be_mod 4 (u64 (sgn32 (numP 4 r).1)) (numP 4 r).1 (u64_sgn32 _)]
    conv => lhs; rw [h3]
    rfl
  · simp only [show ((3 : Int) = 1) = False by simp, show ((3 : Int) = 2) = False by simp, if_false, if_true] at h hm ⊢
    obtain rfl := k3 rfl
    obtain ⟨h3, h4⟩ := numP_ok (Bool.or_eq_false_iff.1 h).2
    refine ⟨?_, rfl⟩
    rw [h1, It.putV]
    simp only [It.kind_mk, It.n_mk, show ((3 : Int) = 1) = False by simp, show ((3 : Int) = 2) = False by simp, if_false, if_true]
    rw [u64_sgn64 h4]
    conv => lhs; rw [h3]
    rfl
  · simp only [show ((4 : Int) = 1) = False by simp, show ((4 : Int) = 2) = False by simp, show ((4 : Int) = 3) = False by simp, if_false, if_true] at h hm ⊢
    obtain rfl := k4 rfl
    obtain ⟨h3, h4⟩ := cntP_ok (Bool.or_eq_false_iff.1 h).2
    refine ⟨?_, rfl⟩
    rw [h1, It.putV]
    simp only [It.kind_mk, It.n_mk, It.s_mk, show ((4 : Int) = 1) = False by simp, show ((4 : Int) = 2) = False by simp, show ((4 : Int) = 3) = False by simp, if_false, if_true]
    conv => lhs; rw [h3]
    simp [ByteArray.size]
  · simp only [show ((5 : Int) = 1) = False by simp, show ((5 : Int) = 2) = False by simp, show ((5 : Int) = 3) = False by simp, show ((5 : Int) = 4) = False by simp, if_false, if_true] at h hm ⊢
    obtain rfl := k5 rfl
    have ht := (Bool.or_eq_false_iff.1 h).2
    unfold tabP at ht hm ⊢
    simp only [] at ht hm ⊢
    obtain ⟨h3, h4⟩ := cntP_ok (Bool.or_eq_false_iff.1 ht).1
    have hmt : MayT d (f (cntP 4 r).1).1 := by
      rw [may_iff] at hm
      simp only [It.kind_mk, It.sub_mk] at hm
      rcases hm with ⟨h, _⟩ | ⟨h, _⟩ | ⟨h, _⟩ | ⟨h, _⟩ | ⟨h, _⟩ | ⟨_, _, _, h⟩
      all_goals first | exact h | (exfalso; revert h; decide)
    have hp := hf _ (Nat.lt_of_le_of_lt (cntP_le 4 r).2 hlt) (Bool.or_eq_false_iff.1 ht).2 hmt
    refine ⟨?_, rfl⟩
    rw [h1, It.putV]
    simp only [It.kind_mk, It.sub_mk, show ((5 : Int) = 1) = False by simp, show ((5 : Int) = 2) = False by simp, show ((5 : Int) = 3) = False by simp, show ((5 : Int) = 4) = False by simp, if_false, if_true]
    rw [putT, hp]
    conv => lhs; rw [h3]
    simp
  · exfalso
    rw [may_iff] at hm
    simp at hm

theorem itemsP_ok : ∀ (f : Nat) (l : List UInt8), l.length < f → ∀ d, (itemsP f l).2 = false → MayAll d (itemsP f l).1 → putAll (itemsP f l).1 = l
  | 0, l, h, _ => by omega
  | f + 1, l, h, d => by
    unfold itemsP
    split
    · rename_i h0; subst h0; intro _ _; rfl
    · rename_i h0
      simp only []
      intro hb hm
      have hl : 0 < l.length := List.length_pos_iff.2 h0
      obtain ⟨b1, b2⟩ := Bool.or_eq_false_iff.1 hb
      obtain ⟨b0, b1⟩ := Bool.or_eq_false_iff.1 b1
      obtain ⟨h1, h2⟩ := cntP_ok b0
      have h3 := cntP_lt (k := 1) (by decide) hl
      have h4 := valP_le (itemsP f) ⟨(cntP 1 l).1.toArray⟩ (cntP 1 l).2.1
      simp only [MayAll] at hm
      have hv := valP_ok (d := d) (fun c hc hbc hmc => itemsP_ok f c (by omega) (d + 1) hbc hmc.2.2.2) b1 hm.1
      have hr := itemsP_ok f _ (by omega) d b2 hm.2
      rw [putAll, put_eq, hv.2, hr]
      conv => rhs; rw [h1, hv.1]
      simp [be_one, ByteArray.size]

/-- a value's bytes are read as that value. -/
theorem valP_app {d : Nat} {f : List UInt8 → List It × Bool} {x : It} (r : List UInt8) (hf : MayT d x.sub → f (putAll x.sub) = (x.sub, false)) (hm : x.May d) (hn : -9223372036854775808 ≤ x.n ∧ x.n ≤ 9223372036854775807)
    (hl : x.putV.length < 4294967296) : valP f x.name (x.putV ++ r) = (x, r, false) := by
  obtain ⟨nm, k, n, s, sub⟩ := x
  rw [may_iff] at hm
  unfold It.putV at hl ⊢
  simp only [It.name_mk, It.kind_mk, It.n_mk, It.s_mk, It.sub_mk] at hf hm hn hl ⊢
  have hnum : ∀ (c : Nat) (t : List UInt8), c < 256 → numP 1 (UInt8.ofNat c :: t) = (c, t, false) := fun c t hc => by
    have := numP_app 1 c t
    rw [be_one, Nat.mod_eq_of_lt (by simpa using hc)] at this
    exact this
  rcases hm with ⟨rfl, rfl, hs, rfl⟩ | ⟨rfl, h01, hs, rfl⟩ | ⟨rfl, h32, hs, rfl⟩ | ⟨rfl, hs, rfl⟩ | ⟨rfl, rfl, hs, rfl⟩ | ⟨rfl, rfl, hs, hsub⟩
  · have e := hnum 86 r (by decide)
    obtain rfl := empty_of_size hs
    simp only [show ((0 : Int) = 1) = False by simp, show ((0 : Int) = 2) = False by simp, show ((0 : Int) = 3) = False by simp, show ((0 : Int) = 4) = False by simp, show ((0 : Int) = 5) = False by simp, if_false]
    show valP f nm (UInt8.ofNat 86 :: r) = _
    unfold valP
    rw [e]
    rfl
  · obtain rfl := empty_of_size hs
    have e := hnum 116 (be 1 (u64 n) ++ r) (by decide)
    have e2 := numP_app 1 (u64 n) r
    simp only [if_true]
    show valP f nm (UInt8.ofNat 116 :: (be 1 (u64 n) ++ r)) = _
    unfold valP
    rw [e]
    simp only [show kindOf 116 = 1 from rfl, if_true]
    rw [e2]
    rcases h01 with rfl | rfl <;> rfl
  · obtain rfl := empty_of_size hs
    have e := hnum 73 (be 4 (u64 n) ++ r) (by decide)
    have e2 := numP_app 4 (u64 n) r
    simp only [show ((2 : Int) = 1) = False by simp, if_false, if_true]
    show valP f nm (UInt8.ofNat 73 :: (be 4 (u64 n) ++ r)) = _
    unfold valP
    rw [e]
    simp only [show kindOf 73 = 2 from rfl, show ((2 : Int) = 1) = False by simp, if_false, if_true]
    rw [e2]
    simp only [show (256 : Nat) ^ 4 = 4294967296 from rfl, sgn32_u64 h32]
    rfl
  · obtain rfl := empty_of_size hs
    have e := hnum 108 (be 8 (u64 n) ++ r) (by decide)
    have e2 := numP_app 8 (u64 n) r
    simp only [show ((3 : Int) = 1) = False by simp, show ((3 : Int) = 2) = False by simp, if_false, if_true]
    show valP f nm (UInt8.ofNat 108 :: (be 8 (u64 n) ++ r)) = _
    unfold valP
    rw [e]
    simp only [show kindOf 108 = 3 from rfl, show ((3 : Int) = 1) = False by simp, show ((3 : Int) = 2) = False by simp, if_false, if_true]
    rw [e2]
    simp only [show (256 : Nat) ^ 8 = 18446744073709551616 from rfl, sgn64_u64 hn]
    rfl
  · have e := hnum 83 (be 4 s.size ++ (s.data.toList ++ r)) (by decide)
    have e2 := cntP_app (k := 4) (c := s.data.toList) r (by rw [size_toList]; have : (256 : Nat) ^ 4 = 4294967296 := rfl; omega)
    rw [size_toList] at e2
    simp only [show ((4 : Int) = 1) = False by simp, show ((4 : Int) = 2) = False by simp, show ((4 : Int) = 3) = False by simp, if_false, if_true]
    rw [List.cons_append, List.append_assoc]
    show valP f nm (UInt8.ofNat 83 :: (be 4 s.size ++ (s.data.toList ++ r))) = _
    unfold valP
    rw [e]
    simp only [show kindOf 83 = 4 from rfl, show ((4 : Int) = 1) = False by simp, show ((4 : Int) = 2) = False by simp, show ((4 : Int) = 3) = False by simp, if_false, if_true]
    rw [e2, mk_toList]
    rfl
  · obtain rfl := empty_of_size hs
    have e := hnum 70 (putT sub ++ r) (by decide)
    simp only [show ((5 : Int) = 1) = False by simp, show ((5 : Int) = 2) = False by simp, show ((5 : Int) = 3) = False by simp, show ((5 : Int) = 4) = False by simp, if_false, if_true] at hl ⊢
    have hpl : (putAll sub).length < 4294967296 := by rw [List.length_cons, putT_length] at hl; omega
    have e2 := cntP_app (k := 4) (c := putAll sub) r (by have : (256 : Nat) ^ 4 = 4294967296 := rfl; omega)
    show valP f nm (UInt8.ofNat 70 :: (putT sub ++ r)) = _
    unfold valP tabP
    rw [e]
    simp only [show kindOf 70 = 5 from rfl, show ((5 : Int) = 1) = False by simp, show ((5 : Int) = 2) = False by simp, show ((5 : Int) = 3) = False by simp, show ((5 : Int) = 4) = False by simp, if_false, if_true]
    rw [putT, List.append_assoc, e2, hf hsub]
    rfl

/-- numbers of 64 bits, here and within. -/
inductive Fits : List It → Prop
  | mk {l : List It} : (∀ x ∈ l, -9223372036854775808 ≤ x.n ∧ x.n ≤ 9223372036854775807) → (∀ x ∈ l, Fits x.sub) → Fits l

theorem putV_le (x : It) : x.putV.length ≤ x.put.length := by rw [put_eq]; simp; omega

theorem itemsP_app : ∀ (f : Nat) (its : List It), (putAll its).length < f → f < 4294967296 → ∀ d, MayAll d its → (∀ x ∈ its, 1 ≤ x.name.size ∧ x.name.size ≤ 40) → Fits its → itemsP f (putAll its) = (its, false)
  | 0, its, h, _, _ => by omega
  | f + 1, [], h, _, d => by intro _ _ _; simp [putAll, itemsP]
  | f + 1, x :: r, h, hf, d => by
    intro hm hn ⟨hw, hs⟩
    rw [putAll] at h ⊢
    rw [List.length_append] at h
    have hx := put_eq x
    have hpx := hn x (by simp)
    have hlx : x.put.length = 1 + x.name.size + x.putV.length := by rw [hx]; simp; omega
    unfold itemsP
    rw [if_neg (by intro e; have := congrArg List.length e; rw [List.length_append, List.length_nil] at this; omega)]
    simp only [MayAll] at hm
    have e1 : cntP 1 (x.put ++ putAll r) = (x.name.data.toList, x.putV ++ putAll r, false) := by
      have := cntP_app (k := 1) (c := x.name.data.toList) (x.putV ++ putAll r) (by rw [size_toList]; have : (256 : Nat) ^ 1 = 256 := rfl; omega)
      rw [size_toList, be_one] at this
      rw [hx]
      simpa using this
    have e2 : valP (itemsP f) x.name (x.putV ++ putAll r) = (x, putAll r, false) := by
      refine valP_app (d := d) (putAll r) (fun hmt => ?_) hm.1 (hw x (by simp)) (by omega)
      have hpt : (putAll x.sub).length < f := by
        have hk : x.kind = 5 ∨ x.sub = [] := by
          rw [may_iff] at hm
          rcases hm.1 with ⟨_, _, _, h⟩ | ⟨_, _, _, h⟩ | ⟨_, _, _, h⟩ | ⟨_, _, h⟩ | ⟨_, _, _, h⟩ | ⟨h, _⟩
          all_goals first | exact .inr h | exact .inl h
        rcases hk with hk | hk
        · have : x.putV = 70 :: putT x.sub := by unfold It.putV; rw [hk]; rfl
          rw [this, List.length_cons, putT_length] at hlx
          omega
        · rw [hk]; simp [putAll]; omega
      refine itemsP_app f x.sub hpt (by omega) (d + 1) hmt.2.2.2 (fun y hy => ?_) (hs x (by simp))
      obtain ⟨i, hi, rfl⟩ := List.getElem_of_mem hy
      have := hmt.2.2.1 i hi
      exact ⟨this.1, this.2.1⟩
    have e3 := itemsP_app f r (by omega) (by omega) d hm.2 (fun y hy => hn y (by simp [hy])) ⟨fun y hy => hw y (by simp [hy]), fun y hy => hs y (by simp [hy])⟩
    rw [e1]
    simp only [mk_toList]
    rw [e2]
    simp only []
    rw [e3]
    rfl

/-- the whole: bytes of a table that may be are read as it, and as nothing else; what is read as one that may be was its bytes. -/
theorem tabP_app {l : List It} {F : Nat} (hF : (putT l).length < F) (hF2 : F < 4294967296) (hm : MayT 1 l) (hw : Fits l) : tabP (itemsP F) (putT l) = (l, [], false) := by
  have e := cntP_app (k := 4) (c := putAll l) [] (by have : (256 : Nat) ^ 4 = 4294967296 := rfl; rw [putT_length] at hF; omega)
  rw [List.append_nil] at e
  unfold tabP
  rw [putT, e]
  have h2 := itemsP_app F l (by rw [putT_length] at hF; omega) hF2 2 hm.2.2.2 (fun y hy => by
    obtain ⟨i, hi, rfl⟩ := List.getElem_of_mem hy
    have := hm.2.2.1 i hi
    exact ⟨this.1, this.2.1⟩) hw
  rw [h2]
  rfl
theorem tabP_ok {b : List UInt8} {F : Nat} (hF : b.length < F) (h1 : (tabP (itemsP F) b).2.2 = false) (h2 : (tabP (itemsP F) b).2.1 = []) (hm : MayT 1 (tabP (itemsP F) b).1) : putT (tabP (itemsP F) b).1 = b := by
  unfold tabP at h1 h2 hm ⊢
  simp only [] at h1 h2 hm ⊢
  obtain ⟨b1, b2⟩ := Bool.or_eq_false_iff.1 h1
  obtain ⟨h3, _⟩ := cntP_ok b1
  have h4 := itemsP_ok F _ (Nat.lt_of_le_of_lt (cntP_le 4 b).2 hF) 2 b2 hm.2.2.2
  rw [putT, h4]
  conv => rhs; rw [h3, h2]
  simp

/-- tables that may be of the same bytes are the same. -/
theorem putT_inj {l m : List It} (hl : MayT 1 l) (hm : MayT 1 m) (hwl : Fits l) (hwm : Fits m) (hb : (putT l).length ≤ 3000) (h : putT l = putT m) : l = m := by
  have e1 := tabP_app (F := 3001) (by omega) (by decide) hl hwl
  have e2 := tabP_app (F := 3001) (by rw [← h]; omega) (by decide) hm hwm
  rw [h, e2] at e1
  exact (Prod.mk.inj e1).1.symm

end Go.Proofs.YtiobcgolcoocnaaGreatDoor

namespace Go.Proofs.YtiobcgolcoocnaaGreatDoor
open Go.ChangeShapes Go.WideShapes Go.ChangeAt Go.RowKit Go.Deep
set_option linter.unusedVariables false

/-- an item's five cells, v the last of them. -/
structure ItAt (w : World) (b o : Nat) (x : It) (v : Value) : Prop where
  c0 : w.cell? ⟨b, o, none⟩ = some (.string x.name)
  c1 : w.cell? ⟨b, o + 1, none⟩ = some (.int .i64 x.kind)
  c2 : w.cell? ⟨b, o + 2, none⟩ = some (.int .i64 x.n)
  c3 : w.cell? ⟨b, o + 3, none⟩ = some (.string x.s)
  c4 : w.cell? ⟨b, o + 4, none⟩ = some v
  m0 : x.name.size ≤ maxLen
  k1 : -9223372036854775808 ≤ x.kind ∧ x.kind ≤ 9223372036854775807
  k2 : -9223372036854775808 ≤ x.n ∧ x.n ≤ 9223372036854775807
  m3 : x.s.size ≤ maxLen

/-- the slice at a, with room for cap, reads as l; bs: the blocks in which l and the lists within it lie. -/
inductive SlAt (w : World) : List Nat → Option Addr → Nat → List It → Prop
  | intro {a : Option Addr} {cap : Nat} {l : List It} (b o : Nat) (vs : Nat → Option Addr × Nat) (bss : Nat → List Nat)
      (hcap : l.length ≤ cap) (hmax : cap ≤ maxLen) (ha : 0 < l.length → a = some ⟨b, o, none⟩) (hfr : 0 < l.length → w.frozen? ⟨b, o, none⟩ = false)
      (hc : ∀ (i : Nat) (h : i < l.length), ItAt w b (o + i * 5) l[i] (.slice (vs i).1 l[i].sub.length (vs i).2))
      (hs : ∀ (i : Nat) (h : i < l.length), SlAt w (bss i) (vs i).1 (vs i).2 l[i].sub) :
      SlAt w ((if l.length = 0 then [] else [b]) ++ (List.range l.length).flatMap bss) a cap l

/-- .. wherever it lies. -/
def Tb (w : World) (a : Option Addr) (cap : Nat) (l : List It) : Prop := ∃ bs, SlAt w bs a cap l

theorem SlAt.lt {w : World} {bs : List Nat} {a : Option Addr} {cap : Nat} {l : List It} (h : SlAt w bs a cap l) : ∀ b ∈ bs, b < w.heap.size := by
  induction h with
  | intro b o vs bss hcap hmax ha hfr hc hs ih =>
    rename_i l
    intro x hx
    rcases List.mem_append.1 hx with hx | hx
    · split at hx
      · simp at hx
      · rename_i h0
        have := (hc 0 (by omega)).c0
        simp only [List.mem_singleton] at hx
        subst hx
        exact lt_of_cell this
    · obtain ⟨i, hi, hx⟩ := List.mem_flatMap.1 hx
      exact ih i (List.mem_range.1 hi) x hx

theorem ItAt.keep {w w' : World} {b o : Nat} {x : It} {v : Value} (h : ItAt w b o x v) (hb : w'.heap[b]? = w.heap[b]?) : ItAt w' b o x v := by
  have e : ∀ o, w'.cell? ⟨b, o, none⟩ = w.cell? ⟨b, o, none⟩ := fun o => World.cell?_of_block (w := w) (a := ⟨b, o, none⟩) hb
  exact ⟨(e _).trans h.c0, (e _).trans h.c1, (e _).trans h.c2, (e _).trans h.c3, (e _).trans h.c4, h.m0, h.k1, h.k2, h.m3⟩

/-- what is in its blocks is as it was. -/
theorem SlAt.keep {w w' : World} {bs : List Nat} {a : Option Addr} {cap : Nat} {l : List It} (h : SlAt w bs a cap l) (hk : ∀ b ∈ bs, w'.heap[b]? = w.heap[b]?) : SlAt w' bs a cap l := by
  induction h with
  | intro b o vs bss hcap hmax ha hfr hc hs ih =>
    rename_i l
    have hb : 0 < l.length → w'.heap[b]? = w.heap[b]? := fun h0 => hk b (by rw [if_neg (by omega)]; simp)
    refine .intro b o vs bss hcap hmax ha (fun h0 => ?_) (fun i h => (hc i h).keep (hb (by omega))) (fun i h => ih i h fun x hx => hk x ?_)
    · rw [World.frozen?_of_block (w := w) (a := ⟨b, o, none⟩) (hb h0)]; exact hfr h0
    · exact List.mem_append.2 (.inr (List.mem_flatMap.2 ⟨i, List.mem_range.2 h, hx⟩))
theorem SlAt.under {w w' : World} {bs : List Nat} {a : Option Addr} {cap : Nat} {l : List It} {B : Nat} (h : SlAt w bs a cap l) (hb : Below B w w') (hB : ∀ b ∈ bs, b < B) : SlAt w' bs a cap l :=
  h.keep fun b hx => hb.block b (hB b hx)
theorem Tb.below {w w' : World} {a : Option Addr} {cap : Nat} {l : List It} (h : Tb w a cap l) (hb : Below w.heap.size w w') : Tb w' a cap l := by
  obtain ⟨bs, h⟩ := h
  exact ⟨bs, h.under hb h.lt⟩
theorem Tb.drewN {w : World} {a : Option Addr} {cap : Nat} {l : List It} (h : Tb w a cap l) (n : Nat) : Tb (w.drewN n) a cap l := by
  obtain ⟨bs, h⟩ := h
  exact ⟨bs, h.keep fun _ _ => rfl⟩
theorem Tb.len {w : World} {a : Option Addr} {cap : Nat} {l : List It} (h : Tb w a cap l) : l.length ≤ cap ∧ cap ≤ maxLen := by
  obtain ⟨bs, h⟩ := h
  cases h with | intro b o vs bss hcap hmax _ _ _ _ => exact ⟨hcap, hmax⟩
theorem Tb.nil (w : World) (a : Option Addr) {cap : Nat} (h : cap ≤ maxLen) : Tb w a cap [] := by
  refine ⟨_, .intro 0 0 (fun _ => (none, 0)) (fun _ => []) (by simp) h ?_ ?_ ?_ ?_⟩ <;> simp
theorem SlAt.nil (w : World) (a : Option Addr) {cap : Nat} (h : cap ≤ maxLen) : SlAt w [] a cap [] := by
  have := SlAt.intro (w := w) (a := a) (cap := cap) (l := []) 0 0 (fun _ => (none, 0)) (fun _ => []) (by simp) h (by simp) (by simp) (by simp) (by simp)
  simpa using this
/-- an item of it. -/
theorem Tb.get {w : World} {a : Option Addr} {cap : Nat} {l : List It} (h : Tb w a cap l) {i : Nat} (hi : i < l.length) :
    ∃ b o a' cap', a = some ⟨b, o, none⟩ ∧ w.frozen? ⟨b, o, none⟩ = false ∧ ItAt w b (o + i * 5) l[i] (.slice a' l[i].sub.length cap') ∧ Tb w a' cap' l[i].sub := by
  obtain ⟨bs, h⟩ := h
  cases h with
  | intro b o vs bss hcap hmax ha hfr hc hs => exact ⟨b, o, (vs i).1, (vs i).2, ha (by omega), hfr (by omega), hc i hi, _, hs i hi⟩
/-- a beginning of it. -/
theorem Tb.take {w : World} {a : Option Addr} {cap : Nat} {l : List It} (h : Tb w a cap l) {k : Nat} (hk : k ≤ l.length) : Tb w a cap (l.take k) := by
  obtain ⟨bs, h⟩ := h
  cases h with
  | intro b o vs bss hcap hmax ha hfr hc hs =>
    have hl : (l.take k).length = k := by simp; omega
    refine ⟨_, .intro b o vs bss (by omega) hmax (fun h0 => ha (by omega)) (fun h0 => hfr (by omega)) (fun i hi => ?_) (fun i hi => ?_)⟩
    · simp only [List.getElem_take]; exact hc i (by omega)
    · simp only [List.getElem_take]; exact hs i (by omega)
/-- .. in blocks below B. -/
def TbU (w : World) (B : Nat) (a : Option Addr) (cap : Nat) (l : List It) : Prop := ∃ bs, SlAt w bs a cap l ∧ ∀ b ∈ bs, b < B
theorem Tb.up {w : World} {a : Option Addr} {cap : Nat} {l : List It} (h : Tb w a cap l) : TbU w w.heap.size a cap l := by
  obtain ⟨bs, h⟩ := h
  exact ⟨bs, h, h.lt⟩
theorem TbU.tb {w : World} {B : Nat} {a : Option Addr} {cap : Nat} {l : List It} (h : TbU w B a cap l) : Tb w a cap l := by
  obtain ⟨bs, h, _⟩ := h
  exact ⟨bs, h⟩
theorem TbU.below {w w' : World} {B : Nat} {a : Option Addr} {cap : Nat} {l : List It} (h : TbU w B a cap l) (hb : Below B w w') : TbU w' B a cap l := by
  obtain ⟨bs, h, hl⟩ := h
  exact ⟨bs, h.under hb hl, hl⟩
theorem TbU.mono {w : World} {B B' : Nat} {a : Option Addr} {cap : Nat} {l : List It} (h : TbU w B a cap l) (hB : B ≤ B') : TbU w B' a cap l := by
  obtain ⟨bs, h, hl⟩ := h
  exact ⟨bs, h, fun b hb => Nat.lt_of_lt_of_le (hl b hb) hB⟩
theorem TbU.get {w : World} {B : Nat} {a : Option Addr} {cap : Nat} {l : List It} (h : TbU w B a cap l) {i : Nat} (hi : i < l.length) :
    ∃ b o a' cap', a = some ⟨b, o, none⟩ ∧ b < B ∧ w.frozen? ⟨b, o, none⟩ = false ∧ ItAt w b (o + i * 5) l[i] (.slice a' l[i].sub.length cap') ∧ TbU w B a' cap' l[i].sub := by
  obtain ⟨bs, h, hl⟩ := h
  cases h with
  | intro b o vs bss hcap hmax ha hfr hc hs =>
    refine ⟨b, o, (vs i).1, (vs i).2, ha (by omega), hl b ?_, hfr (by omega), hc i hi, _, hs i hi, fun x hx => hl x ?_⟩
    · rw [if_neg (by omega)]; simp
    · exact List.mem_append.2 (.inr (List.mem_flatMap.2 ⟨i, List.mem_range.2 hi, hx⟩))
theorem Tb.fits {w : World} {a : Option Addr} {cap : Nat} {l : List It} (h : Tb w a cap l) : Fits l := by
  obtain ⟨bs, h⟩ := h
  induction h with
  | intro b o vs bss hcap hmax ha hfr hc hs ih =>
    refine ⟨fun x hx => ?_, fun x hx => ?_⟩
    · obtain ⟨i, hi, rfl⟩ := List.getElem_of_mem hx
      exact (hc i hi).k2
    · obtain ⟨i, hi, rfl⟩ := List.getElem_of_mem hx
      exact ih i hi

/-! ### an argument reads so -/
theorem cells_item : Tryz.prog.cellsOf 45 = 5 := by kernel_rfl
theorem cells_value : Tryz.prog.cellsOf 43 = 4 := by kernel_rfl
theorem cells_str : Tryz.prog.cellsOf 9 = 1 := by kernel_rfl
theorem cells_int : Tryz.prog.cellsOf 3 = 1 := by kernel_rfl
theorem cells_i64 : Tryz.prog.cellsOf 2 = 1 := by kernel_rfl
theorem cells_items : Tryz.prog.cellsOf 29 = 1 := by kernel_rfl

section
variable {H : Type} {enc : TypeId × Value → H} {w : World} {base : Nat} {spare : Nat → Bool} {held : Bool}

/-- how a slice's one cell reads as a table. -/
def ReadsTb (w : World) (v : Value) : Prop := ∃ (a : Option Addr) (cap : Nat) (l : List It), v = .slice a l.length cap ∧ Tb w a cap l

theorem five {α : Type} {l : List α} (h : l.length = 5) : ∃ a b c d e, l = [a, b, c, d, e] := by
  match l, h with
  | [a, b, c, d, e], _ => exact ⟨a, b, c, d, e, rfl⟩

set_option maxRecDepth 100000 in
theorem value_of {n : Nat} {c1 c2 c3 c4 : Value} {y : DataW H × List MemPlace}
    (ih : ∀ m, m ≤ n → ∀ v x, DataW.trod enc Tryz.prog w base spare held m 29 [v] = some x → w.noneFrozen x.2 → ReadsTb w v)
    (h : DataW.trod enc Tryz.prog w base spare held (n + 1) 43 [c1, c2, c3, c4] = some y) (hf : w.noneFrozen y.2) :
    ∃ k m s, c1 = .int .i64 k ∧ c2 = .int .i64 m ∧ c3 = .string s ∧ (Lit.int .i64 k).wf = true ∧ (Lit.int .i64 m).wf = true ∧ s.size ≤ maxLen ∧ ReadsTb w c4 := by
  obtain ⟨ys, m, hm, rfl, hl, hlen, hat⟩ := DataW.trod_struct Tryz.underlying43 h
  have hm : m = n := by omega
  subst hm
  have t1 := hat 0 _ rfl
  have t2 := hat 1 _ rfl
  have t3 := hat 2 _ rfl
  have t4 := hat 3 _ rfl
  simp only [List.getElem_toArray, List.getElem_cons_zero, List.getElem_cons_succ, cells_int, cells_i64, cells_str, cells_items, List.drop_zero, List.drop_succ_cons, List.take_succ_cons, List.take_zero] at t1 t2 t3 t4
  simp only [List.size_toArray, List.length_cons, List.length_nil] at hlen
  match ys, hlen with
  | [y0, y1, y2, y3], _ =>
    obtain ⟨k, e1, _, w1⟩ := DataW.trod_int Tryz.underlying3 t1
    obtain ⟨q, e2, _, w2⟩ := DataW.trod_int Tryz.underlying2 t2
    obtain ⟨s, e3, _, w3⟩ := DataW.trod_string Tryz.underlying9 t3
    have r4 := ih m (Nat.le_refl _) c4 y3 t4 (fun b off hb => hf b off (by simp [hb]))
    exact ⟨k, q, s, by simpa using e1, by simpa using e2, by simpa using e3, w1, w2, w3, r4⟩

set_option maxRecDepth 100000 in
theorem item_of {n : Nat} {cs : List Value} {y : DataW H × List MemPlace}
    (ih : ∀ m, m ≤ n → ∀ v x, DataW.trod enc Tryz.prog w base spare held m 29 [v] = some x → w.noneFrozen x.2 → ReadsTb w v)
    (hcs : cs.length = 5) (h : DataW.trod enc Tryz.prog w base spare held (n + 1) 45 cs = some y) (hf : w.noneFrozen y.2) :
    ∃ (x : It) (v : Value), cs = [.string x.name, .int .i64 x.kind, .int .i64 x.n, .string x.s, v] ∧ x.name.size ≤ maxLen ∧ (Lit.int .i64 x.kind).wf = true ∧ (Lit.int .i64 x.n).wf = true ∧ x.s.size ≤ maxLen ∧
      ∃ (a : Option Addr) (cap : Nat), v = .slice a x.sub.length cap ∧ Tb w a cap x.sub := by
  obtain ⟨c0, c1, c2, c3, c4, rfl⟩ := five hcs
  obtain ⟨ys, m, hm, rfl, hl, hlen, hat⟩ := DataW.trod_struct Tryz.underlying45 h
  have hm : m = n := by omega
  subst hm
  have t1 := hat 0 _ rfl
  have t2 := hat 1 _ rfl
  simp only [List.getElem_toArray, List.getElem_cons_zero, List.getElem_cons_succ, cells_str, cells_value, List.drop_zero, List.drop_succ_cons, List.take_succ_cons, List.take_zero] at t1 t2
  simp only [List.size_toArray, List.length_cons, List.length_nil] at hlen
  match ys, hlen with
  | [y0, y1], _ =>
    obtain ⟨nm, e1, _, w1⟩ := DataW.trod_string Tryz.underlying9 t1
    match m, t2 with
    | m' + 1, t2 =>
      obtain ⟨k, q, s, rfl, rfl, rfl, w2, w3, w4, a, cap, l, hv, ht⟩ := value_of (fun j hj => ih j (by omega)) t2 (fun b off hb => hf b off (by simp [hb]))
      exact ⟨.mk nm k q s l, c4, by simpa using e1, w1, w2, w3, w4, a, cap, hv, ht⟩

theorem tb_of : ∀ (n : Nat) (v : Value) (x : DataW H × List MemPlace), DataW.trod enc Tryz.prog w base spare held n 29 [v] = some x → w.noneFrozen x.2 → ReadsTb w v := by
  intro n
  induction n using Nat.strongRecOn with
  | _ n ih =>
  intro v x h hf
  rcases DataW.trod_slice Tryz.underlying29 h with ⟨hv, _⟩ | ⟨ad, len, cap, elems, rest, m, hn, hv, rfl, hb, hlc, hcm, hel, hat, _, _⟩
  · obtain rfl : v = .slice none 0 0 := by simpa using hv
    exact ⟨none, 0, [], rfl, Tb.nil w none (by simp [maxLen])⟩
  · obtain rfl : v = .slice (some ad) len cap := by simpa using hv
    obtain ⟨b, o, spot⟩ := ad
    have hrow : ∀ i, i < len → ∃ p : It × (Option Addr × Nat) × List Nat, spot = none ∧ ItAt w b (o + i * 5) p.1 (.slice p.2.1.1 p.1.sub.length p.2.1.2) ∧ SlAt w p.2.2 p.2.1.1 p.2.1.2 p.1.sub := by
      intro i hi
      have h1 := hat i hi
      have he : elems[i]? = some (elems[i]'(by omega)) := List.getElem?_eq_getElem (by omega)
      rw [he, Option.bind_eq_some_iff] at h1
      obtain ⟨cs, hcs, ht⟩ := h1
      rw [cells_item] at hcs
      obtain ⟨_, hl5, hcell⟩ := World.cells?_some hcs
      obtain ⟨m', rfl⟩ : ∃ m', m = m' + 1 := by
        cases m with
        | zero => simp [DataW.trod] at ht
        | succ k => exact ⟨k, rfl⟩
      · obtain ⟨it, v', rfl, w0, w1, w2, w3, a', cap', rfl, bs, hbs⟩ := item_of (fun j hj => ih j (by omega)) hl5 ht (fun b' off hb' => hf b' off (by
          simp only [List.mem_append, List.mem_flatMap]
          exact .inr ⟨_, .inl (List.getElem_mem (h := by omega)), hb'⟩))
        have hsp : spot = none := by
          have e0 := hcell 0 (by omega)
          simp only [List.getElem?_cons_zero] at e0
          have := World.cell?_spot e0
          unfold Addr.add at this
          by_cases hi0 : i * 5 = 0
          · simpa [hi0] using this
          · have : (0 : Nat) < i := by omega
            have h00 := hat 0 (by omega)
            have he0 : elems[0]? = some (elems[0]'(by omega)) := List.getElem?_eq_getElem (by omega)
            rw [he0, Option.bind_eq_some_iff] at h00
            obtain ⟨cs0, hcs0, _⟩ := h00
            simp only [cells_item] at hcs0
            obtain ⟨_, hl50, hcell0⟩ := World.cells?_some hcs0
            have e00 := hcell0 0 (by omega)
            rw [List.getElem?_eq_getElem (by omega)] at e00
            simpa [Addr.add] using World.cell?_spot e00
        subst hsp
        have hadd : ∀ j, ((⟨b, o, none⟩ : Addr).add (i * 5)).add j = ⟨b, o + i * 5 + j, none⟩ := fun j => by rw [add_at, add_at]
        have f0 := hcell 0 (by omega)
        have f1 := hcell 1 (by omega)
        have f2 := hcell 2 (by omega)
        have f3 := hcell 3 (by omega)
        have f4 := hcell 4 (by omega)
        simp only [hadd] at f0 f1 f2 f3 f4
        exact ⟨(it, (a', cap'), bs), rfl, ⟨f0, f1, f2, f3, f4, w0, in_i64 w1, in_i64 w2, w3⟩, hbs⟩
    haveI : Inhabited It := ⟨.mk ByteArray.empty 0 0 ByteArray.empty []⟩
    obtain ⟨f, hfn⟩ := choose_lt hrow
    refine ⟨some ⟨b, o, spot⟩, cap, (List.range len).map fun i => (f i).1, by simp, _, .intro b o (fun i => (f i).2.1) (fun i => (f i).2.2) (by simpa using hlc) hcm (fun h0 => ?_) (fun h0 => ?_) (fun i hi => ?_) (fun i hi => ?_)⟩
    · simp only [List.length_map, List.length_range] at h0
      rw [(hfn 0 h0).1]
    · simp only [List.length_map, List.length_range] at h0
      refine hf b o ?_
      rw [List.mem_append]
      refine .inl ?_
      have hs := (hfn 0 h0).1
      subst hs
      rw [cells_item, hel]
      simp [MemPlace.row]
      omega
    · simp only [List.length_map, List.length_range] at hi
      simp only [List.getElem_map, List.getElem_range]
      exact (hfn i hi).2.1
    · simp only [List.length_map, List.length_range] at hi
      simp only [List.getElem_map, List.getElem_range]
      exact (hfn i hi).2.2

/-- an argument that is a slice of items. -/
theorem tb_arg {v : Value} {d : DataW H} {p : List MemPlace} (h : DataW.Trod enc Tryz.prog w base spare held 29 v d p) (hv : ∃ a len cap, v = .slice a len cap) (hf : w.noneFrozen p) : ReadsTb w v := by
  obtain ⟨n, h⟩ := h
  obtain ⟨a, len, cap, rfl⟩ := hv
  exact tb_of n _ _ (by simpa [Value.cells] using h) hf
end

theorem wrap_u64_of (n : Int) : IntKind.u64.wrap n = ((u64 n : Nat) : Int) := by
  rw [IntKind.wrap_u64]; unfold u64; omega
theorem u64_lt (n : Int) : u64 n < 18446744073709551616 := by unfold u64; omega
theorem TbU.keep {w w' : World} {B : Nat} {a : Option Addr} {cap : Nat} {l : List It} (h : TbU w B a cap l) (hk : ∀ b, b < B → w'.heap[b]? = w.heap[b]?) : TbU w' B a cap l := by
  obtain ⟨bs, h, hl⟩ := h
  exact ⟨bs, h.keep fun b hb => hk b (hl b hb), hl⟩
end Go.Proofs.YtiobcgolcoocnaaGreatDoor
