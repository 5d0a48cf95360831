/-
  table.Get, walked: what holds at its two labels.
-/
import Derived.Test.YtkcccfllkgjdiaaDoorTlMove
import Derived.Test.YtkcccfllkgjdiaaDoorOctT
namespace Go.Proofs.YtkcccfllkgjdiaaDoor.Tl
open Go.RowKit Rg
set_option linter.unusedVariables false

theorem nodesQ_stop {bad : Bool} {n : Nat} (h : bad = true ∨ n = 0) (L : List Int) (l : List UInt8) : nodesQ bad n L l = (L, l, bad) := by
  unfold nodesQ
  cases bad
  · rcases h with h | rfl
    · cases h
    · rfl
  · rfl
theorem nodesQ_step (n : Nat) (L : List Int) (l : List UInt8) : nodesQ false (n + 1) L l = nodesQ (numP 1 l).2.2 n (L ++ [((numP 1 l).1 : Int) - 1]) (numP 1 l).2.1 := by
  unfold nodesQ
  rw [if_neg (by simp), nodesP]
theorem arcsQ_stop {bad : Bool} {n : Nat} (h : bad = true ∨ n = 0) (L : List Ar) (l : List UInt8) : arcsQ bad n L l = (L, l, bad) := by
  unfold arcsQ
  cases bad
  · rcases h with h | rfl
    · cases h
    · rfl
  · rfl
theorem arcsQ_step (n : Nat) (L : List Ar) (l : List UInt8) : arcsQ false (n + 1) L l = arcsQ ((numP 4 l).2.2 || (numP 1 (numP 4 l).2.1).2.2) n (L ++ [⟨((numP 4 l).1 : Int), ((numP 1 (numP 4 l).2.1).1 : Int)⟩]) (numP 1 (numP 4 l).2.1).2.1 := by
  unfold arcsQ
  rw [if_neg (by simp), arcsP]
  rfl

abbrev RdT : TypeId := 54
/-- what the reading has made so far: the reader in block g, the table in block T, the answer's block r. -/
structure GSt (W : World) (g T : Nat) (e : Int) (w' : World) (rest : List UInt8) (bad : Bool) (va vn : Value) (A : List Ar) (N : List Int) : Prop where
  rd : Rd RdT W.heap.size w' g rest bad
  box : w'.heap[T]? = some (.cells #[.int .i64 e, va, vn] 26 (0, 0))
  oa : OwnA w' (T + 1) va A
  on : OwnW w' (T + 1) vn N
  res : w'.heap[W.heap.size]? = some (.cells #[.int .i64 0, .slice none 0 0, .slice none 0 0] 26 (0, 0))
  bel : Below W.heap.size W w'
  gr : g = W.heap.size + 1
  gt : g < T

theorem own_far {w w' : World} {b k n : Nat} {T : TypeId} {v : Value} {xs : List Value} {row : Option Nat} (h : w.ownsRow b T k v n xs) (hg : w.grownBy w' row) (hne : ∀ j, v.ownBlock = some j → row ≠ some j) : w'.ownsRow b T k v n xs := by
  refine ⟨h.1, ?_⟩
  rcases h.2 with h1 | ⟨j, cap, cur, rfl, hbj, hj, r⟩
  · exact .inl h1
  · exact .inr ⟨j, cap, cur, rfl, hbj, (hg.block j (Array.getElem?_eq_some_iff.1 hj).1 (Ne.symm (hne j rfl))).trans hj, r⟩
theorem own_apart {w : World} {b1 b2 k1 k2 n1 n2 : Nat} {T1 T2 : TypeId} {v1 v2 : Value} {xs ys : List Value} (h1 : w.ownsRow b1 T1 k1 v1 n1 xs) (h2 : w.ownsRow b2 T2 k2 v2 n2 ys) (hT : T1 ≠ T2) : ∀ j, v1.ownBlock = some j → v2.ownBlock ≠ some j := by
  intro j e1
  rcases h1.2 with ⟨rfl, _⟩ | ⟨j', cap, cur, rfl, _, hj, _⟩
  · cases e1
  · cases e1
    exact own_box h2 hj (Ne.symm hT)

/-- behind a number that was read. -/
theorem GSt.num {W : World} {g T : Nat} {e : Int} {w' w3 : World} {rest rest3 : List UInt8} {bad bad3 : Bool} {va vn : Value} {A : List Ar} {N : List Int} (h : GSt W g T e w' rest bad va vn A N) (hr : Rd RdT W.heap.size w3 g rest3 bad3) (hg : w'.grownBy w3 (some g)) : GSt W g T e w3 rest3 bad3 va vn A N := by
  have s1 := h.bel.size
  have hT := (Array.getElem?_eq_some_iff.1 h.box).1
  have hR := (Array.getElem?_eq_some_iff.1 h.res).1
  have hgr := h.gr
  have hgt := h.gt
  refine ⟨hr, (hg.block _ hT (by simp; omega)).trans h.box, own_far h.oa hg (fun j hj e => ?_), own_far h.on hg (fun j hj e => ?_), (hg.block _ hR (by simp; omega)).trans h.res, h.bel.grown hg s1 (fun k e => by cases e; omega), hgr, hgt⟩
  · cases e
    have := (World.ownsRow.lt h.oa g hj).1
    omega
  · cases e
    have := (World.ownsRow.lt h.on g hj).1
    omega
/-- a number more. -/
theorem GSt.putN {W : World} {g T : Nat} {e : Int} {w3 w4 : World} {rest : List UInt8} {bad : Bool} {va vn v4 : Value} {A : List Ar} {N M : List Int} (h : GSt W g T e w3 rest bad va vn A N) (ho : OwnW w4 (T + 1) v4 M) (hg : w3.grownBy w4 vn.ownBlock) :
    w4.heap[T]? = some (.cells #[.int .i64 e, va, vn] 26 (0, 0)) ∧ GSt W g T e (w4.setCell ⟨T, 2, none⟩ v4) rest bad va v4 A M := by
  have s1 := h.bel.size
  have hT := (Array.getElem?_eq_some_iff.1 h.box).1
  have hR := (Array.getElem?_eq_some_iff.1 h.res).1
  have hG := h.rd.lt
  have hgr := h.gr
  have hgt := h.gt
  have hlow : ∀ b, b ≤ T → w4.heap[b]? = w3.heap[b]? := fun b hb => hg.block b (by omega) (fun e => by
    have := (World.ownsRow.lt h.on b e.symm).1
    omega)
  have hbx := (hlow T (Nat.le_refl _)).trans h.box
  have hset : ∀ b, b ≠ T → (w4.setCell ⟨T, 2, none⟩ v4).heap[b]? = w4.heap[b]? := fun b hb => Below.heap_setCell _ _ _ _ hb
  refine ⟨hbx, h.rd.frame (fun b hb => (hset b (by omega)).trans (hlow b (by omega))) ((hset g (by omega)).trans (hlow g (by omega))), ?_, ?_, own_kept ho (fun b hb _ => hset b (by omega)), (hset _ (by omega)).trans ((hlow _ (by omega)).trans h.res), ?_, hgr, hgt⟩
  · rw [set_heap hbx]; simp
  · exact own_kept (own_far h.oa hg (fun j hj e => own_apart h.oa h.on (by decide) j hj e)) (fun b hb _ => hset b (by omega))
  · exact (h.bel.grown hg s1 (fun k e => by have := (World.ownsRow.lt h.on k e).1; omega)).setCell (p := ⟨T, 2, none⟩) (by show _ ≤ T; omega) _
/-- an arc more. -/
theorem GSt.putA {W : World} {g T : Nat} {e : Int} {w3 w4 : World} {rest : List UInt8} {bad : Bool} {va vn v4 : Value} {A M : List Ar} {N : List Int} (h : GSt W g T e w3 rest bad va vn A N) (ho : OwnA w4 (T + 1) v4 M) (hg : w3.grownBy w4 va.ownBlock) :
    w4.heap[T]? = some (.cells #[.int .i64 e, va, vn] 26 (0, 0)) ∧ GSt W g T e (w4.setCell ⟨T, 1, none⟩ v4) rest bad v4 vn M N := by
  have s1 := h.bel.size
  have hT := (Array.getElem?_eq_some_iff.1 h.box).1
  have hR := (Array.getElem?_eq_some_iff.1 h.res).1
  have hG := h.rd.lt
  have hgr := h.gr
  have hgt := h.gt
  have hlow : ∀ b, b ≤ T → w4.heap[b]? = w3.heap[b]? := fun b hb => hg.block b (by omega) (fun e => by
    have := (World.ownsRow.lt h.oa b e.symm).1
    omega)
  have hbx := (hlow T (Nat.le_refl _)).trans h.box
  have hset : ∀ b, b ≠ T → (w4.setCell ⟨T, 1, none⟩ v4).heap[b]? = w4.heap[b]? := fun b hb => Below.heap_setCell _ _ _ _ hb
  refine ⟨hbx, h.rd.frame (fun b hb => (hset b (by omega)).trans (hlow b (by omega))) ((hset g (by omega)).trans (hlow g (by omega))), ?_, own_kept ho (fun b hb _ => hset b (by omega)), ?_, (hset _ (by omega)).trans ((hlow _ (by omega)).trans h.res), ?_, hgr, hgt⟩
  · rw [set_heap hbx]; simp
  · exact own_kept (own_far h.on hg (fun j hj e => own_apart h.on h.oa (by decide) j hj e)) (fun b hb _ => hset b (by omega))
  · exact (h.bel.grown hg s1 (fun k e => by have := (World.ownsRow.lt h.oa k e).1; omega)).setCell (p := ⟨T, 1, none⟩) (by show _ ≤ T; omega) _
theorem GSt.drew {W : World} {g T : Nat} {e : Int} {w' : World} {rest : List UInt8} {bad : Bool} {va vn : Value} {A : List Ar} {N : List Int} (h : GSt W g T e w' rest bad va vn A N) : GSt W g T e w'.drew rest bad va vn A N :=
  ⟨h.rd.frame (fun _ _ => rfl) rfl, h.box, h.oa, h.on, h.res, h.bel.drew, h.gr, h.gt⟩

structure V8 where
  (a b c d e f g h : Value)
def getJ (W : World) (v0 : Value) (g : Nat) (e : Int) (b : List UInt8) (lb n : Nat) (a' : Act) (w' : World) : Prop :=
  (lb = 0 ∧ ∃ (T left : Nat) (N : List Int) (rest : List UInt8) (bad : Bool) (vn : Value) (e0 e1 e2 e3 e4 e5 e6 e7 : V8),
    a' = { tmps := List.toArray (v0 :: undef :: Value.pointer (some ⟨W.heap.size, 0, none⟩) :: Value.int .i64 0 :: Value.pointer (some ⟨g, 0, none⟩) :: Value.pointer (some ⟨T, 0, none⟩) :: Value.int .u64 left :: e0.a :: e0.b :: e0.c :: e0.d :: e0.e :: e0.f :: e0.g :: e0.h :: e1.a :: e1.b :: e1.c :: e1.d :: e1.e :: e1.f :: e1.g :: e1.h :: e2.a :: e2.b :: e2.c :: e2.d :: e2.e :: e2.f :: e2.g :: e2.h :: e3.a :: e3.b :: e3.c :: e3.d :: e3.e :: e3.f :: e3.g :: e3.h :: e4.a :: e4.b :: e4.c :: e4.d :: e4.e :: e4.f :: e4.g :: e4.h :: e5.a :: e5.b :: e5.c :: e5.d :: e5.e :: e5.f :: e5.g :: e5.h :: e6.a :: e6.b :: e6.c :: e6.d :: e6.e :: e6.f :: e6.g :: e6.h :: e7.a :: e7.b :: []), defers := [] } ∧
    n = left + 100000 ∧ GSt W g T e w' rest bad (.slice none 0 0) vn [] N ∧ nodesQ bad left N rest = midP b ∧ N.length + left ≤ 255) ∨
  (lb = 1 ∧ ∃ (T left : Nat) (A : List Ar) (N : List Int) (rest : List UInt8) (bad : Bool) (va vn : Value) (e0 e1 e2 e3 e4 e5 e6 e7 : V8),
    a' = { tmps := List.toArray (v0 :: undef :: Value.pointer (some ⟨W.heap.size, 0, none⟩) :: Value.int .i64 0 :: Value.pointer (some ⟨g, 0, none⟩) :: Value.pointer (some ⟨T, 0, none⟩) :: Value.int .u64 left :: e0.a :: e0.b :: e0.c :: e0.d :: e0.e :: e0.f :: e0.g :: e0.h :: e1.a :: e1.b :: e1.c :: e1.d :: e1.e :: e1.f :: e1.g :: e1.h :: e2.a :: e2.b :: e2.c :: e2.d :: e2.e :: e2.f :: e2.g :: e2.h :: e3.a :: e3.b :: e3.c :: e3.d :: e3.e :: e3.f :: e3.g :: e3.h :: e4.a :: e4.b :: e4.c :: e4.d :: e4.e :: e4.f :: e4.g :: e4.h :: e5.a :: e5.b :: e5.c :: e5.d :: e5.e :: e5.f :: e5.g :: e5.h :: e6.a :: e6.b :: e6.c :: e6.d :: e6.e :: e6.f :: e6.g :: e6.h :: e7.a :: e7.b :: []), defers := [] } ∧
    n = left ∧ GSt W g T e w' rest bad va vn A N ∧ N = (midP b).1 ∧ arcsQ bad left A rest = endP b ∧ A.length + left ≤ 65535)

end Go.Proofs.YtkcccfllkgjdiaaDoor.Tl
