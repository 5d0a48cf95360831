/-
  A table as plain data: which may be, its bytes, what bytes are read as.
-/
import Derived.Test.YtkcccfllkgjdiaaDoorRgLaw
import Derived.Test.YtkcccfllkgjdiaaDoorOctD
namespace Go.Proofs.YtkcccfllkgjdiaaDoor.Tl
open Go.RowKit Rg
set_option linter.unusedVariables false

/-- a table: its epoch, its arcs, each shard's node. -/
structure Ta where
  ep : Int
  arcs : List Ar
  nodes : List Int

theorem Ta.same {t u : Ta} (h1 : t.ep = u.ep) (h2 : t.arcs = u.arcs) (h3 : t.nodes = u.nodes) : t = u := by cases t; cases u; simp_all

def MayN (ns : List Int) : Prop := 1 ≤ ns.length ∧ ns.length ≤ 16 ∧ ∀ x ∈ ns, -1 ≤ x ∧ x < 4
instance (ns : List Int) : Decidable (MayN ns) := inferInstanceAs (Decidable (_ ∧ _ ∧ _))
/-- an arc whose shard there is, and is on a node. -/
def OnN (ns : List Int) (a : Ar) : Prop := a.s < ns.length ∧ ¬ ns.getD a.s.toNat 0 = -1
instance (ns : List Int) (a : Ar) : Decidable (OnN ns a) := inferInstanceAs (Decidable (_ ∧ _))
def AllOn (t : Ta) : Prop := ∀ a ∈ t.arcs, OnN t.nodes a
instance (t : Ta) : Decidable (AllOn t) := inferInstanceAs (Decidable (∀ a ∈ t.arcs, OnN t.nodes a))
def MayT (t : Ta) : Prop := (1 ≤ t.ep ∧ t.ep ≤ 1073741824) ∧ MayN t.nodes ∧ May t.arcs ∧ AllOn t
instance (t : Ta) : Decidable (MayT t) := inferInstanceAs (Decidable ((_ ∧ _) ∧ _ ∧ _ ∧ _))
theorem MayT.node {t : Ta} (h : MayT t) {x : Int} (hx : x ∈ t.nodes) : -1 ≤ x ∧ x < 4 := h.2.1.2.2 x hx
theorem MayT.shard {t : Ta} (h : MayT t) {a : Ar} (ha : a ∈ t.arcs) : 0 ≤ a.s ∧ a.s < 16 := h.2.2.1.shard ha

/-! ### bytes -/
def nodeB (x : Int) : List UInt8 := be 1 (x + 1).toNat
def arcB (a : Ar) : List UInt8 := be 4 a.f.toNat ++ be 1 a.s.toNat
def putT (t : Ta) : List UInt8 := be 4 t.ep.toNat ++ (be 1 t.nodes.length ++ (t.nodes.flatMap nodeB ++ (be 2 t.arcs.length ++ t.arcs.flatMap arcB)))
theorem nodesB_length (ns : List Int) : (ns.flatMap nodeB).length = ns.length := by
  induction ns with
  | nil => rfl
  | cons x r ih => rw [List.flatMap_cons, List.length_append, ih, nodeB, be_length, List.length_cons]; omega
theorem arcsB_length (l : List Ar) : (l.flatMap arcB).length = 5 * l.length := by
  induction l with
  | nil => rfl
  | cons x r ih => rw [List.flatMap_cons, List.length_append, ih, arcB, List.length_append, be_length, be_length, List.length_cons]; omega
theorem putT_length (t : Ta) : (putT t).length = 7 + t.nodes.length + 5 * t.arcs.length := by
  unfold putT
  simp only [List.length_append, be_length, nodesB_length, arcsB_length]
  omega

def nodesP : Nat → List Int → List UInt8 → List Int × List UInt8 × Bool
  | 0, L, l => (L, l, false)
  | n + 1, L, l => if (numP 1 l).2.2 = true then (L ++ [((numP 1 l).1 : Int) - 1], (numP 1 l).2.1, true) else nodesP n (L ++ [((numP 1 l).1 : Int) - 1]) (numP 1 l).2.1
def arcP (l : List UInt8) : Ar × List UInt8 × Bool := (⟨((numP 4 l).1 : Int), ((numP 1 (numP 4 l).2.1).1 : Int)⟩, (numP 1 (numP 4 l).2.1).2.1, (numP 4 l).2.2 || (numP 1 (numP 4 l).2.1).2.2)
def arcsP : Nat → List Ar → List UInt8 → List Ar × List UInt8 × Bool
  | 0, L, l => (L, l, false)
  | n + 1, L, l => if (arcP l).2.2 = true then (L ++ [(arcP l).1], (arcP l).2.1, true) else arcsP n (L ++ [(arcP l).1]) (arcP l).2.1
/-- epoch, how many nodes, what is left, whether it is bad. -/
def headP (b : List UInt8) : Nat × Nat × List UInt8 × Bool := ((numP 4 b).1, (numP 1 (numP 4 b).2.1).1, (numP 1 (numP 4 b).2.1).2.1, (numP 4 b).2.2 || (numP 1 (numP 4 b).2.1).2.2)
/-- as the loop goes: not at all, when it is bad at first. -/
def nodesQ (bad : Bool) (n : Nat) (L : List Int) (l : List UInt8) : List Int × List UInt8 × Bool := if bad = true then (L, l, true) else nodesP n L l
def arcsQ (bad : Bool) (n : Nat) (L : List Ar) (l : List UInt8) : List Ar × List UInt8 × Bool := if bad = true then (L, l, true) else arcsP n L l
def midP (b : List UInt8) : List Int × List UInt8 × Bool := nodesQ (headP b).2.2.2 (headP b).2.1 [] (headP b).2.2.1
def endP (b : List UInt8) : List Ar × List UInt8 × Bool := arcsQ ((midP b).2.2 || (numP 2 (midP b).2.1).2.2) (numP 2 (midP b).2.1).1 [] (numP 2 (midP b).2.1).2.1
def getP (b : List UInt8) : Ta := ⟨((headP b).1 : Int), (endP b).1, (midP b).1⟩
/-- bytes that are read whole. -/
def Whole (b : List UInt8) : Prop := (endP b).2.2 = false ∧ (endP b).2.1 = []
instance (b : List UInt8) : Decidable (Whole b) := inferInstanceAs (Decidable (_ ∧ _))

theorem nodesP_app (ns : List Int) (h : ∀ x ∈ ns, -1 ≤ x ∧ x < 4) : ∀ (L : List Int) (r : List UInt8), nodesP ns.length L (ns.flatMap nodeB ++ r) = (L ++ ns, r, false) := by
  induction ns with
  | nil => intro L r; simp [nodesP]
  | cons x t ih =>
    intro L r
    have hx := h x (List.mem_cons_self ..)
    have e := numP_app 1 (x + 1).toNat (t.flatMap nodeB ++ r)
    rw [List.flatMap_cons, List.append_assoc, List.length_cons, nodesP]
    unfold nodeB at e ⊢
    rw [e]
    simp only [Bool.false_eq_true, if_false]
    have e2 : (((x + 1).toNat % 256 ^ 1 : Nat) : Int) - 1 = x := by
      rw [Nat.mod_eq_of_lt (by omega)]; omega
    rw [e2]
    have := ih (fun y hy => h y (List.mem_cons_of_mem _ hy)) (L ++ [x]) r
    unfold nodeB at this
    rw [this]
    simp
theorem arcP_app (a : Ar) (ha : 0 ≤ a.f ∧ a.f < 4294967296) (hs : 0 ≤ a.s ∧ a.s < 16) (r : List UInt8) : arcP (arcB a ++ r) = (a, r, false) := by
  unfold arcP arcB
  rw [List.append_assoc, numP_app]
  simp only [numP_app, Bool.or_self]
  rw [Nat.mod_eq_of_lt (by omega), Nat.mod_eq_of_lt (by omega)]
  congr 1
  apply Ar.same <;> simp <;> omega
theorem arcsP_app (l : List Ar) (h : ∀ a ∈ l, (0 ≤ a.f ∧ a.f < 4294967296) ∧ 0 ≤ a.s ∧ a.s < 16) : ∀ (L : List Ar) (r : List UInt8), arcsP l.length L (l.flatMap arcB ++ r) = (L ++ l, r, false) := by
  induction l with
  | nil => intro L r; simp [arcsP]
  | cons x t ih =>
    intro L r
    have hx := h x (List.mem_cons_self ..)
    rw [List.flatMap_cons, List.append_assoc, List.length_cons, arcsP, arcP_app x hx.1 hx.2]
    simp only [Bool.false_eq_true, if_false]
    rw [ih (fun y hy => h y (List.mem_cons_of_mem _ hy))]
    simp

/-- a table's bytes are read as the table, whatever stands behind them. -/
theorem get_put {t : Ta} (h : MayT t) (hw : Wf t.arcs) (r : List UInt8) : getP (putT t ++ r) = t ∧ (endP (putT t ++ r)).2.2 = false ∧ (endP (putT t ++ r)).2.1 = r := by
  have hep := h.1
  have hn := h.2.1
  have ha := h.2.2.1
  have e1 : headP (putT t ++ r) = (t.ep.toNat, t.nodes.length, t.nodes.flatMap nodeB ++ (be 2 t.arcs.length ++ (t.arcs.flatMap arcB ++ r)), false) := by
    unfold headP putT
    simp only [List.append_assoc, numP_app, Bool.or_self]
    rw [Nat.mod_eq_of_lt (by omega), Nat.mod_eq_of_lt (by have := hn.2.1; omega)]
  have e2 : midP (putT t ++ r) = (t.nodes, be 2 t.arcs.length ++ (t.arcs.flatMap arcB ++ r), false) := by
    unfold midP nodesQ
    rw [e1]
    simp only [Bool.false_eq_true, if_false]
    rw [nodesP_app _ hn.2.2]
    simp
  have e3 : endP (putT t ++ r) = (t.arcs, r, false) := by
    unfold endP arcsQ
    rw [e2]
    simp only [numP_app, Bool.or_self, Bool.false_eq_true, if_false]
    rw [Nat.mod_eq_of_lt (by have := ha.2.1; omega), arcsP_app _ fun a hm => ⟨hw a hm, h.shard hm⟩]
    simp
  refine ⟨?_, by rw [e3], by rw [e3]⟩
  unfold getP
  rw [e1, e2, e3]
  exact Ta.same (by show ((t.ep.toNat : Nat) : Int) = t.ep; omega) rfl rfl

theorem nodesP_ok : ∀ (n : Nat) (L : List Int) (l : List UInt8), (nodesP n L l).2.2 = false → ∃ M, (nodesP n L l).1 = L ++ M ∧ M.length = n ∧ l = M.flatMap nodeB ++ (nodesP n L l).2.1 ∧ ∀ x ∈ M, -1 ≤ x ∧ x < 255 := by
  intro n
  induction n with
  | zero => intro L l h; exact ⟨[], by simp [nodesP], rfl, by simp [nodesP], by simp⟩
  | succ n ih =>
    intro L l h
    rw [nodesP] at h ⊢
    split at h
    · cases h
    · rename_i hb
      rw [if_neg hb]
      have hb : (numP 1 l).2.2 = false := by simpa using hb
      obtain ⟨M, h1, h2, h3, h4⟩ := ih _ _ h
      obtain ⟨g1, g2⟩ := numP_ok hb
      refine ⟨(((numP 1 l).1 : Int) - 1) :: M, by rw [h1]; simp, by simp [h2], ?_, ?_⟩
      · rw [List.flatMap_cons, List.append_assoc, ← h3]
        unfold nodeB
        rw [show (((numP 1 l).1 : Int) - 1 + 1).toNat = (numP 1 l).1 by omega]
        exact g1
      · intro x hx
        rcases List.mem_cons.1 hx with rfl | hx
        · omega
        · exact h4 x hx
theorem arcsP_ok : ∀ (n : Nat) (L : List Ar) (l : List UInt8), (arcsP n L l).2.2 = false → ∃ M, (arcsP n L l).1 = L ++ M ∧ M.length = n ∧ l = M.flatMap arcB ++ (arcsP n L l).2.1 ∧ Wf M := by
  intro n
  induction n with
  | zero => intro L l h; exact ⟨[], by simp [arcsP], rfl, by simp [arcsP], fun a h => by cases h⟩
  | succ n ih =>
    intro L l h
    rw [arcsP] at h ⊢
    split at h
    · cases h
    · rename_i hb
      rw [if_neg hb]
      have hb : (arcP l).2.2 = false := by simpa using hb
      obtain ⟨M, h1, h2, h3, h4⟩ := ih _ _ h
      unfold arcP at hb
      simp only [Bool.or_eq_false_iff] at hb
      obtain ⟨g1, g2⟩ := numP_ok hb.1
      obtain ⟨k1, k2⟩ := numP_ok hb.2
      refine ⟨(arcP l).1 :: M, by rw [h1]; simp, by simp [h2], ?_, ?_⟩
      · rw [List.flatMap_cons, List.append_assoc, ← h3]
        unfold arcB arcP
        simp only [Int.toNat_natCast, List.append_assoc]
        rw [← k1]
        exact g1
      · intro x hx
        rcases List.mem_cons.1 hx with rfl | hx
        · unfold arcP; simp; omega
        · exact h4 x hx

/-- what is read whole, and may be, has these bytes. -/
theorem put_get {b : List UInt8} (h : Whole b) : b = putT (getP b) ∧ Wf (getP b).arcs := by
  obtain ⟨h1, h2⟩ := h
  have hq : ((midP b).2.2 || (numP 2 (midP b).2.1).2.2) = false := by
    unfold endP arcsQ at h1
    split at h1
    · cases h1
    · rename_i hb; simpa using hb
  have he : endP b = arcsP (numP 2 (midP b).2.1).1 [] (numP 2 (midP b).2.1).2.1 := by unfold endP arcsQ; rw [hq]; simp
  simp only [Bool.or_eq_false_iff] at hq
  have hh : (headP b).2.2.2 = false := by
    have := hq.1
    unfold midP nodesQ at this
    split at this
    · cases this
    · rename_i hb; simpa using hb
  have hm : midP b = nodesP (headP b).2.1 [] (headP b).2.2.1 := by unfold midP nodesQ; rw [hh]; simp
  rw [he] at h1 h2
  obtain ⟨M, a1, a2, a3, a4⟩ := arcsP_ok _ _ _ h1
  have hm2 := hq.1
  rw [hm] at hm2
  obtain ⟨N, n1, n2, n3, n4⟩ := nodesP_ok _ _ _ hm2
  rw [← hm] at n1 n3
  rw [List.nil_append] at a1 n1
  rw [h2, List.append_nil] at a3
  obtain ⟨c1, c2⟩ := numP_ok hq.2
  have hh2 : ((numP 4 b).2.2 || (numP 1 (numP 4 b).2.1).2.2) = false := hh
  simp only [Bool.or_eq_false_iff] at hh2
  obtain ⟨d1, d2⟩ := numP_ok hh2.1
  obtain ⟨e1, e2⟩ := numP_ok hh2.2
  have hg : getP b = ⟨((headP b).1 : Int), M, N⟩ := by unfold getP; rw [he, a1, n1]
  rw [hg]
  refine ⟨?_, a4⟩
  unfold putT
  simp only [Int.toNat_natCast]
  rw [a2, n2, ← a3, ← c1, ← n3]
  show b = be 4 (numP 4 b).1 ++ (be 1 (numP 1 (numP 4 b).2.1).1 ++ (numP 1 (numP 4 b).2.1).2.1)
  rw [← e1]
  exact d1

/-! ### what is read -/
def okG (b : List UInt8) : Prop := Whole b ∧ MayT (getP b)
instance (b : List UInt8) : Decidable (okG b) := inferInstanceAs (Decidable (_ ∧ _))
def zeroT : Ta := ⟨0, [], []⟩
def gotT (b : List UInt8) : Ta := if okG b then getP b else zeroT
def gotC (b : List UInt8) : Int := if okG b then 0 else 2
theorem got_put {t : Ta} (h : MayT t) (hw : Wf t.arcs) : gotT (putT t) = t ∧ gotC (putT t) = 0 := by
  obtain ⟨h1, h2, h3⟩ := get_put h hw []
  rw [List.append_nil] at h1 h2 h3
  have hk : okG (putT t) := ⟨⟨h2, h3⟩, by rw [h1]; exact h⟩
  unfold gotT gotC
  rw [if_pos hk, if_pos hk, h1]
  exact ⟨rfl, rfl⟩
theorem not_more {t : Ta} (h : MayT t) (hw : Wf t.arcs) {r : List UInt8} (hr : r ≠ []) : gotC (putT t ++ r) = 2 := by
  obtain ⟨h1, h2, h3⟩ := get_put h hw r
  unfold gotC
  exact if_neg fun hk => hr (h3.symm.trans hk.1.2)
theorem not_cut {t : Ta} (h : MayT t) (hw : Wf t.arcs) {k : Nat} (hk : k < (putT t).length) : gotC ((putT t).take k) = 2 := by
  unfold gotC
  refine if_neg fun ho => ?_
  obtain ⟨he, hw2⟩ := put_get ho.1
  obtain ⟨g1, g2, g3⟩ := get_put ho.2 hw2 ((putT t).drop k)
  rw [← he, List.take_append_drop] at g3
  obtain ⟨_, _, h3⟩ := get_put h hw []
  rw [List.append_nil] at h3
  rw [h3] at g3
  have := congrArg List.length g3
  simp at this
  omega
/-- other bytes are another table's. -/
theorem got_other {t : Ta} (h : MayT t) (hw : Wf t.arcs) {b : List UInt8} (ho : okG b) : (getP b = t ↔ b = putT t) ∧ May (getP b).arcs := by
  obtain ⟨he, _⟩ := put_get ho.1
  refine ⟨⟨fun e => by rw [← e]; exact he, fun e => ?_⟩, ho.2.2.2.1⟩
  subst e
  have := (get_put h hw []).1
  rwa [List.append_nil] at this
theorem none_got {b : List UInt8} (h : ¬ okG b) : gotT b = zeroT ∧ gotC b = 2 := ⟨if_neg h, if_neg h⟩
theorem got_nil : ¬ okG [] := by
  intro h
  have := put_get h.1
  have := congrArg List.length this.1
  rw [putT_length] at this
  simp at this
  omega

end Go.Proofs.YtkcccfllkgjdiaaDoor.Tl
