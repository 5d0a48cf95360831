/-
  alike.
-/
import Derived.Test.YtpibbgencojbgaaMay
namespace Go.Proofs.Ytpibbgencojbgaa
open Go.RowKit
set_option linter.unusedVariables false

/-- two items are the same but for the items within. -/
def Alike (x y : It) : Prop := x.name = y.name ∧ x.kind = y.kind ∧ x.n = y.n ∧ x.s = y.s ∧ x.sub.length = y.sub.length

set_option maxRecDepth 100000 in
set_option maxHeartbeats 4000000 in
theorem alike_core (n1 n2 : ByteArray) (k1 k2 m1 m2 : Int) (s1 s2 : ByteArray) (p q : Nat) (hp : p ≤ maxLen) (hq : q ≤ maxLen) (a b : Option Addr) (cap cap' : Nat) (w : World) :
    Calls Try.prog 52 #[.agg #[.string n1, .int .i64 k1, .int .i64 m1, .string s1, .slice a p cap], .agg #[.string n2, .int .i64 k2, .int .i64 m2, .string s2, .slice b q cap']] w
      (SaysB (n1 = n2 ∧ k1 = k2 ∧ m1 = m2 ∧ s1 = s2 ∧ p = q) w) := by
  unfold maxLen at hp hq
  have hbel : ∀ o o' : Obj, Below w.heap.size w ((w.alloc o).alloc o') := fun o o' => ((Below.refl _ _).alloc (Nat.le_refl _) _).alloc (by simp) _
  have HB := Lib.hid hbel
  clear hbel
  by_cases h1 : n1 = n2
  · have hb1 := beq_str h1
    have H1 := Lib.hid h1
    clear h1
    by_cases h2 : k1 = k2
    · have hb2 : (k1 == k2) = true := by simpa using h2
      have H2 := Lib.hid h2
      clear h2
      by_cases h3 : m1 = m2
      · have hb3 : (m1 == m2) = true := by simpa using h3
        have H3 := Lib.hid h3
        clear h3
        by_cases h4 : s1 = s2
        · have hb4 := beq_str h4
          have H4 := Lib.hid h4
          clear h4
          by_cases h5 : p = q
          · subst h5
            go_enter Try.func52, Try.ntmps52
            go_wp2
            all_goals
              go_ret
              exact ⟨true, ⟨fun _ => ⟨H1.out, H2.out, H3.out, H4.out, by simp⟩, fun _ => rfl⟩, rfl, HB.out _ _⟩
          · have hb5 : ((p : Int) == (q : Int)) = false := by rw [beq_eq_false_iff_ne]; omega
            have H5 := Lib.hid h5
            clear h5
            go_enter Try.func52, Try.ntmps52
            go_wp2
            all_goals
              go_ret
              exact ⟨false, ⟨(fun h => by cases h), fun h => absurd h.2.2.2.2 H5.out⟩, rfl, HB.out _ _⟩
        · have hb4 := bne_str h4
          have H4 := Lib.hid h4
          clear h4
          go_enter Try.func52, Try.ntmps52
          go_wp2
          all_goals
            go_ret
            exact ⟨false, ⟨(fun h => by cases h), fun h => absurd h.2.2.2.1 H4.out⟩, rfl, HB.out _ _⟩
      · have hb3 : (m1 == m2) = false := by simpa using h3
        have H3 := Lib.hid h3
        clear h3
        go_enter Try.func52, Try.ntmps52
        go_wp2
        all_goals
          go_ret
          exact ⟨false, ⟨(fun h => by cases h), fun h => absurd h.2.2.1 H3.out⟩, rfl, HB.out _ _⟩
    · have hb2 : (k1 == k2) = false := by simpa using h2
      have H2 := Lib.hid h2
      clear h2
      go_enter Try.func52, Try.ntmps52
      go_wp2
      all_goals
        go_ret
        exact ⟨false, ⟨(fun h => by cases h), fun h => absurd h.2.1 H2.out⟩, rfl, HB.out _ _⟩
  · have hb1 := bne_str h1
    have H1 := Lib.hid h1
    clear h1
    go_enter Try.func52, Try.ntmps52
    go_wp2
    all_goals
      go_ret
      exact ⟨false, ⟨(fun h => by cases h), fun h => absurd h.1 H1.out⟩, rfl, HB.out _ _⟩

theorem alike_any (x y : It) (a b : Option Addr) (cap cap' : Nat) (w : World) (hx : x.sub.length ≤ maxLen) (hy : y.sub.length ≤ maxLen) :
    Calls Try.prog 52 #[.agg #[.string x.name, .int .i64 x.kind, .int .i64 x.n, .string x.s, .slice a x.sub.length cap], .agg #[.string y.name, .int .i64 y.kind, .int .i64 y.n, .string y.s, .slice b y.sub.length cap']] w (SaysB (Alike x y) w) :=
  alike_core _ _ _ _ _ _ _ _ _ _ hx hy a b cap cap' w

end Go.Proofs.Ytpibbgencojbgaa
