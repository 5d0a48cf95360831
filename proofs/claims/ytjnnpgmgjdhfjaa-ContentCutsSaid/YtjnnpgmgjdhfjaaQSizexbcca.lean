/-
  size: how many items a table has, at most 201; Few.
-/
import Derived.Test.YtjnnpgmgjdhfjaaQLeafsxafcc
import Derived.Deep.LoopGhost
import Derived.IntWalk
namespace Go.Proofs.Ytjnnpgmgjdhfjaa
open Go.RowKit
set_option linter.unusedVariables false

theorem weigh_cat (l m : List It) : weigh (l ++ m) + 1 = weigh l + weigh m := by
  induction l with
  | nil => simp [weigh]; omega
  | cons x r ih => rw [List.cons_append, weigh_cons, weigh_cons]; omega
theorem weigh_upto {l : List It} {i : Nat} (hi : i < l.length) : weigh (l.take (i + 1)) = weigh (l.take i) + weigh l[i].sub := by
  have h := weigh_cat (l.take i) [l[i]]
  rw [List.take_succ_eq_append_getElem hi]
  have : weigh [l[i]] = weigh l[i].sub + 1 := by rw [weigh_cons]; simp [weigh]
  omega

/-- what size answers: from 1 to 201; up to 200 it is the table's weight. -/
def SizeR (l : List It) (w : World) (e : Ending) (w' : World) : Prop := ∃ r : Nat, 1 ≤ r ∧ r ≤ 201 ∧ e = .returned (.int .i64 r) ∧ w = w' ∧ (r ≤ 200 → weigh l = r)

def sizeRel (w : World) (l : List It) (k : Nat) (v5 v6 : Value) (wr : World) : Prop :=
  wr = w ∧ ∃ i N : Nat, i ≤ l.length ∧ k = l.length - i ∧ v5 = .int .i64 N ∧ v6 = .int .i64 i ∧ 1 ≤ N ∧ N ≤ 401 ∧ (N ≤ 200 → weigh (l.take i) = N)

set_option maxRecDepth 100000 in
set_option maxHeartbeats 4000000 in
theorem size_any : ∀ (n : Nat) {a : Option Addr} {cap : Nat} {l : List It} (_ : weigh l ≤ n) (d : Nat) (_ : d ≤ 9) (w : World) (_ : Tb w a cap l),
    Calls Try.prog 17 #[.slice a l.length cap, .int .i64 d] w (SizeR l w)
  | 0, a, cap, l, h, _, _, _, _ => by have := weigh_pos l; omega
  | n + 1, a, cap, l, hn, d, hd, w, hl => by
    have hlen := hl.len
    unfold maxLen at hlen
    by_cases h8 : 8 < (d : Int)
    · go_enter Try.func17, Try.ntmps17
      go_wp2
      go_ret
      exact ⟨201, by omega, by omega, rfl, rfl, fun h => by omega⟩
    go_enter Try.func17, Try.ntmps17
    go_wp2_with fail
    go_loopg [5, 6] l.length (sizeRel w l)
    case atStart => exact ⟨rfl, 0, 1, Nat.zero_le _, rfl, rfl, rfl, by omega, by omega, fun _ => by simp [weigh]⟩
    case round =>
      obtain ⟨rfl, i, N, hi, rfl, rfl, rfl, h1, h4, hN⟩ := hrel
      have HN := Lib.hid hN
      clear hN
      by_cases hlt : i < l.length
      · have hlti : (i : Int) < (l.length : Int) := by omega
        have h0i : (0 : Int) ≤ (i : Int) := by omega
        by_cases h200 : (N : Int) ≤ 200
        · obtain ⟨b, o, a1, cap1, rfl, _, hx, ht⟩ := hl.get hlt
          have c0 := hx.c0
          have c3 := hx.c3
          have c4 := hx.c4
          have m0 := hx.m0
          have m3 := hx.m3
          unfold maxLen at m0 m3
          have HT := Lib.hid ht
          have HW := Lib.hid (weigh_mem (List.getElem_mem hlt))
          have HX := Lib.hid hx
          have HL := Lib.hid hl
          clear ht hx hl
          by_cases h300 : 300 < (l[i].name.size : Int)
          · go_wp2_with fail
            go_ret
            exact ⟨201, by omega, by omega, rfl, rfl, fun h => by omega⟩
          by_cases h1000 : 1000 < (l[i].s.size : Int)
          · go_wp2_with fail
            go_ret
            exact ⟨201, by omega, by omega, rfl, rfl, fun h => by omega⟩
          have hs1 : IntKind.i64.wrap ((d : Int) + 1) = ((d + 1 : Nat) : Int) := by rw [IntWalk.i64_in _ (by omega)]; omega
          go_wp2_with fail
          refine (size_any n (by have := HW.out; omega) (d + 1) (by omega) _ HT.out).mono ?_
          rintro e w2 ⟨r, r1, r2, rfl, rfl, hr⟩
          have HR := Lib.hid hr
          clear hr hs1
          go_wp2_with fail
          go_roundg (l.length - (i + 1))
          case measure => omega
          case rel =>
            refine ⟨rfl, i + 1, N + r, by omega, rfl, ?_, ?_, by omega, by omega, fun h => ?_⟩
            · rw [Int.natCast_add]
            · rw [Int.natCast_add]; rfl
            · rw [weigh_upto hlt, HN.out (by omega), HR.out (by omega)]
        · go_wp2_with fail
          all_goals go_ret
          · exact ⟨201, by omega, by omega, rfl, rfl, fun h => by omega⟩
          · exact ⟨N, by omega, by omega, rfl, rfl, fun h => by omega⟩
      · have hlti : ¬ (i : Int) < (l.length : Int) := by omega
        obtain rfl : i = l.length := by omega
        have hN := HN.out
        rw [List.take_length] at hN
        by_cases h200 : (N : Int) ≤ 200
        · go_wp2_with fail
          go_ret
          exact ⟨N, by omega, by omega, rfl, rfl, hN⟩
        · go_wp2_with fail
          all_goals go_ret
          · exact ⟨201, by omega, by omega, rfl, rfl, fun h => by omega⟩
          · exact ⟨N, by omega, by omega, rfl, rfl, fun h => by omega⟩

set_option maxHeartbeats 1000000 in
/-- Few: the table's weight is at most 200 where it says so. -/
theorem few_any {a : Option Addr} {cap : Nat} {l : List It} (w : World) (hl : Tb w a cap l) :
    Calls Try.prog 7 #[.slice a l.length cap] w fun e w' => ∃ r : Bool, e = .returned (.bool r) ∧ w = w' ∧ (r = true → weigh l ≤ 200) := by
  go_enter Try.func7, Try.ntmps7
  go_wp2_with fail
  refine (size_any _ (Nat.le_refl _) 1 (by omega) _ hl).mono ?_
  rintro e w' ⟨r, r1, r2, rfl, rfl, hr⟩
  by_cases h : (r : Int) ≤ 200
  · have HR := Lib.hid hr
    clear hr
    go_wp2_with fail
    go_ret
    exact ⟨_, rfl, rfl, fun _ => by rw [HR.out (by omega)]; omega⟩
  · have HR := Lib.hid hr
    clear hr
    go_wp2_with fail
    go_ret
    exact ⟨false, by simp [*], rfl, fun h => by cases h⟩

end Go.Proofs.Ytjnnpgmgjdhfjaa
