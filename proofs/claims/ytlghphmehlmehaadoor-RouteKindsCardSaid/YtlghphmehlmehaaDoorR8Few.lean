/-
  Law 8's Few, walked: what it says when it says yes.
-/
import Derived.Test.YtlghphmehlmehaaDoorR8KD
namespace Go.Proofs.YtlghphmehlmehaaDoor.Rt
open Go.RowKit Top
set_option linter.unusedVariables false

def BdFew (b : Bd) : Prop := b.ex.length ≤ 60 ∧ b.q.length ≤ 60 ∧ b.key.length ≤ 300
def FewR (l : List Bd) (w : World) (e : Ending) (w' : World) : Prop :=
  ∃ r : Bool, e = .returned (.bool r) ∧ (r = true → l.length ≤ 20 ∧ ∀ (i : Nat) (h : i < l.length), BdFew l[i]) ∧ w = w'
def few1Rel (w : World) (x : List Ex) (m : Nat) (v : Value) (wr : World) : Prop :=
  ∃ i : Nat, i ≤ x.length ∧ v = .int .i64 i ∧ m = x.length - i ∧ w = wr
def few2Rel (w : World) (l : List Bd) (m : Nat) (v : Value) (wr : World) : Prop :=
  ∃ i : Nat, i ≤ l.length ∧ (∀ (j : Nat) (h : j < i) (h' : j < l.length), BdFew l[j]) ∧ v = .int .i64 i ∧ m = l.length - i ∧ w = wr

set_option maxRecDepth 100000 in
set_option maxHeartbeats 1000000 in
theorem few_any (a : Option Addr) (ac : Nat) (x : List Ex) (c : Option Addr) (cc : Nat) (l : List Bd) (w : World) (hx : XsAt w a ac x) (hl : BsAt w c cc l) :
    Calls Tryd.prog 7 #[.slice a x.length ac, .slice c l.length cc] w (FewR l w) := by
  have HX := Lib.hid hx
  have HL := Lib.hid hl
  clear hx hl
  by_cases h18 : 18 < x.length
  · have h18' : (18 : Int) < (x.length : Int) := by omega
    go_enter Tryd.func7, Tryd.ntmps7
    go_wp2_with fail
    go_ret
    exact ⟨false, rfl, by simp, rfl⟩
  have h18' : ((18 : Int) < (x.length : Int)) = False := by simp; omega
  by_cases h20 : 20 < l.length
  · have h20' : (20 : Int) < (l.length : Int) := by omega
    go_enter Tryd.func7, Tryd.ntmps7
    go_wp2_with fail
    go_ret
    exact ⟨false, rfl, by simp, rfl⟩
  have h20' : ((20 : Int) < (l.length : Int)) = False := by simp; omega
  go_enter Tryd.func7, Tryd.ntmps7
  go_wp2_with fail
  go_loopg [5] x.length (few1Rel w x)
  case atStart => exact ⟨0, Nat.zero_le _, rfl, rfl, rfl⟩
  case round =>
    obtain ⟨i, hi, rfl, rfl, rfl⟩ := hrel
    by_cases hlt : i < x.length
    · have i1 : (i : Int) < (x.length : Int) := by omega
      have i2 : IntKind.i64.wrap ((i : Int) + 1) = (i : Int) + 1 := IntWalk.i64_in _ (by omega)
      have i3 : (0 : Int) ≤ (i : Int) := by omega
      obtain ⟨b, o, rfl, x0, x1⟩ := XsAt.get HX.out i hlt
      by_cases h60 : 60 < x[i].name.length
      · have h60' : (60 : Int) < (x[i].name.length : Int) := by omega
        go_wp2_with fail
        go_ret
        exact ⟨false, rfl, by simp, rfl⟩
      · have h60' : ((60 : Int) < (x[i].name.length : Int)) = False := by simp; omega
        go_wp2_with fail
        go_roundg (x.length - (i + 1))
        case measure => omega
        case rel => exact ⟨i + 1, by omega, rfl, rfl, rfl⟩
    · obtain rfl : i = x.length := by omega
      have i1 : ¬ ((x.length : Int) < (x.length : Int)) := by omega
      go_wp2_with fail
      go_loopg [6] l.length (few2Rel w l)
      case atStart => exact ⟨0, Nat.zero_le _, fun j h => by omega, rfl, rfl, rfl⟩
      case round =>
        obtain ⟨i, hi, hno, rfl, rfl, rfl⟩ := hrel
        have HNO := Lib.hid hno
        clear hno
        by_cases hlt : i < l.length
        · have i1 : (i : Int) < (l.length : Int) := by omega
          have i2 : IntKind.i64.wrap ((i : Int) + 1) = (i : Int) + 1 := IntWalk.i64_in _ (by omega)
          have i3 : (0 : Int) ≤ (i : Int) := by omega
          obtain ⟨b, o, rfl, c0, c1, c2, c3⟩ := BsAt.get HL.out i hlt
          by_cases h1 : 60 < l[i].ex.length
          · have h1' : (60 : Int) < (l[i].ex.length : Int) := by omega
            go_wp2_with fail
            go_ret
            exact ⟨false, rfl, by simp, rfl⟩
          have h1' : ((60 : Int) < (l[i].ex.length : Int)) = False := by simp; omega
          by_cases h2 : 60 < l[i].q.length
          · have h2' : (60 : Int) < (l[i].q.length : Int) := by omega
            go_wp2_with fail
            go_ret
            exact ⟨false, rfl, by simp, rfl⟩
          have h2' : ((60 : Int) < (l[i].q.length : Int)) = False := by simp; omega
          by_cases h3 : 300 < l[i].key.length
          · have h3' : (300 : Int) < (l[i].key.length : Int) := by omega
            go_wp2_with fail
            go_ret
            exact ⟨false, rfl, by simp, rfl⟩
          have h3' : ((300 : Int) < (l[i].key.length : Int)) = False := by simp; omega
          have HOK := Lib.hid (show BdFew l[i] from ⟨by omega, by omega, by omega⟩)
          go_wp2_with fail
          go_roundg (l.length - (i + 1))
          case measure => omega
          case rel =>
            refine ⟨i + 1, by omega, fun j h h' => ?_, rfl, rfl, rfl⟩
            by_cases hji : j = i
            · subst hji; exact HOK.out
            · exact HNO.out j (by omega) h'
        · obtain rfl : i = l.length := by omega
          have i1 : ¬ ((l.length : Int) < (l.length : Int)) := by omega
          go_wp2_with fail
          go_ret
          exact ⟨true, rfl, fun _ => ⟨by omega, fun j hj => HNO.out j hj hj⟩, rfl⟩

end Go.Proofs.YtlghphmehlmehaaDoor.Rt
