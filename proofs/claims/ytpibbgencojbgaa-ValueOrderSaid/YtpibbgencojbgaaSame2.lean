/-
  Same of any two lists.
-/
import Derived.Test.YtpibbgencojbgaaSameW
namespace Go.Proofs.Ytpibbgencojbgaa
open Go.RowKit
set_option linter.unusedVariables false

def SameQ (l m : List It) (fresh : Prop) (w : World) (e : Ending) (w' : World) : Prop :=
  ∃ r : Bool, e = .returned (.bool r) ∧ Below w.heap.size w w' ∧ (l = m → r = true) ∧ (r = true → AlikeT l m) ∧ (fresh → r = true → l = m)

set_option maxRecDepth 100000 in
theorem same_two (fresh : Prop) {w : World} {bs : List Nat} {a b : Option Addr} {cap cap' : Nat} {l m : List It} (h : SlAt w bs a cap l) (hm : Tb w b cap' m) (hw : weigh l ≤ 100000)
    (hf : fresh → bs.Nodup ∧ ∀ x ∈ bs, ∃ c t, w.heap[x]? = some (.cells c t (0, 0))) :
    Calls Try.prog 26 #[.slice a l.length cap, .slice b m.length cap'] w (SameQ l m fresh w) := by
  by_cases hle : l.length = m.length
  · exact same_any ⟨a, cap, l, b, cap', m, bs⟩ fresh w hle ⟨h, h.lt, hm.up, hle⟩ hw hf
  · have h1 := Tb.len ⟨_, h⟩
    have h2 := hm.len
    unfold maxLen at h1 h2
    have hb : ((l.length : Int) == (m.length : Int)) = false := by rw [beq_eq_false_iff_ne]; omega
    have HL := Lib.hid hle
    clear hle h hm hf
    go_enter Try.func26, Try.ntmps26
    go_wp2_with fail
    go_step3
    go_wp2_with fail
    go_ret
    exact ⟨false, rfl, Below.refl _ _, fun e => absurd (by rw [e]) HL.out, (fun h => by cases h), fun _ h => by cases h⟩

end Go.Proofs.Ytpibbgencojbgaa
