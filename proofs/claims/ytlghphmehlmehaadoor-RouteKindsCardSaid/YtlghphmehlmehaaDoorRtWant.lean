/-
  route.wants, wanting, walked: a set of the queues that were had, beside the row that is handed back.
-/
import Derived.Test.YtlghphmehlmehaaDoorRtMayL
import Derived.Test.YtlghphmehlmehaaDoorTMatch
import Derived.Maps.OwnSet
import Derived.Maps.OwnOps
import Derived.Maps.AppendAt
namespace Go.Proofs.YtlghphmehlmehaaDoor.Rt
open Go.RowKit Top
set_option linter.unusedVariables false

set_option maxHeartbeats 400000 in
theorem wants_any (k : Int) (p key : List UInt8) (hp : p.length ≤ 1000000) (hk : key.length ≤ 1000000) (w : World) :
    Calls Tryd.prog 33 #[.int .i64 k, .string ⟨p.toArray⟩, .string ⟨key.toArray⟩] w fun e w' => e = .returned (.bool (wantB k p key)) ∧ Below w.heap.size w w' := by
  by_cases h1 : k = 1
  · subst h1
    go_enter Tryd.func33, Tryd.ntmps33
    go_wp2_with fail
    go_ret
    refine ⟨?_, Below.refl _ _⟩
    unfold wantB
    rw [if_pos rfl]
    show Ending.returned (.bool _) = .returned (.bool (p == key))
    congr 2
  have b1 : (k == 1) = false := by simpa using h1
  by_cases h3 : k = 3
  · subst h3
    have hm := Lib.hid (match_any p key hp hk)
    go_enter Tryd.func33, Tryd.ntmps33
    go_wp2_with (go_at_call 11; refine (hm.out _).mono ?_; rintro e w2 ⟨rfl, hb2⟩; have HB2 := Lib.hid hb2; clear hb2)
    go_ret
    refine ⟨?_, HB2.out⟩
    unfold wantB
    rw [if_neg h1, if_pos rfl]
    rfl
  have b3 : (k == 3) = false := by simpa using h3
  go_enter Tryd.func33, Tryd.ntmps33
  go_wp2_with fail
  go_ret
  refine ⟨?_, Below.refl _ _⟩
  unfold wantB
  rw [if_neg h1, if_neg h3]
  rfl

theorem lawS : Go.Maps.Keyed Tryd.prog 9 := Go.Maps.string_keyed Tryd.underlying9
theorem zeroU (w : World) : (zeroValue 63).run Tryd.prog w = .ok (.agg #[]) w := by kernel_rfl
/-- the set holds just these. -/
structure Had (w : World) (b n : Nat) (acc : List (List UInt8)) (D : DataW Unit) : Prop where
  own : w.ownsMap Tryd.prog 9 unitElem b n D
  has : ∀ q : List UInt8, Go.Maps.has D (.string q) = decide (q ∈ acc)
theorem Had.below {w w' : World} {b n : Nat} {acc : List (List UInt8)} {D : DataW Unit} (h : Had w b n acc D) (hb : Below w.heap.size w w') : Had w' b n acc D := by
  refine ⟨?_, h.has⟩
  obtain ⟨es, clock, he, F, hs, hD⟩ := h.own
  exact ⟨es, clock, (hb.block b h.own.lt).trans he, F, hs, hD⟩
theorem has_step {D : DataW Unit} {acc : List (List UInt8)} (hm : Go.Maps.IsMap D) (h : ∀ q : List UInt8, Go.Maps.has D (.string q) = decide (q ∈ acc)) (q0 : List UInt8) (d : DataW Unit) (q : List UInt8) :
    Go.Maps.has (D.put (.string q0) d) (.string q) = decide (q ∈ acc ++ [q0]) := by
  by_cases hq : q = q0
  · subst hq
    rw [Go.Maps.has_put_same hm (by trivial)]
    simp
  · rw [Go.Maps.has_put_other (by simpa using hq), h q]
    simp [hq]

end Go.Proofs.YtlghphmehlmehaaDoor.Rt
