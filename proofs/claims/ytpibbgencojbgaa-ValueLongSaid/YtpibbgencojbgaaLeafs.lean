/-
  The small functions of package value, walked.
-/
import Derived.Test.YtpibbgencojbgaaMem
import Derived.Test.YtpibbgencojbgaaScope
import Derived.Lib.Hide
namespace Go.Proofs.Ytpibbgencojbgaa
open Go.RowKit
set_option linter.unusedVariables false

/-- where the first item of that name stands; -1. -/
def IdxOf (l : List It) (nm : ByteArray) (r : Int) : Prop :=
  (r = -1 ∧ ∀ y ∈ l, y.name ≠ nm) ∨ ∃ (i : Nat) (h : i < l.length), r = i ∧ l[i].name = nm ∧ ∀ y ∈ l.take i, y.name ≠ nm

theorem snoc_ne {l : List It} {k : Nat} {nm : ByteArray} (hk : k < l.length) (h : ∀ y ∈ l.take k, y.name ≠ nm) (hn : ¬ l[k].name = nm) : ∀ y ∈ l.take (k + 1), y.name ≠ nm := by
  intro y hy
  rw [List.take_succ_eq_append_getElem hk, List.mem_append, List.mem_singleton] at hy
  rcases hy with hy | rfl
  · exact h y hy
  · exact hn

def indexRel (a : Option Addr) (cap : Nat) (l : List It) (nm : ByteArray) (w : World) (n : Nat) (a' : Act) (w' : World) : Prop :=
  w = w' ∧ ∃ (k : Nat) (u6 u7 u8 u9 u10 u11 u12 u13 u14 u15 u16 u17 u18 u19 : Value), a' = { tmps := #[.slice a l.length cap, .string nm, undef, undef, .int .i64 0, .int .i64 k, u6, u7, u8, u9, u10, u11, u12, u13, u14, u15, u16, u17, u18, u19], defers := [] } ∧ k ≤ l.length ∧ n = l.length - k ∧ ∀ y ∈ l.take k, y.name ≠ nm

set_option maxRecDepth 100000 in
set_option maxHeartbeats 1000000 in
theorem index_any {a : Option Addr} {cap : Nat} {l : List It} (nm : ByteArray) (w : World) (hl : Tb w a cap l) :
    Calls Try.prog 53 #[.slice a l.length cap, .string nm] w fun e w' => ∃ r, IdxOf l nm r ∧ e = .returned (.int .i64 r) ∧ w = w' := by
  have hlen := hl.len
  unfold maxLen at hlen
  go_enter Try.func53, Try.ntmps53
  go_wp2
  refine wp_scope_ghost 0 (indexRel a cap l nm w) rfl ?_ ?_
  · intro H hb
    go_wp2
    go_step3
    rename_i hK
    refine hK _ _ (hb l.length _ _ ⟨rfl, 0, ?_⟩)
    repeat apply Exists.intro
    exact ⟨rfl, Nat.zero_le _, rfl, by simp⟩
  · rintro n a' w' ⟨rfl, k, u6, u7, u8, u9, u10, u11, u12, u13, u14, u15, u16, u17, u18, u19, rfl, hk, rfl, hn⟩ H hH
    by_cases hlt : k < l.length
    · obtain ⟨b, o, a', cap', rfl, _, hi, _⟩ := hl.get hlt
      have h0 := hi.c0
      by_cases he : l[k].name = nm
      · have hb := beq_str he
        have HE := Lib.hid he
        clear he
        go_wp2
        simp only [Exit.jump]
        go_ret
        exact ⟨k, .inr ⟨k, hlt, rfl, HE.out, hn⟩, rfl, rfl⟩
      · have hb := bne_str he
        have HE := Lib.hid he
        clear he
        go_wp2
        go_step3
        refine ⟨rfl, hH (l.length - (k + 1)) _ _ (by omega) ⟨rfl, k + 1, ?_⟩⟩
        repeat apply Exists.intro
        exact ⟨rfl, by omega, rfl, snoc_ne hlt hn HE.out⟩
    · go_wp2
      simp only [Exit.jump]
      go_ret
      have hall : l.take k = l := List.take_of_length_le (by omega)
      rw [hall] at hn
      exact ⟨-1, .inl ⟨rfl, hn⟩, rfl, rfl⟩

/-- a name may stand behind these items. -/
def NameOk (l : List It) (nm : ByteArray) : Prop := 1 ≤ nm.size ∧ nm.size ≤ 40 ∧ ∀ y ∈ l, y.name ≠ nm
theorem idx_lt {l : List It} {nm : ByteArray} {r : Int} (h : IdxOf l nm r) : r < 0 ↔ ∀ y ∈ l, y.name ≠ nm := by
  rcases h with ⟨rfl, h⟩ | ⟨i, hi, rfl, hn, _⟩
  · exact ⟨fun _ => h, fun _ => by decide⟩
  · exact ⟨fun h => by omega, fun h => absurd hn (h _ (List.getElem_mem hi))⟩
set_option maxHeartbeats 1000000 in
theorem name_any {a : Option Addr} {cap : Nat} {l : List It} (nm : ByteArray) (hs : nm.size ≤ maxLen) (w : World) (hl : Tb w a cap l) :
    Calls Try.prog 70 #[.string nm, .slice a l.length cap] w (SaysW (NameOk l nm) w) := by
  unfold maxLen at hs
  by_cases h0 : nm.size = 0
  · obtain ⟨e1, e2⟩ := empty_str h0
    go_enter Try.func70, Try.ntmps70
    go_wp2_with fail
    go_ret
    exact ⟨false, by unfold NameOk; simp; omega, rfl, rfl⟩
  · obtain ⟨e1, e2⟩ := full_str h0
    by_cases h4 : (nm.size : Int) ≤ 40
    · go_enter Try.func70, Try.ntmps70
      go_wp2_with fail
      refine (index_any nm _ hl).mono ?_
      rintro e w' ⟨r, hr, rfl, rfl⟩
      go_wp2_with fail
      go_ret
      refine ⟨_, ?_, rfl, rfl⟩
      rw [decide_eq_true_iff, idx_lt hr]
      exact ⟨fun h => ⟨by omega, by omega, h⟩, fun h => h.2.2⟩
    · go_enter Try.func70, Try.ntmps70
      go_wp2_with fail
      go_ret
      exact ⟨false, by unfold NameOk; simp; omega, rfl, rfl⟩

end Go.Proofs.Ytpibbgencojbgaa
