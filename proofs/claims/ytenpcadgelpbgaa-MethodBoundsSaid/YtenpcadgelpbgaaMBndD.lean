/-
  MethodBounds: what it needs of plain data, and of memory.
-/
import Derived.Test.YtenpcadgelpbgaaMTold
import Derived.Deep.AppendLies
namespace Go.Proofs.Ytenpcadgelpbgaa
open Go.RowKit
set_option linter.unusedVariables false

def zeros (n : Nat) : ByteArray := ⟨Array.replicate n 0⟩

theorem conv_made {w : World} {g n : Nat} (h : w.heap[g]? = some (.cells (madeCells #[.int .u8 0] n) 5 (0, 0))) :
    (convert 26 9 (.slice (some ⟨g, 0, none⟩) n n)).run Try.prog w = .ok (.string (zeros n)) w := by
  have hc : BytesAt w.heap.size w (some ⟨g, 0, none⟩) (List.replicate n 0) := by
    intro h0
    refine ⟨g, 0, rfl, (Array.getElem?_eq_some_iff.1 h).1, fun i hi => ?_⟩
    rw [cell_of_row w _ _ _ _ _ h, Nat.zero_add]
    have e := toList_madeCells_one (.int .u8 0) n
    rw [← Array.getElem?_toList, e]
    simp only [List.length_replicate] at hi
    rw [List.getElem?_eq_getElem (by simpa using hi)]
    simp
  have hr := conv_str n hc
  rw [List.length_replicate] at hr
  rw [hr]
  simp [zeros]


theorem zeros_size (n : Nat) : (zeros n).size = n := by simp [zeros, ByteArray.size]

/-- parts at their bounds, or n further. -/
def srcB (s : ByteArray) (n : Nat) : Me := ⟨0, s, s, s, s, s, 65535 + (n : Int), 4294967295 + (n : Int), 0, false, false, []⟩
theorem srcB_yes {s : ByteArray} (hs : s.size = 255) (p : Pt) : (srcB s 0).MayP p := by
  cases p
  case a => exact Me.no_may (show ([] : List It) = [] from rfl)
  case n => show s.size ≤ 255; omega
  case y => show s.size ≤ 255; omega
  case e => show s.size ≤ 255; omega
  case k => show s.size ≤ 255; omega
  case x => show s.size ≤ 255; omega
  case c => show u64 (65535 + ((0 : Nat) : Int)) < 65536; decide
  case u => show u64 (4294967295 + ((0 : Nat) : Int)) < 4294967296; decide
  case t => show (0 : Nat) < 18446744073709551616; decide
  case f => trivial
  case b => trivial
theorem srcB_no {s : ByteArray} (hs : s.size = 256) (p : Pt) (hp : p ∈ [Pt.n, .y, .e, .k, .x, .c, .u]) : ¬ (srcB s 1).MayP p := by
  cases p
  case n => show ¬ s.size ≤ 255; omega
  case y => show ¬ s.size ≤ 255; omega
  case e => show ¬ s.size ≤ 255; omega
  case k => show ¬ s.size ≤ 255; omega
  case x => show ¬ s.size ≤ 255; omega
  case c => show ¬ u64 (65535 + ((1 : Nat) : Int)) < 65536; decide
  case u => show ¬ u64 (4294967295 + ((1 : Nat) : Int)) < 4294967296; decide
  all_goals exact absurd hp (by decide)
theorem srcB_wf {s : ByteArray} {n : Nat} (hs : s.size ≤ 256) (hn : n ≤ 1) : (srcB s n).Wf := by
  have h : s.size ≤ maxLen := by unfold maxLen; omega
  exact ⟨(by show (-9223372036854775808 : Int) ≤ 0 ∧ (0 : Int) ≤ 9223372036854775807; decide), h, h, h, h, h, (by show (-9223372036854775808 : Int) ≤ 65535 + (n : Int) ∧ 65535 + (n : Int) ≤ 9223372036854775807; omega),
    (by show (-9223372036854775808 : Int) ≤ 4294967295 + (n : Int) ∧ 4294967295 + (n : Int) ≤ 9223372036854775807; omega), (by show (0 : Nat) < 18446744073709551616; decide), (of_wf 0 (by decide)).fits⟩
theorem put_wf {m s : Me} (hm : m.Wf) (hs : s.Wf) (p : Pt) : (m.put p s).Wf := by
  obtain ⟨h0, h1, h2, h3, h4, h5, h6, h7, h8, h9⟩ := hm
  obtain ⟨k0, k1, k2, k3, k4, k5, k6, k7, k8, k9⟩ := hs
  cases p
  case n => exact ⟨h0, k1, h2, h3, h4, h5, h6, h7, h8, h9⟩
  case y => exact ⟨h0, h1, k2, h3, h4, h5, h6, h7, h8, h9⟩
  case e => exact ⟨h0, h1, h2, k3, h4, h5, h6, h7, h8, h9⟩
  case k => exact ⟨h0, h1, h2, h3, k4, h5, h6, h7, h8, h9⟩
  case x => exact ⟨h0, h1, h2, h3, h4, k5, h6, h7, h8, h9⟩
  case c => exact ⟨h0, h1, h2, h3, h4, h5, k6, h7, h8, h9⟩
  case u => exact ⟨h0, h1, h2, h3, h4, h5, h6, k7, h8, h9⟩
  case t => exact ⟨h0, h1, h2, h3, h4, h5, h6, h7, k8, h9⟩
  case a => exact ⟨h0, h1, h2, h3, h4, h5, h6, h7, h8, k9⟩
  all_goals exact ⟨h0, h1, h2, h3, h4, h5, h6, h7, h8, h9⟩

def bnd (id : Int) (p : Pt) (s : ByteArray) (n : Nat) : Me := (Me.of id).put p (srcB s n)
theorem bnd_wf {id : Int} {l : List Pt} (h : partsOf id = some l) (p : Pt) {s : ByteArray} {n : Nat} (hs : s.size ≤ 256) (hn : n ≤ 1) : (bnd id p s n).Wf := by
  have hr := partsOf_some h
  exact put_wf (of_wf id (by omega)) (srcB_wf hs hn) p
theorem bnd_args (id : Int) (p : Pt) (s : ByteArray) (n : Nat) : (bnd id p s n).args = [] := by cases p <;> rfl
theorem bnd_good {id : Int} {l : List Pt} (h : partsOf id = some l) {p : Pt} (hp : p ∈ l) {s : ByteArray} (hs : s.size = 255) : Good (bnd id p s 0) := by
  refine ⟨(mayM_iff (m := bnd id p s 0) (by unfold bnd; rw [Me.put_id]; exact h)).2 ⟨fun q _ => ?_, fun q hq => ?_⟩, bnd_wf h p (by omega) (by omega), by rw [bnd_args]; decide⟩
  · by_cases e : q = p
    · subst e
      exact ((Me.of id).put_eq q (srcB s 0)).may.2 (srcB_yes hs q)
    · exact ((Me.of id).put_ne (srcB s 0) e).may.2 (Me.no_may (Me.of_no id q))
  · have e : q ≠ p := fun e => hq (by rw [e]; exact hp)
    exact ((Me.of id).put_ne (srcB s 0) e).no.2 (Me.of_no id q)
theorem bnd_bad {id : Int} {p : Pt} (hp : p ∈ [Pt.n, .y, .e, .k, .x, .c, .u]) {s : ByteArray} (hs : s.size = 256) : ¬ MayM (bnd id p s 1) := fun h =>
  srcB_no hs p hp (((Me.of id).put_eq p (srcB s 1)).may.1 (mayM_all h p))

/-- what each step keeps of the call at its bound. -/
structure BEnv (w wk : World) (g : Nat) (m : Me) : Prop where
  at_ : MeAt wk g m none 0
  bel : Below w.heap.size w wk
theorem BEnv.below {w wk w' : World} {g : Nat} {m : Me} (h : BEnv w wk g m) (hb : Below wk.heap.size wk w') : BEnv w w' g m :=
  ⟨h.at_.keep (hb.block _ h.at_.lt), h.bel.trans (hb.mono h.bel.size)⟩
theorem alloc_new1 (w : World) (a b : Obj) : ((w.alloc a).alloc b).heap[w.heap.size + 1]? = some b := by
  have h := heap_alloc_new (w.alloc a) b
  have hz : (w.alloc a).heap.size = w.heap.size + 1 := by simp
  rw [hz] at h
  exact h
theorem alloc_two (w : World) (a b : Obj) : Below w.heap.size w ((w.alloc a).alloc b) := ((Below.refl _ _).alloc (Nat.le_refl _) a).alloc (by simp) b
theorem bytes_none (w : World) : BytesIn w.heap.size w (.slice none 0 0) [] := ⟨none, 0, rfl, Nat.le_refl _, by decide, fun h => absurd h (by decide)⟩

theorem mod_seven {q : Int} (h : 0 ≤ q) : q.tmod 7 = 0 ∨ q.tmod 7 = 1 ∨ q.tmod 7 = 2 ∨ q.tmod 7 = 3 ∨ q.tmod 7 = 4 ∨ q.tmod 7 = 5 ∨ q.tmod 7 = 6 := by
  rw [Int.tmod_eq_emod_of_nonneg h]
  omega

end Go.Proofs.Ytenpcadgelpbgaa
