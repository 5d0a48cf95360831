/-
  MethodParts.
-/
import Derived.Test.YtenpcadgelpbgaaMTold
import Derived.Deep.LoopGhost
namespace Go.Proofs.Ytenpcadgelpbgaa
open Go.RowKit
set_option linter.unusedVariables false

/-- the Ids, in the law's order. -/
def lawIds : List Int := [2010, 2011, 2040, 2041, 4010, 4011, 5010, 5011, 5020, 5021, 6010, 6011, 6020, 6021, 6040, 6050, 6060, 6070, 6071, 6072, 6080, 6090, 6120, 8510, 8511, 9010, 9011, 9020, 9021, 9030, 9031]
theorem lawIds_ok : ∀ id ∈ lawIds, (partsOf id).isSome = true := by decide
theorem lawIds_range : ∀ id ∈ lawIds, -9223372036854775808 ≤ id ∧ id ≤ 9223372036854775807 := by decide
theorem of_good {id : Int} {l : List Pt} (h : partsOf id = some l) : Good (Me.of id) := by
  have hs := partsOf_some h
  exact ⟨(mayM_iff (m := Me.of id) h).2 ⟨fun p _ => Me.no_may (Me.of_no id p), fun p _ => Me.of_no id p⟩, of_wf id (by omega), (by show (putT ([] : List It)).length ≤ 3000; decide)⟩

/-- of that Id, that one part laid. -/
def oneP (id : Int) : Pt → Me
  | .n => { Me.of id with name := ⟨#[97]⟩ }
  | .y => { Me.of id with typ := ⟨#[98]⟩ }
  | .e => { Me.of id with ex := ⟨#[99]⟩ }
  | .k => { Me.of id with key := ⟨#[100]⟩ }
  | .x => { Me.of id with text := ⟨#[101]⟩ }
  | .c => { Me.of id with code := 6 }
  | .u => { Me.of id with count := 7 }
  | .t => { Me.of id with tag := 8 }
  | .f => { Me.of id with flag := true }
  | .b => { Me.of id with back := true }
  | .a => { Me.of id with args := [.mk ⟨#[102]⟩ 0 0 ⟨#[]⟩ []] }
theorem oneP_id (id : Int) (p : Pt) : (oneP id p).id = id := by cases p <;> rfl
theorem one_may : MayT 1 [.mk ⟨#[102]⟩ 0 0 ⟨#[]⟩ []] := by
  refine ⟨by decide, by decide, ?_, ?_⟩
  · intro i hi
    obtain rfl : i = 0 := by simp only [List.length_cons, List.length_nil] at hi; omega
    exact ⟨(by show 1 ≤ (ByteArray.mk #[102]).size; decide), (by show (ByteArray.mk #[102]).size ≤ 40; decide), fun j hj => by omega⟩
  · rw [mayAll_iff]
    intro x hx
    simp only [List.mem_cons, List.not_mem_nil, or_false] at hx
    subst hx
    rw [may_iff]
    exact .inl ⟨rfl, rfl, rfl, rfl⟩
theorem oneP_may (id : Int) (p q : Pt) : (oneP id p).MayP q := by
  by_cases h : q = p
  · subst h
    cases q
    case a => exact one_may
    case n => show (ByteArray.mk #[97]).size ≤ 255; decide
    case y => show (ByteArray.mk #[98]).size ≤ 255; decide
    case e => show (ByteArray.mk #[99]).size ≤ 255; decide
    case k => show (ByteArray.mk #[100]).size ≤ 255; decide
    case x => show (ByteArray.mk #[101]).size ≤ 255; decide
    case c => show u64 6 < 65536; decide
    case u => show u64 7 < 4294967296; decide
    case t => show (8 : Nat) < 18446744073709551616; decide
    case f => trivial
    case b => trivial
  · have h2 : (oneP id p).Sm (Me.of id) q := by cases p <;> cases q <;> first | rfl | exact absurd rfl h
    exact h2.may.2 (Me.no_may (Me.of_no id q))
theorem oneP_no (id : Int) (p q : Pt) : (oneP id p).No q ↔ q ≠ p := by
  constructor
  · rintro h rfl
    cases q
    case a => exact absurd (show ([.mk ⟨#[102]⟩ 0 0 ⟨#[]⟩ []] : List It) = [] from h) (by simp)
    case n => exact absurd (show ByteArray.mk #[97] = ByteArray.empty from h) (by decide)
    case y => exact absurd (show ByteArray.mk #[98] = ByteArray.empty from h) (by decide)
    case e => exact absurd (show ByteArray.mk #[99] = ByteArray.empty from h) (by decide)
    case k => exact absurd (show ByteArray.mk #[100] = ByteArray.empty from h) (by decide)
    case x => exact absurd (show ByteArray.mk #[101] = ByteArray.empty from h) (by decide)
    case c => exact absurd (show (6 : Int) = 0 from h) (by decide)
    case u => exact absurd (show (7 : Int) = 0 from h) (by decide)
    case t => exact absurd (show (8 : Nat) = 0 from h) (by decide)
    case f => exact absurd (show true = false from h) (by decide)
    case b => exact absurd (show true = false from h) (by decide)
  · intro h
    have h2 : (oneP id p).Sm (Me.of id) q := by cases p <;> cases q <;> first | rfl | exact absurd rfl h
    exact h2.no.2 (Me.of_no id q)
theorem oneP_iff {id : Int} {l : List Pt} (h : partsOf id = some l) (p : Pt) : MayM (oneP id p) ↔ p ∈ l := by
  rw [mayM_iff (m := oneP id p) (l := l) (by rw [oneP_id]; exact h)]
  constructor
  · rintro ⟨_, h2⟩
    refine Classical.byContradiction fun hp => ?_
    exact absurd rfl ((oneP_no id p p).1 (h2 p hp))
  · intro hp
    exact ⟨fun q _ => oneP_may id p q, fun q hq => (oneP_no id p q).2 (by rintro rfl; exact hq hp)⟩
theorem oneP_wf {id : Int} (h : -9223372036854775808 ≤ id ∧ id ≤ 9223372036854775807) (p : Pt) : (oneP id p).Wf := by
  obtain ⟨h0, h1, h2, h3, h4, h5, h6, h7, h8, h9⟩ := of_wf id h
  cases p
  case n => exact ⟨h0, (by show (ByteArray.mk #[97]).size ≤ maxLen; decide), h2, h3, h4, h5, h6, h7, h8, h9⟩
  case y => exact ⟨h0, h1, (by show (ByteArray.mk #[98]).size ≤ maxLen; decide), h3, h4, h5, h6, h7, h8, h9⟩
  case e => exact ⟨h0, h1, h2, (by show (ByteArray.mk #[99]).size ≤ maxLen; decide), h4, h5, h6, h7, h8, h9⟩
  case k => exact ⟨h0, h1, h2, h3, (by show (ByteArray.mk #[100]).size ≤ maxLen; decide), h5, h6, h7, h8, h9⟩
  case x => exact ⟨h0, h1, h2, h3, h4, (by show (ByteArray.mk #[101]).size ≤ maxLen; decide), h6, h7, h8, h9⟩
  case c => exact ⟨h0, h1, h2, h3, h4, h5, (by show (-9223372036854775808 : Int) ≤ 6 ∧ (6 : Int) ≤ 9223372036854775807; decide), h7, h8, h9⟩
  case u => exact ⟨h0, h1, h2, h3, h4, h5, h6, (by show (-9223372036854775808 : Int) ≤ 7 ∧ (7 : Int) ≤ 9223372036854775807; decide), h8, h9⟩
  case t => exact ⟨h0, h1, h2, h3, h4, h5, h6, h7, (by show (8 : Nat) < 18446744073709551616; decide), h9⟩
  case f => exact ⟨h0, h1, h2, h3, h4, h5, h6, h7, h8, h9⟩
  case b => exact ⟨h0, h1, h2, h3, h4, h5, h6, h7, h8, h9⟩
  case a => exact ⟨h0, h1, h2, h3, h4, h5, h6, h7, h8, ⟨fun x hx => by
      simp only [oneP, List.mem_cons, List.not_mem_nil, or_false] at hx
      subst hx
      show (-9223372036854775808 : Int) ≤ 0 ∧ (0 : Int) ≤ 9223372036854775807
      decide, fun x hx => by
      simp only [oneP, List.mem_cons, List.not_mem_nil, or_false] at hx
      subst hx
      exact ⟨fun y hy => by simp at hy, fun y hy => by simp at hy⟩⟩⟩

def hasRel (l : List Pt) (p : Pt) (w : World) (k : Nat) (v9 v10 : Value) (wr : World) : Prop :=
  wr = w ∧ ∃ i : Nat, i ≤ l.length ∧ k = l.length - i ∧ v9 = .bool (decide (p ∈ l.take i)) ∧ v10 = .int .i64 i

theorem take_in (l : List Pt) (p : Pt) {i : Nat} (h : i < l.length) : decide (p ∈ l.take (i + 1)) = (decide (p ∈ l.take i) || decide (l[i] = p)) := by
  have hm : p ∈ l.take (i + 1) ↔ (p ∈ l.take i ∨ l[i] = p) := by
    rw [List.take_succ_eq_append_getElem h, List.mem_append, List.mem_singleton, @eq_comm _ p]
  rw [← Bool.decide_or]
  exact decide_eq_decide.2 hm

theorem tb_row {w : World} {L : Nat} {l : List It} {cs : Array Value} {t : TypeId} (h : w.heap[L]? = some (.cells cs t (0, 0))) (hm : l.length ≤ maxLen)
    (hc : ∀ (i : Nat) (hi : i < l.length), l[i].sub = [] ∧ cs[i * 5]? = some (.string l[i].name) ∧ cs[i * 5 + 1]? = some (.int .i64 l[i].kind) ∧ cs[i * 5 + 2]? = some (.int .i64 l[i].n) ∧ cs[i * 5 + 3]? = some (.string l[i].s) ∧ cs[i * 5 + 4]? = some (.slice none 0 0) ∧
      l[i].name.size ≤ maxLen ∧ (-9223372036854775808 ≤ l[i].kind ∧ l[i].kind ≤ 9223372036854775807) ∧ (-9223372036854775808 ≤ l[i].n ∧ l[i].n ≤ 9223372036854775807) ∧ l[i].s.size ≤ maxLen) :
    Tb w (some ⟨L, 0, none⟩) l.length l := by
  refine ⟨_, .intro L 0 (fun _ => (none, 0)) (fun _ => []) (Nat.le_refl _) hm (fun _ => rfl) (fun _ => by simp [World.frozen?, h]) (fun i hi => ?_) (fun i hi => ?_)⟩
  · obtain ⟨e, h0, h1, h2, h3, h4, b0, b1, b2, b3⟩ := hc i hi
    refine ⟨?_, ?_, ?_, ?_, ?_, b0, b1, b2, b3⟩
    · rw [cell_of_row w _ _ _ _ _ h, Nat.zero_add]; exact h0
    · rw [cell_of_row w _ _ _ _ _ h, Nat.zero_add]; exact h1
    · rw [cell_of_row w _ _ _ _ _ h, Nat.zero_add]; exact h2
    · rw [cell_of_row w _ _ _ _ _ h, Nat.zero_add]; exact h3
    · rw [cell_of_row w _ _ _ _ _ h, Nat.zero_add, e]; exact h4
  · rw [(hc i hi).1]
    exact SlAt.nil w none (by decide)


theorem one_tb {w : World} {L : Nat} (h : w.heap[L]? = some (.cells #[.string ⟨#[102]⟩, .int .i64 0, .int .i64 0, .string ⟨#[]⟩, .slice none 0 0] 45 (0, 0))) : Tb w (some ⟨L, 0, none⟩) 1 [.mk ⟨#[102]⟩ 0 0 ⟨#[]⟩ []] := by
  refine tb_row (l := [.mk ⟨#[102]⟩ 0 0 ⟨#[]⟩ []]) h (by decide) fun i hi => ?_
  have : i = 0 := by simp only [List.length_cons, List.length_nil] at hi; omega
  have z : (-9223372036854775808 ≤ (0 : Int) ∧ (0 : Int) ≤ 9223372036854775807) := by decide
  have e0 : (ByteArray.mk #[]).size ≤ maxLen := by decide
  have e1 : (ByteArray.mk #[102]).size ≤ maxLen := by decide
  subst this
  exact ⟨rfl, rfl, rfl, rfl, rfl, rfl, e1, z, z, e0⟩

end Go.Proofs.Ytenpcadgelpbgaa
