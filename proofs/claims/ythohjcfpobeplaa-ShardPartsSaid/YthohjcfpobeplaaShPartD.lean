/-
  Parts of a shard as plain data; a row that is put on within a box; shard.owns, walked.
-/
import Derived.Test.YthohjcfpobeplaaShTold
import Derived.Test.YthohjcfpobeplaaShPut
import Derived.Test.YthohjcfpobeplaaRgOwr
import Derived.Test.YthohjcfpobeplaaRgOf
namespace Go.Proofs.Ythohjcfpobeplaa.Sh
open Go.RowKit Rg Go.Sort
set_option linter.unusedVariables false
set_option linter.unusedSimpArgs false

/-- has k this key's point? -/
def partF (l : List Ar) (k : Int) (key : List UInt8) : Bool := ownerA l (ofB key) == k
def partC (s : Sd) (l : List Ar) : Int := if ¬ (MaySd s ∧ May l) then 1 else if ¬ (s.fr = true ∧ s.hd = []) then 7 else 0
def partS (s : Sd) (l : List Ar) (k : Int) : Sd :=
  if partC s l = 0 then ⟨false, s.nx, s.rd.filter (fun m => partF l k m.key), [], s.ms.filter (fun m => partF l k m.key)⟩ else s
theorem partC_arg {s : Sd} {l : List Ar} (k : Int) (h : ¬ (MaySd s ∧ May l)) : partC s l = 1 ∧ partS s l k = s := by
  have h1 : partC s l = 1 := by unfold partC; rw [if_pos h]
  exact ⟨h1, by unfold partS; rw [if_neg (by rw [h1]; decide)]⟩
theorem partC_state {s : Sd} {l : List Ar} (k : Int) (h : MaySd s) (h' : May l) (h2 : ¬ (s.fr = true ∧ s.hd = [])) : partC s l = 7 ∧ partS s l k = s := by
  have h1 : partC s l = 7 := by unfold partC; rw [if_neg (fun g => g ⟨h, h'⟩), if_pos h2]
  exact ⟨h1, by unfold partS; rw [if_neg (by rw [h1]; decide)]⟩
theorem partC_ok {s : Sd} {l : List Ar} (k : Int) (h : MaySd s) (h' : May l) (h2 : s.fr = true) (h3 : s.hd = []) : partC s l = 0 ∧ partS s l k = ⟨false, s.nx, s.rd.filter (fun m => partF l k m.key), [], s.ms.filter (fun m => partF l k m.key)⟩ := by
  have h1 : partC s l = 0 := by unfold partC; rw [if_neg (fun g => g ⟨h, h'⟩), if_neg (fun g => g ⟨h2, h3⟩)]
  exact ⟨h1, by unfold partS; rw [if_pos h1]⟩
theorem filter_snoc {α : Type} (p : α → Bool) (l : List α) (i : Nat) (h : i < l.length) : (l.take (i + 1)).filter p = if p l[i] = true then (l.take i).filter p ++ [l[i]] else (l.take i).filter p := by
  rw [List.take_succ_eq_append_getElem h, List.filter_append]
  by_cases hp : p l[i] = true
  · rw [if_pos hp]; simp [hp]
  · rw [if_neg hp]; simp [hp]
theorem filter_len {α : Type} (p : α → Bool) (l : List α) (i : Nat) : ((l.take i).filter p).length ≤ l.length :=
  Nat.le_trans (List.length_filter_le _ _) (by simp; omega)

/-- a row in a box's cell is put on. -/
theorem push_box {α : Type} {k : Nat} {f : α → List Value} {E : TypeId} {w w' : World} {g B i : Nat} {cs : Array Value} {t : TypeId} {fr : Nat × Nat} {v v' : Value} {l l' : List α}
    (hx : w.heap[g]? = some (.cells cs t fr)) (hB : g < B) (hBw : B ≤ w.heap.size) (ho : OwnE k f E w B v l) (ho' : OwnE k f E w' B v' l') (hg : w.grownBy w' v.ownBlock) :
    w'.heap[g]? = some (.cells cs t fr) ∧ (w'.setCell ⟨g, i, none⟩ v').heap[g]? = some (.cells (cs.setIfInBounds i v') t fr) ∧ OwnE k f E (w'.setCell ⟨g, i, none⟩ v') B v' l' ∧ Below g w (w'.setCell ⟨g, i, none⟩ v') := by
  have hgl := (Array.getElem?_eq_some_iff.1 hx).1
  have hb : Below B w w' := OwnE.grown (Below.refl _ _) ho hg hBw
  have h1 : w'.heap[g]? = some (.cells cs t fr) := (hg.block g hgl (fun e => by have := (World.ownsRow.lt ho g e.symm).1; omega)).trans hx
  exact ⟨h1, set_heap h1 i _, OwnE.kept ho' fun b hb _ => Below.heap_setCell w' ⟨g, i, none⟩ _ b (by show b ≠ g; omega), low_set (hb.mono (Nat.le_of_lt hB)) (Nat.le_refl _)⟩

theorem box3m {w : World} {g : Nat} {x y z : Value} {t : TypeId} (h : w.heap[g]? = some (.cells #[x, y, z] t (0, 0))) :
    w.cell? ⟨g, 0, none⟩ = some x ∧ w.cell? ⟨g, 1, none⟩ = some y ∧ w.cell? ⟨g, 2, none⟩ = some z := by
  refine ⟨?_, ?_, ?_⟩
  all_goals rw [cell_of_row w _ _ _ _ _ h]; rfl

set_option maxHeartbeats 1000000 in
theorem owns_any (la : Option Addr) (lc : Nat) (l : List Ar) (k : Int) (key : List UInt8) (hk : key.length ≤ 1000) (w : World) (hf : AsAt w la lc l) :
    Calls Try.prog 79 #[.slice la l.length lc, .int .i64 k, .string ⟨key.toArray⟩] w fun e w' => e = .returned (.bool (partF l k key)) ∧ Drew w w' := by
  have h1 := fun wx => of_any ⟨key.toArray⟩ (by show key.toArray.size ≤ maxLen; unfold maxLen; simp; omega) wx
  have h2 := owner_any la lc l (ofB key) w hf
  simp only at h1
  have HQ : Hid (partF l k key = (ownerA l (ofB key) == k)) := Lib.hid rfl
  generalize ofB key = p at *
  generalize ownerA l p = q at *
  clear hf hk
  go_enter Try.func79, Try.ntmps79
  go_wp2_with (first | (go_at_call 45; refine (h1 _).mono ?_; rintro e w1 ⟨rfl, rfl⟩) | (go_at_call 44; refine h2.mono ?_; rintro e w2 ⟨rfl, hd⟩; have HD := Lib.hid hd; clear hd))
  go_ret
  exact ⟨by rw [HQ.out]; rfl, HD.out⟩

end Go.Proofs.Ythohjcfpobeplaa.Sh
