/-
  ShardParts: plain: batches alone; a part may be; all parts together.
-/
import Derived.Test.YthohjcfpobeplaaShStep
import Derived.Test.YthohjcfpobeplaaShPartD
import Derived.Test.YthohjcfpobeplaaShTold
namespace Go.Proofs.Ythohjcfpobeplaa.Sh
open Go.RowKit Rg Go.Sort
set_option linter.unusedVariables false
set_option linter.unusedSimpArgs false

def putsF (l : List OpD) : Sd := l.foldl (fun s o => putS s (nextF s o)) sd1
theorem puts_snoc (l : List OpD) (i : Nat) (h : i < l.length) : putsF (l.take (i + 1)) = putS (putsF (l.take i)) (nextF (putsF (l.take i)) l[i]) := by
  unfold putsF
  rw [show l.take (i + 1) = l.take i ++ [l[i]] by rw [List.take_add_one, List.getElem?_eq_getElem h]; rfl, List.foldl_append]
  rfl
theorem puts_ok (l : List OpD) : MaySd (putsF l) ∧ (putsF l).fr = false ∧ (putsF l).hd = [] := by
  have key : ∀ i, i ≤ l.length → MaySd (putsF (l.take i)) ∧ (putsF (l.take i)).fr = false ∧ (putsF (l.take i)).hd = [] := by
    intro i
    induction i with
    | zero => intro _; exact ⟨show MaySd sd1 by decide, rfl, rfl⟩
    | succ i ih =>
      intro h
      obtain ⟨h1, h2, h3⟩ := ih (by omega)
      rw [puts_snoc l i h]
      refine ⟨put_may h1 _, ?_, ?_⟩
      · unfold putS; split <;> exact h2
      · unfold putS; split <;> exact h3
  have := key l.length (Nat.le_refl _)
  rwa [List.take_length] at this
theorem put_not {s : Sd} {l : List Mg} (h : ¬ putC s l = 0) : putS s l = s := by unfold putS; rw [if_neg h]

theorem owner_range {l : List Ar} (h : May l) (p : Int) : 0 ≤ ownerA l p ∧ ownerA l p < 16 := by
  unfold ownerA
  rw [if_pos h, owner_in h.1]
  have := h.2.2 _ (place_lt h.1 p) (place_lt h.1 p)
  exact ⟨this.1, this.2.1⟩
theorem last_filter (ms : List Mk) (f : List UInt8 → Bool) (p : Int) (k : List UInt8) (h : f k = true) : lastF (ms.filter fun m => f m.key) p k = lastF ms p k := by
  induction ms with
  | nil => rfl
  | cons m ms ih =>
    by_cases hm : lk p k m = true
    · have hk : m.key = k := by simpa [lk] using (show m.pub = p ∧ m.key = k by simpa [lk] using hm).2
      rw [List.filter_cons_of_pos (p := fun m : Mk => f m.key) (by show f m.key = true; rw [hk]; exact h)]
      unfold lastF
      rw [if_pos hm, if_pos hm]
    · by_cases hf : f m.key = true
      · rw [List.filter_cons_of_pos (p := fun m : Mk => f m.key) hf]
        unfold lastF
        rw [if_neg hm, if_neg hm]
        exact ih
      · rw [List.filter_cons_of_neg (p := fun m : Mk => f m.key) hf]
        rw [ih]
        conv => rhs; unfold lastF
        rw [if_neg hm]
/-- a part of what may be. -/
def prtF (f : Sd) (l : List Ar) (k : Int) : Sd := ⟨false, f.nx, f.rd.filter (fun m => partF l k m.key), [], f.ms.filter (fun m => partF l k m.key)⟩
theorem prt_may {f : Sd} (l : List Ar) (k : Int) (h : MaySd f) : MaySd (prtF f l k) := by
  obtain ⟨a, b, c, d, e, g, -, -, -, h1, h2⟩ := h
  have hl1 := List.length_filter_le (fun m : Mg => partF l k m.key) f.rd
  have hl2 := List.length_filter_le (fun m : Mk => partF l k m.key) f.ms
  have hall : allF (prtF f l k) = f.rd.filter (fun m => partF l k m.key) := by unfold allF prtF; simp
  have hsub : (f.rd.filter (fun m => partF l k m.key)).Sublist (allF f) := (List.filter_sublist).trans (List.sublist_append_right _ _)
  refine ⟨a, b, by show (f.rd.filter _).length + 0 ≤ 48; omega, by show (f.ms.filter _).length ≤ 64; omega, fun m hm => e m (List.mem_filter.1 hm).1, g.sublist List.filter_sublist, fun x hx => by simp [prtF] at hx, List.Pairwise.nil, List.Pairwise.nil, ?_, ?_⟩
  · rw [hall]
    intro m hm
    obtain ⟨k1, k2⟩ := h1 m (hsub.subset hm)
    refine ⟨k1, ?_⟩
    show m.seq ≤ lastF (f.ms.filter fun m => partF l k m.key) m.pub m.key
    rw [last_filter f.ms (fun key => partF l k key) m.pub m.key (List.mem_filter.1 hm).2]
    exact k2
  · rw [hall]
    exact h2.sublist hsub
theorem prt_is {f : Sd} {l : List Ar} (k : Int) (h : MaySd f) (h' : May l) (h2 : f.fr = true) (h3 : f.hd = []) : partC f l = 0 ∧ partS f l k = prtF f l k := partC_ok k h h' h2 h3

/-- those whose owner is below k. -/
def cntB {α : Type} (key : α → List UInt8) (l : List Ar) (x : List α) (k : Nat) : Nat := (x.filter fun m => decide (ownerA l (ofB (key m)) < (k : Int))).length
theorem cnt_zero {α : Type} (key : α → List UInt8) {l : List Ar} (h : May l) (x : List α) : cntB key l x 0 = 0 := by
  unfold cntB
  rw [List.length_eq_zero_iff, List.filter_eq_nil_iff]
  intro m _
  have := (owner_range h (ofB (key m))).1
  simp
  omega
theorem cnt_all {α : Type} (key : α → List UInt8) {l : List Ar} (h : May l) (x : List α) : cntB key l x 16 = x.length := by
  unfold cntB
  rw [List.filter_eq_self.2]
  intro m _
  have := (owner_range h (ofB (key m))).2
  simp
  omega
theorem cnt_step {α : Type} (key : α → List UInt8) (l : List Ar) (x : List α) (k : Nat) : cntB key l x (k + 1) = cntB key l x k + (x.filter fun m => partF l (k : Int) (key m)).length := by
  unfold cntB
  induction x with
  | nil => rfl
  | cons m x ih =>
    simp only [List.filter_cons]
    unfold partF at ih ⊢
    by_cases h1 : ownerA l (ofB (key m)) < (k : Int)
    · rw [if_pos (decide_eq_true (by omega : ownerA l (ofB (key m)) < ((k + 1 : Nat) : Int))), if_pos (decide_eq_true h1), if_neg (by rw [beq_iff_eq]; omega)]
      simp only [List.length_cons]
      omega
    · by_cases h2 : ownerA l (ofB (key m)) = (k : Int)
      · rw [if_pos (decide_eq_true (by omega : ownerA l (ofB (key m)) < ((k + 1 : Nat) : Int))), if_neg (by rw [decide_eq_true_eq]; exact h1), if_pos (by rw [beq_iff_eq]; exact h2)]
        simp only [List.length_cons]
        omega
      · rw [if_neg (by rw [decide_eq_true_eq]; omega), if_neg (by rw [decide_eq_true_eq]; exact h1), if_neg (by rw [beq_iff_eq]; exact h2)]
        exact ih
theorem cnt_le {α : Type} (key : α → List UInt8) (l : List Ar) (x : List α) (k : Nat) : cntB key l x k ≤ x.length := List.length_filter_le _ _
/-- what stands in the filtered row. -/
theorem filter_at {α : Type} (p : α → Bool) (l : List α) (i : Nat) (h : i < l.length) (hp : p l[i] = true) : ∃ hn : ((l.take i).filter p).length < (l.filter p).length, (l.filter p)[((l.take i).filter p).length] = l[i] := by
  have e : l.filter p = (l.take i).filter p ++ l[i] :: (l.drop (i + 1)).filter p := by
    conv => lhs; rw [← List.take_append_drop i l, List.drop_eq_getElem_cons h, List.filter_append, List.filter_cons_of_pos hp]
  have e2 : (l.filter p).length = ((l.take i).filter p).length + (((l.drop (i + 1)).filter p).length + 1) := by rw [e, List.length_append, List.length_cons]
  refine ⟨by omega, ?_⟩
  have : ∀ (x : List α) (hx : x = (l.take i).filter p ++ l[i] :: (l.drop (i + 1)).filter p) (hl : ((l.take i).filter p).length < x.length), x[((l.take i).filter p).length] = l[i] := by
    intro x hx hl
    subst hx
    rw [List.getElem_append_right (Nat.le_refl _)]
    simp
  exact this _ e (by omega)

/-- a shard's box is written anew with what lies in another one. -/
theorem bx_move2 {w wc : World} {B g h : Nat} (ra : Option Addr) (rc : Nat) (ha : Option Addr) (hc : Nat) (ma : Option Addr) (mc : Nat) (ra6 : Option Addr) (rc6 : Nat) (ha6 : Option Addr) (hc6 : Nat) (ma6 : Option Addr) (mc6 : Nat) {s0 s : Sd} (hb : Below B w wc) (hg : B ≤ g) (hx : Bx wc g ra rc ha hc ma mc s0) (hy : Bx wc h ra6 rc6 ha6 hc6 ma6 mc6 s) :
    Below B w (set5 wc g (.bool s.fr) (.int .i64 s.nx) (.slice ra6 s.rd.length rc6) (.slice ha6 s.hd.length hc6) (.slice ma6 s.ms.length mc6)) ∧ Bx (set5 wc g (.bool s.fr) (.int .i64 s.nx) (.slice ra6 s.rd.length rc6) (.slice ha6 s.hd.length hc6) (.slice ma6 s.ms.length mc6)) g ra6 rc6 ha6 hc6 ma6 mc6 s :=
  ⟨set5_below hb hg _ _ _ _ _, set5_box hx.bx _ _ _ _ _, sd_keep _ _ _ _ _ _ hy.sd hx.bx fun b hb => set5_heap _ _ _ _ _ _ _ _ hb⟩

end Go.Proofs.Ythohjcfpobeplaa.Sh
