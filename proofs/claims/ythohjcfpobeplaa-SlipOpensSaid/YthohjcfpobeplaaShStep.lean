/-
  Law 12's steps: what may be stays so; a slice of steps that came in.
-/
import Derived.Test.YthohjcfpobeplaaShDo
namespace Go.Proofs.Ythohjcfpobeplaa.Sh
open Go.RowKit Rg Go.Sort
set_option linter.unusedVariables false
set_option linter.unusedSimpArgs false

theorem step_may {s : Sd} (o : OpD) (h : MaySd s) : MaySd (stepF s o) := by
  unfold stepF
  repeat' split
  · exact put_may h _
  · exact get_may h
  · exact ack_may h _
  · exact nack_may h _
  · exact set_may h _
  · exact set_may h _
  · exact put_may h _
def playF (l : List OpD) : Sd := l.foldl stepF sd1
theorem play_snoc (l : List OpD) (i : Nat) (h : i < l.length) : playF (l.take (i + 1)) = stepF (playF (l.take i)) l[i] := by
  unfold playF
  rw [show l.take (i + 1) = l.take i ++ [l[i]] by rw [List.take_add_one, List.getElem?_eq_getElem h]; rfl, List.foldl_append]
  rfl
theorem play_may (l : List OpD) : MaySd (playF l) := by
  unfold playF
  have key : ∀ (l : List OpD) (s : Sd), MaySd s → MaySd (l.foldl stepF s) := by
    intro l
    induction l with
    | nil => intro s h; exact h
    | cons o l ih => intro s h; exact ih _ (step_may o h)
  exact key l sd1 (by decide)
/-- a slice of steps. -/
structure OpsAt (w : World) (a : Option Addr) (cap : Nat) (l : List OpD) : Prop where
  len : l.length ≤ cap
  max : cap ≤ maxLen
  at' : 0 < l.length → ∃ b o, a = some ⟨b, o, none⟩ ∧ ∀ i (h : i < l.length), ∃ ao co,
    (w.cell? ⟨b, o + i * 6, none⟩ = some (.int .i64 l[i].kind) ∧ w.cell? ⟨b, o + i * 6 + 1, none⟩ = some (.int .i64 l[i].pub) ∧ w.cell? ⟨b, o + i * 6 + 2, none⟩ = some (.int .i64 l[i].key) ∧ w.cell? ⟨b, o + i * 6 + 3, none⟩ = some (.int .i64 l[i].many) ∧ w.cell? ⟨b, o + i * 6 + 4, none⟩ = some (.int .i64 l[i].n) ∧ w.cell? ⟨b, o + i * 6 + 5, none⟩ = some (.slice ao l[i].l.length co)) ∧ OpAt w ao co l[i]
theorem OpsAt.nil (w : World) : OpsAt w none 0 [] := ⟨Nat.le_refl _, by simp [maxLen], fun h => by simp at h⟩
theorem OpsAt.below {w w' : World} {a : Option Addr} {cap : Nat} {l : List OpD} (h : OpsAt w a cap l) (hb : Below w.heap.size w w') : OpsAt w' a cap l := by
  refine ⟨h.len, h.max, fun h0 => ?_⟩
  obtain ⟨b, o, ha, hc⟩ := h.at' h0
  refine ⟨b, o, ha, fun i hi => ?_⟩
  obtain ⟨ao, co, ⟨c0, c1, c2, c3, c4, c5⟩, hop⟩ := hc i hi
  have up : ∀ {q : Nat} {v : Value}, w.cell? ⟨b, q, none⟩ = some v → w'.cell? ⟨b, q, none⟩ = some v := fun {q v} hv => (hb.cell (p := ⟨b, q, none⟩) (lt_of_cell hv)).trans hv
  exact ⟨ao, co, ⟨up c0, up c1, up c2, up c3, up c4, up c5⟩, hop.below hb⟩

/-! ### steps with kinds below 7, one after the other: what stays -/
def op7 (o : OpD) : OpD := { o with kind := (u64m o.kind 7 : Nat) }
theorem op7_kd (o : OpD) : kdF (op7 o) < 7 := by
  have := (u64_mod o.kind 7 (by decide)).2
  unfold kdF op7
  show (((u64m o.kind 7 : Nat) : Int) % 10).toNat < 7
  omega
def play7 (l : List OpD) : Sd := playF (l.map op7)
theorem play7_may (l : List OpD) : MaySd (play7 l) := play_may _
theorem play7_snoc (l : List OpD) (i : Nat) (h : i < l.length) : play7 (l.take (i + 1)) = stepF (play7 (l.take i)) (op7 l[i]) := by
  unfold play7
  rw [List.map_take, List.map_take, play_snoc (l.map op7) i (by simpa using h), List.getElem_map]
theorem step_nx (s : Sd) (o : OpD) : s.nx ≤ (stepF s o).nx ∧ (stepF s o).nx ≤ s.nx + 1 := by
  have hp : ∀ l, (putS s l).nx = s.nx := fun l => by unfold putS; split <;> rfl
  have hg : s.nx ≤ (getS s).nx ∧ (getS s).nx ≤ s.nx + 1 := by
    unfold getS
    split
    · exact ⟨by show s.nx ≤ s.nx + 1; omega, Int.le_refl _⟩
    · exact ⟨Int.le_refl _, by omega⟩
  have ha : ∀ t, (ackS s t).nx = s.nx := fun t => by unfold ackS; split <;> rfl
  have hn : ∀ t, (nackS s t).nx = s.nx := fun t => by unfold nackS; split <;> rfl
  have hs : ∀ b, (setS s b).nx = s.nx := fun b => by unfold setS; split <;> rfl
  unfold stepF
  repeat' split
  all_goals first | exact hg | (rw [hp]; omega) | (rw [ha]; omega) | (rw [hn]; omega) | (rw [hs]; omega)

/-! ### the next batch may be put; frozen shards -/
theorem next_len (s : Sd) (o : OpD) : (nextF s o).length = u64m o.many 3 + 1 := by unfold nextF; rw [List.length_map, List.length_range]
theorem next_get (s : Sd) (o : OpD) (i : Nat) (h : i < (nextF s o).length) : (nextF s o)[i] = ⟨u64m o.pub 4, lastF s.ms (u64m o.pub 4) (nameF (u64m o.key 6)) + 1 + (i : Int), nameF (u64m o.key 6), [120], false⟩ := by
  have hg : ∀ (f : Nat → Mg) (n : Nat) (h : i < ((List.range n).map f).length), ((List.range n).map f)[i] = f i := fun f n h => by rw [List.getElem_map, List.getElem_range]
  exact hg _ _ h
theorem next_pos (s : Sd) (o : OpD) : 0 < (nextF s o).length := by rw [next_len]; omega
theorem next_first (s : Sd) (o : OpD) : firstB (nextF s o) = ⟨u64m o.pub 4, lastF s.ms (u64m o.pub 4) (nameF (u64m o.key 6)) + 1, nameF (u64m o.key 6), [120], false⟩ := by
  have e : firstB (nextF s o) = (nextF s o)[0]'(next_pos s o) := first_get (next_pos s o)
  rw [e, next_get]
  simp
theorem next_end (s : Sd) (o : OpD) : (endB (nextF s o)).seq = lastF s.ms (u64m o.pub 4) (nameF (u64m o.key 6)) + 1 + (u64m o.many 3 : Nat) := by
  rw [end_get (next_pos s o), next_get]
  show lastF s.ms (u64m o.pub 4) (nameF (u64m o.key 6)) + 1 + (((nextF s o).length - 1 : Nat) : Int) = _
  rw [next_len]
  simp
theorem next_mayB {s : Sd} (o : OpD) (hm : MaySd s) (hb : lastF s.ms (u64m o.pub 4) (nameF (u64m o.key 6)) + 3 ≤ 1073741824) : MayB (nextF s o) := by
  have hl := next_len s o
  have h3 := (u64_mod o.many 3 (by decide)).2
  have h4 := (u64_mod o.pub 4 (by decide)).2
  have h0 : 0 ≤ lastF s.ms (u64m o.pub 4) (nameF (u64m o.key 6)) := by
    rcases last_may hm.2.2.2.2.1 (u64m o.pub 4) (nameF (u64m o.key 6)) with h | h <;> omega
  refine ⟨by omega, by omega, fun i hi => ?_⟩
  have e : (nextF s o).headD mg0 = (nextF s o)[0]'(next_pos s o) := first_get (next_pos s o)
  rw [e, next_get, next_get]
  refine ⟨⟨⟨?_, ?_, ?_, ?_, ?_, ?_⟩, ?_⟩, rfl, rfl, rfl, ?_⟩
  · show (0 : Int) ≤ (u64m o.pub 4 : Nat); omega
  · show ((u64m o.pub 4 : Nat) : Int) < 4; omega
  · show 1 ≤ lastF s.ms (u64m o.pub 4) (nameF (u64m o.key 6)) + 1 + (i : Int); omega
  · show lastF s.ms (u64m o.pub 4) (nameF (u64m o.key 6)) + 1 + (i : Int) ≤ 1073741824; omega
  · show 1 ≤ 1; decide
  · show 1 ≤ 20; decide
  · show 1 ≤ 200; decide
  · show lastF s.ms (u64m o.pub 4) (nameF (u64m o.key 6)) + 1 + (i : Int) = lastF s.ms (u64m o.pub 4) (nameF (u64m o.key 6)) + 1 + ((0 : Nat) : Int) + (i : Int)
    omega
theorem put_next {s : Sd} (o : OpD) (hm : MaySd s) (hb : lastF s.ms (u64m o.pub 4) (nameF (u64m o.key 6)) + 3 ≤ 1073741824) :
    putC s (nextF s o) = if s.fr = true then 6 else if FullP s (nextF s o) then 4 else 0 := by
  rw [putC_of hm (next_mayB o hm hb), next_first, next_end]
  simp only
  rw [if_neg (by omega), if_neg (by omega)]
theorem step_fr {s : Sd} {o : OpD} (h : kdF o < 7) : (stepF s o).fr = s.fr := by
  unfold stepF
  repeat' split
  · unfold putS; split <;> rfl
  · unfold getS; split <;> rfl
  · unfold ackS; split <;> rfl
  · unfold nackS; split <;> rfl
  · omega
  · omega
  · omega
theorem put_last (s : Sd) (o : OpD) (p : Int) (k : List UInt8) : lastF (putS s (nextF s o)).ms p k ≤ lastF s.ms p k + 3 := by
  have h3 := (u64_mod o.many 3 (by decide)).2
  unfold putS
  split
  · show lastF (markF s.ms (firstB (nextF s o)).pub (firstB (nextF s o)).key (endB (nextF s o)).seq) p k ≤ _
    rw [last_mark, next_end, next_first]
    simp only
    split
    · rename_i h
      rw [h.1, h.2]
      omega
    · omega
  · omega
theorem step_last {s : Sd} {o : OpD} (h : kdF o < 7) (p : Int) (k : List UInt8) : lastF (stepF s o).ms p k ≤ lastF s.ms p k + 3 := by
  unfold stepF
  repeat' split
  · exact put_last s o p k
  · unfold getS; split <;> (show lastF s.ms p k ≤ _; omega)
  · unfold ackS; split <;> (show lastF s.ms p k ≤ _; omega)
  · unfold nackS; split <;> (show lastF s.ms p k ≤ _; omega)
  · omega
  · omega
  · omega
theorem play7_fr (l : List OpD) : (play7 l).fr = false := by
  have key : ∀ i, i ≤ l.length → (play7 (l.take i)).fr = false := by
    intro i
    induction i with
    | zero => intro _; rfl
    | succ i ih =>
      intro h
      rw [play7_snoc l i h, step_fr (op7_kd _)]
      exact ih (by omega)
  have := key l.length (Nat.le_refl _)
  rwa [List.take_length] at this
theorem play7_last (l : List OpD) (p : Int) (k : List UInt8) : lastF (play7 l).ms p k ≤ 3 * (l.length : Int) := by
  have key : ∀ i, i ≤ l.length → lastF (play7 (l.take i)).ms p k ≤ 3 * (i : Int) := by
    intro i
    induction i with
    | zero => intro _; show (0 : Int) ≤ _; omega
    | succ i ih =>
      intro h
      rw [play7_snoc l i h]
      have h1 := step_last (s := play7 (l.take i)) (o := op7 l[i]) (op7_kd _) p k
      have h2 := ih (by omega)
      omega
  have := key l.length (Nat.le_refl _)
  rwa [List.take_length] at this

/-- a shard that is frozen. -/
def frz (s : Sd) : Sd := { s with fr := true }
theorem frz_is {s : Sd} (hm : MaySd s) (hf : s.fr = false) : setC s true = 0 ∧ setS s true = frz s ∧ MaySd (frz s) ∧ getC (frz s) = 6 ∧ setC (frz s) true = 7 ∧ setC (frz s) false = 0 ∧ setS (frz s) false = s := by
  obtain ⟨h1, h2⟩ := setC_ok (b := true) hm (by rw [hf]; decide)
  have h3 : MaySd (frz s) := by rw [← show setS s true = frz s from h2]; exact set_may hm true
  obtain ⟨h4, -⟩ := setC_same (b := true) h3 rfl
  obtain ⟨h5, h6⟩ := setC_ok (b := false) h3 (by show ¬ true = false; decide)
  refine ⟨h1, h2, h3, ?_, h4, h5, ?_⟩
  · unfold getC; rw [if_neg (fun g => g h3), if_pos (show (frz s).fr = true from rfl)]
  · rw [h6]
    cases s
    simp only [frz] at hf ⊢
    rw [hf]
theorem frz_put {s : Sd} (o : OpD) (hm : MaySd s) (hf : s.fr = false) (hb : lastF s.ms (u64m o.pub 4) (nameF (u64m o.key 6)) + 3 ≤ 1073741824) : putC (frz s) (nextF (frz s) o) = 6 := by
  rw [put_next o (frz_is hm hf).2.2.1 hb, if_pos (show (frz s).fr = true from rfl)]
/-- what is held first goes back. -/
theorem nk_step {f : Sd} (hm : MaySd f) (h0 : 0 < f.hd.length) : outC f f.hd[0].tag = 0 ∧ (nackS f f.hd[0].tag).fr = f.fr ∧ (nackS f f.hd[0].tag).hd.length + 1 = f.hd.length ∧ (nackS f f.hd[0].tag).rd.length = f.rd.length + 1 ∧ ∃ h : 0 < (nackS f f.hd[0].tag).rd.length, (nackS f f.hd[0].tag).rd[0].again = true := by
  have ht : tagI f f.hd[0].tag = some 0 := by
    unfold tagI
    exact find_first h0 (by simp) (fun j hj => by omega)
  obtain ⟨h1, -, h2⟩ := ack_ok hm ht
  have hG : goneS f f.hd[0].tag = { f with hd := f.hd.eraseIdx 0 } := by unfold goneS; rw [ht]
  rw [h2, hG]
  refine ⟨h1, rfl, ?_, rfl, by show 0 < _ + 1; omega, rfl⟩
  show (f.hd.eraseIdx 0).length + 1 = _
  rw [List.length_eraseIdx, if_pos h0]
  omega

end Go.Proofs.Ythohjcfpobeplaa.Sh
