/-
  ShardOrder, plain: what holds between the steps, and each step keeps it.
-/
import Derived.Test.YthohjcfpobeplaaShStep
namespace Go.Proofs.Ythohjcfpobeplaa.Sh
open Go.RowKit Rg Go.Sort
set_option linter.unusedVariables false
set_option linter.unusedSimpArgs false

def nmF (k : Nat) : List UInt8 := [(97 + k % 6).toUInt8]
theorem nm_inj : ∀ q q' : Fin 6, nmF q.val = nmF q'.val → q = q' := by decide
theorem nm_inj' {q q' : Nat} (h : q < 6) (h' : q' < 6) (e : nmF q = nmF q') : q = q' := by
  have := nm_inj ⟨q, h⟩ ⟨q', h'⟩ e
  exact congrArg Fin.val this
def onK (q : Nat) (m : Mg) : Bool := decide (m.key = nmF q)
def frsh (p q : Nat) (m : Mg) : Bool := decide (m.pub = (p : Int) ∧ m.key = nmF q ∧ m.again = false)
def OrdR (l : List Mg) (d e : Int) : Prop := (l.length : Int) = e - d ∧ 0 ≤ d ∧ ∀ (i : Nat) (h : i < l.length), l[i].seq = d + 1 + (i : Int)
/-- what holds between the steps: of each publisher and key, what is handed out, what is held, what came back. -/
structure OrdI (s : Sd) (done : Nat → Nat → Int) (held : Nat → Int) (back : Nat → Mg) (n : Nat) : Prop where
  may : MaySd s
  fr : s.fr = false
  nx : s.nx ≤ (n : Int) + 1
  last : ∀ p k, lastF s.ms p k ≤ 3 * (n : Int)
  keys : ∀ m ∈ allF s, ∃ q, q < 6 ∧ m.key = nmF q
  held : ∀ q, q < 6 → held q ≠ 0 → lockd s (nmF q) = true
  bk0 : ∀ q, q < 6 → 0 ≤ (back q).seq
  back1 : ∀ q, q < 6 → 0 < (back q).seq → lockd s (nmF q) = false → ∃ rest, s.rd.filter (onK q) = { back q with again := true } :: rest ∧ ∀ m ∈ rest, m.again = false
  back2 : ∀ q, q < 6 → (back q).seq = 0 ∨ lockd s (nmF q) = true → ∀ m ∈ s.rd.filter (onK q), m.again = false
  ord : ∀ p q, p < 4 → q < 6 → OrdR (s.rd.filter (frsh p q)) (done p q) (lastF s.ms p (nmF q))
theorem ord_start : OrdI sd1 (fun _ _ => 0) (fun _ => 0) (fun _ => mg0) 0 := by
  refine ⟨by decide, rfl, by decide, fun p k => by show (0 : Int) ≤ _; decide, fun m hm => by simp [allF, sd1] at hm, fun q hq h => absurd rfl h, fun q hq => by decide, fun q hq h => absurd h (by decide), fun q hq h m hm => by simp [sd1] at hm, fun p q hp hq => ⟨?_, Int.le_refl _, fun i h => ?_⟩⟩
  · show (0 : Int) = lastF [] _ _ - 0; rfl
  · simp [sd1] at h
theorem OrdI.more {s : Sd} {done : Nat → Nat → Int} {held : Nat → Int} {back : Nat → Mg} {n : Nat} (h : OrdI s done held back n) : OrdI s done held back (n + 1) :=
  ⟨h.may, h.fr, by have := h.nx; omega, fun p k => by have := h.last p k; omega, h.keys, h.held, h.bk0, h.back1, h.back2, h.ord⟩
theorem filter_const {α : Type} (f : α → Bool) (b : List α) (c : Bool) (h : ∀ m ∈ b, f m = c) : b.filter f = if c = true then b else [] := by
  cases c with
  | true => rw [if_pos rfl]; exact List.filter_eq_self.2 h
  | false => rw [if_neg (by decide)]; exact List.filter_eq_nil_iff.2 fun m hm => by rw [h m hm]; decide

/-- a batch is put. -/
theorem ord_put {s : Sd} {done : Nat → Nat → Int} {held : Nat → Int} {back : Nat → Mg} {n : Nat} (h : OrdI s done held back n) (o : OpD) (hn : n ≤ 1000) :
    (putC s (nextF s o) = 0 ∨ putC s (nextF s o) = 4) ∧ OrdI (putS s (nextF s o)) done held back (n + 1) := by
  have hP := (u64_mod o.pub 4 (by decide)).2
  have hK := (u64_mod o.key 6 (by decide)).2
  have hM := (u64_mod o.many 3 (by decide)).2
  have hlast := h.last (u64m o.pub 4) (nameF (u64m o.key 6))
  have hc := put_next o h.may (by omega)
  rw [h.fr, if_neg (by decide)] at hc
  have hcc : putC s (nextF s o) = 0 ∨ putC s (nextF s o) = 4 := by
    rw [hc]; split
    · exact .inr rfl
    · exact .inl rfl
  refine ⟨hcc, ?_⟩
  rcases hcc with h0 | h4
  case inr => rw [show putS s (nextF s o) = s by unfold putS; rw [if_neg (by rw [h4]; decide)]]; exact h.more
  have hS : putS s (nextF s o) = { s with rd := s.rd ++ nextF s o, ms := markF s.ms (u64m o.pub 4) (nameF (u64m o.key 6)) (lastF s.ms (u64m o.pub 4) (nameF (u64m o.key 6)) + 1 + (u64m o.many 3 : Nat)) } := by
    unfold putS; rw [if_pos h0, next_end, next_first]
  have hmay := put_may h.may (nextF s o)
  rw [hS] at hmay ⊢
  have hb : ∀ (i : Nat) (hi : i < (nextF s o).length), (nextF s o)[i] = ⟨u64m o.pub 4, lastF s.ms (u64m o.pub 4) (nameF (u64m o.key 6)) + 1 + (i : Int), nameF (u64m o.key 6), [120], false⟩ := fun i hi => next_get s o i hi
  have hbl := next_len s o
  generalize nextF s o = b at *
  generalize u64m o.pub 4 = P at *
  generalize u64m o.key 6 = K at *
  generalize u64m o.many 3 = M at *
  have hKn : nameF K = nmF K := rfl
  rw [hKn] at *
  have hmem : ∀ m ∈ b, m.pub = (P : Int) ∧ m.key = nmF K ∧ m.again = false := fun m hm => by
    obtain ⟨i, hi, rfl⟩ := List.getElem_of_mem hm
    rw [hb i hi]; exact ⟨rfl, rfl, rfl⟩
  have hlk : ∀ k, lockd { s with rd := s.rd ++ b, ms := markF s.ms P (nmF K) (lastF s.ms P (nmF K) + 1 + (M : Int)) } k = lockd s k := fun k => rfl
  refine ⟨hmay, h.fr, by have := h.nx; show s.nx ≤ _; omega, fun p k => ?_, fun m hm => ?_, h.held, h.bk0, fun q hq hs hl => ?_, fun q hq hs => ?_, fun p q hp hq => ?_⟩
  · show lastF (markF _ _ _ _) p k ≤ _
    rw [last_mark]
    have := h.last p k
    have hl9 : lastF s.ms (P : Int) (nmF K) ≤ 3 * (n : Int) := hlast
    split <;> omega
  · unfold allF at hm
    rcases List.mem_append.1 hm with hm | hm
    · exact h.keys m (List.mem_append_left _ hm)
    · rcases List.mem_append.1 hm with hm | hm
      · exact h.keys m (List.mem_append_right _ hm)
      · exact ⟨K, hK, (hmem m hm).2.1⟩
  · obtain ⟨rest, e, hr⟩ := h.back1 q hq hs hl
    refine ⟨rest ++ b.filter (onK q), by show (s.rd ++ b).filter _ = _; rw [List.filter_append, e]; rfl, fun m hm => ?_⟩
    rcases List.mem_append.1 hm with hm | hm
    · exact hr m hm
    · exact (hmem m (List.mem_filter.1 hm).1).2.2
  · intro m hm
    have hm : m ∈ (s.rd ++ b).filter (onK q) := hm
    rw [List.filter_append] at hm
    rcases List.mem_append.1 hm with hm | hm
    · exact h.back2 q hq hs m hm
    · exact (hmem m (List.mem_filter.1 hm).1).2.2
  · obtain ⟨e1, e2, e3⟩ := h.ord p q hp hq
    show OrdR ((s.rd ++ b).filter (frsh p q)) (done p q) (lastF (markF _ _ _ _) (p : Int) (nmF q))
    rw [last_mark, List.filter_append]
    by_cases hpq : (p : Int) = (P : Int) ∧ nmF q = nmF K
    · rw [if_pos hpq, filter_const (frsh p q) b true (fun m hm => by
        obtain ⟨g1, g2, g3⟩ := hmem m hm
        unfold frsh; rw [decide_eq_true_eq, g1, g2, g3]; exact ⟨hpq.1.symm, hpq.2.symm, rfl⟩), if_pos rfl]
      rw [hpq.1, hpq.2] at e1
      refine ⟨by rw [List.length_append]; omega, e2, fun i hi => ?_⟩
      by_cases hlt : i < (s.rd.filter (frsh p q)).length
      · rw [List.getElem_append_left hlt]; exact e3 i hlt
      · rw [List.getElem_append_right (by omega), hb]
        show lastF s.ms P (nmF K) + 1 + ((i - (s.rd.filter (frsh p q)).length : Nat) : Int) = _
        omega
    · rw [if_neg hpq, filter_const (frsh p q) b false (fun m hm => by
        obtain ⟨g1, g2, g3⟩ := hmem m hm
        unfold frsh; rw [decide_eq_false_iff_not, g1, g2]; exact fun e => hpq ⟨e.1.symm, e.2.1.symm⟩), if_neg (by decide), List.append_nil]
      exact ⟨e1, e2, e3⟩

/-! ### a message is handed out -/
theorem cut_yes {f : Mg → Bool} {l : List Mg} {i : Nat} (hi : i < l.length) (hno : ∀ j (hj : j < i), f (l[j]'(by omega)) = false) (hx : f l[i] = true) : l.filter f = l[i] :: (l.take i ++ l.drop (i + 1)).filter f := by
  have h0 : (l.take i).filter f = [] := List.filter_eq_nil_iff.2 fun m hm => by
    obtain ⟨j, hj, rfl⟩ := List.getElem_of_mem hm
    rw [List.length_take] at hj
    rw [List.getElem_take, hno j (by omega)]
    decide
  conv => lhs; rw [← List.take_append_drop i l, List.drop_eq_getElem_cons hi, List.filter_append, List.filter_cons_of_pos hx, h0]
  rw [List.filter_append, h0]
  rfl
theorem cut_no {f : Mg → Bool} {l : List Mg} {i : Nat} (hi : i < l.length) (hx : ¬ f l[i] = true) : (l.take i ++ l.drop (i + 1)).filter f = l.filter f := by
  conv => rhs; rw [← List.take_append_drop i l, List.drop_eq_getElem_cons hi, List.filter_append, List.filter_cons_of_neg hx]
  rw [List.filter_append]
def setD (done : Nat → Nat → Int) (p q : Nat) (v : Int) : Nat → Nat → Int := fun p' q' => if p' = p ∧ q' = q then v else done p' q'
def setH {α : Type} (held : Nat → α) (q : Nat) (v : α) : Nat → α := fun q' => if q' = q then v else held q'
theorem ord_code {s : Sd} {done : Nat → Nat → Int} {held : Nat → Int} {back : Nat → Mg} {n : Nat} (h : OrdI s done held back n) (hn : n ≤ 1000) : getC s = 3 ∨ getC s = 0 := by
  have := h.nx
  unfold getC
  rw [if_neg (fun g => g h.may), if_neg (by rw [h.fr]; decide)]
  split
  · exact .inl rfl
  · rw [if_neg (by omega)]; exact .inr rfl
theorem ord_get {s : Sd} {done : Nat → Nat → Int} {held : Nat → Int} {back : Nat → Mg} {n : Nat} (h : OrdI s done held back n) (hn : n ≤ 1000) (hc : getC s = 0) :
    ∃ p q : Nat, p < 4 ∧ q < 6 ∧ (getH s).m.pub = (p : Int) ∧ (getH s).m.key = nmF q ∧ held q = 0 ∧ (getH s).tag ≠ 0 ∧ (getH s).m.again = decide (0 < (back q).seq) ∧ (0 < (back q).seq → (getH s).m = { back q with again := true }) ∧
      ((back q).seq = 0 → (getH s).m.seq = done p q + 1) ∧ (0 ≤ done p q ∧ done p q ≤ 3000) ∧
      OrdI (getS s) (if (back q).seq = 0 then setD done p q (done p q + 1) else done) (setH held q (getH s).tag) back (n + 1) := by
  obtain ⟨i, hi, hf, hl, hfr⟩ := getC_zero hc
  have hnx : ¬ s.nx = 1073741824 := by have := h.nx; omega
  obtain ⟨-, e0, e⟩ := get_is hi h.may hfr hf hnx
  have hx : s.rd[i] ∈ allF s := List.mem_append_right _ (List.getElem_mem hi)
  obtain ⟨q, hq, hkey⟩ := h.keys _ hx
  have hxm := (h.may.2.2.2.2.2.2.2.2.2.1 _ hx).1
  have hno : ∀ j (hj : j < i), ¬ (s.rd[j]'(by omega)).key = nmF q := fun j hj => by
    have := free_first hf j hj (by omega)
    rwa [hkey] at this
  have hlq : lockd s (nmF q) = false := by rw [← hkey]; exact hl
  obtain ⟨p, hp⟩ : ∃ p : Nat, s.rd[i].pub = (p : Int) := ⟨s.rd[i].pub.toNat, by have := hxm.1.1; omega⟩
  have hp4 : p < 4 := by have := hxm.1.2.1; omega
  have hA : s.rd.filter (onK q) = s.rd[i] :: (s.rd.take i ++ s.rd.drop (i + 1)).filter (onK q) := cut_yes hi (fun j hj => by unfold onK; rw [decide_eq_false_iff_not]; exact hno j hj) (by unfold onK; rw [decide_eq_true_eq]; exact hkey)
  have hag : s.rd[i].again = decide (0 < (back q).seq) ∧ (0 < (back q).seq → s.rd[i] = { back q with again := true }) ∧ ∀ m ∈ (s.rd.take i ++ s.rd.drop (i + 1)).filter (onK q), m.again = false := by
    by_cases hb : 0 < (back q).seq
    · obtain ⟨rest, e1, e2⟩ := h.back1 q hq hb hlq
      rw [hA, List.cons.injEq] at e1
      obtain ⟨e1, e3⟩ := e1
      refine ⟨by rw [e1, decide_eq_true hb], fun _ => e1, by rw [e3]; exact e2⟩
    · have hb0 : (back q).seq = 0 := by have := h.bk0 q hq; omega
      have e2 := h.back2 q hq (.inl hb0)
      rw [hA] at e2
      exact ⟨by rw [decide_eq_false hb]; exact e2 _ (List.mem_cons_self ..), fun g => absurd g hb, fun m hm => e2 m (List.mem_cons_of_mem _ hm)⟩
  have hord := h.ord p q hp4 hq
  have hlastb := h.last p (nmF q)
  have hseq : (back q).seq = 0 → s.rd[i].seq = done p q + 1 ∧ frsh p q s.rd[i] = true := fun hb => by
    have hfx : frsh p q s.rd[i] = true := by
      unfold frsh; rw [decide_eq_true_eq]
      exact ⟨hp, hkey, by rw [hag.1, hb]; decide⟩
    have hF := cut_yes (f := frsh p q) hi (fun j hj => by unfold frsh; rw [decide_eq_false_iff_not]; exact fun g => hno j hj g.2.1) hfx
    obtain ⟨-, -, e3⟩ := hord
    rw [hF] at e3
    have := e3 0 (by simp)
    refine ⟨?_, hfx⟩
    simp only [List.getElem_cons_zero] at this
    rw [this]
    show done p q + 1 + ((0 : Nat) : Int) = _
    omega
  have hH : getH s = ⟨s.nx, s.rd[i]⟩ := e0
  have hmay := get_may h.may
  rw [hH]
  rw [e] at hmay ⊢
  have hlock : ∀ k, lockd { s with nx := s.nx + 1, rd := s.rd.take i ++ s.rd.drop (i + 1), hd := s.hd ++ [⟨s.nx, s.rd[i]⟩] } k = (lockd s k || decide (nmF q = k)) := fun k => by
    unfold lockd
    rw [List.any_append]
    simp [hkey]
  refine ⟨p, q, hp4, hq, hp, hkey, ?_, ?_, hag.1, hag.2.1, fun hb => (hseq hb).1, ⟨hord.2.1, by have := hord.1; omega⟩, ⟨hmay, h.fr, ?_, fun p9 k9 => by have := h.last p9 k9; show lastF s.ms p9 k9 ≤ _; omega, fun m hm => ?_, fun q' hq' hh => ?_, h.bk0, fun q' hq' hs hl' => ?_, fun q' hq' hs m hm => ?_, fun p' q' hp' hq' => ?_⟩⟩
  · exact Classical.byContradiction fun g => by rw [h.held q hq g] at hlq; cases hlq
  · show s.nx ≠ 0
    have := h.may.1
    omega
  · show s.nx + 1 ≤ _
    have := h.nx
    omega
  · have hm : m ∈ (s.hd ++ [(⟨s.nx, s.rd[i]⟩ : Hd)]).map (·.m) ++ (s.rd.take i ++ s.rd.drop (i + 1)) := hm
    rw [List.map_append] at hm
    rcases List.mem_append.1 hm with hm | hm
    · rcases List.mem_append.1 hm with hm | hm
      · exact h.keys m (List.mem_append_left _ hm)
      · simp at hm; exact ⟨q, hq, by rw [hm]; exact hkey⟩
    · refine h.keys m (List.mem_append_right _ ?_)
      rcases List.mem_append.1 hm with hm | hm
      · exact List.mem_of_mem_take hm
      · exact List.mem_of_mem_drop hm
  · rw [hlock]
    unfold setH at hh
    split at hh
    · rename_i e9; subst e9; simp
    · rw [h.held q' hq' hh]; rfl
  · rw [hlock] at hl'
    simp only [Bool.or_eq_false_iff, decide_eq_false_iff_not] at hl'
    obtain ⟨rest, e1, e2⟩ := h.back1 q' hq' hs hl'.1
    refine ⟨rest, ?_, e2⟩
    show (s.rd.take i ++ s.rd.drop (i + 1)).filter (onK q') = _
    rw [cut_no hi (by unfold onK; rw [decide_eq_true_eq, hkey]; exact hl'.2)]
    exact e1
  · have hm : m ∈ (s.rd.take i ++ s.rd.drop (i + 1)).filter (onK q') := hm
    by_cases hqq : q' = q
    · subst hqq; exact hag.2.2 m hm
    · rw [hlock] at hs
      have hne : ¬ nmF q = nmF q' := fun g => hqq (nm_inj' hq' hq g.symm)
      rw [cut_no hi (by unfold onK; rw [decide_eq_true_eq, hkey]; exact hne)] at hm
      refine h.back2 q' hq' ?_ m hm
      rcases hs with hs | hs
      · exact .inl hs
      · rw [decide_eq_false hne, Bool.or_false] at hs; exact .inr hs
  · show OrdR ((s.rd.take i ++ s.rd.drop (i + 1)).filter (frsh p' q')) _ (lastF s.ms (p' : Int) (nmF q'))
    by_cases hb : (back q).seq = 0
    · rw [if_pos hb]
      by_cases hpq : p' = p ∧ q' = q
      · obtain ⟨rfl, rfl⟩ := hpq
        have hF := cut_yes (f := frsh p' q') hi (fun j hj => by unfold frsh; rw [decide_eq_false_iff_not]; exact fun g => hno j hj g.2.1) (hseq hb).2
        obtain ⟨g1, g2, g3⟩ := hord
        rw [hF] at g1 g3
        unfold setD
        rw [if_pos ⟨rfl, rfl⟩]
        refine ⟨by rw [List.length_cons] at g1; omega, by omega, fun j hj => ?_⟩
        have := g3 (j + 1) (by rw [List.length_cons]; omega)
        rw [List.getElem_cons_succ] at this
        rw [this]
        omega
      · rw [cut_no hi (by
          unfold frsh; rw [decide_eq_true_eq, hp, hkey]
          exact fun g => hpq ⟨by omega, (nm_inj' hq hq' g.2.1).symm⟩)]
        unfold setD
        rw [if_neg hpq]
        exact h.ord p' q' hp' hq'
    · rw [if_neg hb, cut_no hi (by
        unfold frsh; rw [decide_eq_true_eq]
        exact fun g => by
          have hbp : 0 < (back q).seq := by have := h.bk0 q hq; omega
          rw [hag.1, decide_eq_true hbp] at g
          cases g.2.2)]
      exact h.ord p' q' hp' hq'

/-! ### what is held is settled -/
theorem ord_out {s : Sd} {done : Nat → Nat → Int} {held : Nat → Int} {back : Nat → Mg} {n : Nat} (h : OrdI s done held back n) (j : Nat) (hj : j < s.hd.length) :
    ∃ q, q < 6 ∧ s.hd[j].m.key = nmF q ∧ outC s s.hd[j].tag = 0 ∧ OrdI (ackS s s.hd[j].tag) done (setH held q 0) (setH back q mg0) (n + 1) ∧ OrdI (nackS s s.hd[j].tag) done (setH held q 0) (setH back q s.hd[j].m) (n + 1) := by
  have hx : s.hd[j].m ∈ allF s := List.mem_append_left _ (List.mem_map.2 ⟨_, List.getElem_mem hj, rfl⟩)
  obtain ⟨q, hq, hkey⟩ := h.keys _ hx
  have hxm := (h.may.2.2.2.2.2.2.2.2.2.1 _ hx).1
  have htg := h.may.2.2.2.2.2.2.2.1
  have hkk := h.may.2.2.2.2.2.2.2.2.1
  rw [List.pairwise_iff_getElem] at htg hkk
  have ht : tagI s s.hd[j].tag = some j := by
    unfold tagI
    refine find_first hj (by simp) (fun i hi => ?_)
    rw [decide_eq_false_iff_not]
    have := htg i j (by omega) hj hi
    omega
  obtain ⟨h1, h2, h3⟩ := ack_ok h.may ht
  have hG : goneS s s.hd[j].tag = { s with hd := s.hd.eraseIdx j } := by unfold goneS; rw [ht]
  have hM : goneM s s.hd[j].tag = s.hd[j].m := by unfold goneM; rw [ht]; simp [hj]
  have hmay1 := ack_may h.may s.hd[j].tag
  have hmay2 := nack_may h.may s.hd[j].tag
  rw [h2, hG] at hmay1
  rw [h3, hG, hM] at hmay2
  rw [h2, h3, hG, hM]
  have hlq : lockd s (nmF q) = true := by
    unfold lockd; rw [List.any_eq_true]; exact ⟨_, List.getElem_mem hj, by rw [decide_eq_true_eq]; exact hkey⟩
  have hA := h.back2 q hq (.inr hlq)
  have hlock : ∀ (rd : List Mg) q', q' < 6 → lockd { s with hd := s.hd.eraseIdx j, rd := rd } (nmF q') = (lockd s (nmF q') && decide (q' ≠ q)) := fun rd q' hq' => by
    unfold lockd
    by_cases hqq : q' = q
    · subst hqq
      rw [show decide (q' ≠ q') = false by simp, Bool.and_false, List.any_eq_false]
      intro x hx9
      obtain ⟨i, hi, rfl⟩ := List.getElem_of_mem hx9
      rw [List.length_eraseIdx, if_pos hj] at hi
      rw [decide_eq_true_eq]
      rw [List.getElem_eraseIdx]
      split
      · rename_i hlt
        have := hkk i j (by omega) hj hlt
        rwa [hkey] at this
      · rename_i hge
        have := hkk j (i + 1) hj (by omega) (by omega)
        rw [hkey] at this
        exact fun g => this g.symm
    · rw [decide_eq_true (show q' ≠ q from hqq), Bool.and_true]
      have hne : ¬ nmF q = nmF q' := fun g => hqq (nm_inj' hq' hq g.symm)
      rw [Bool.eq_iff_iff, List.any_eq_true, List.any_eq_true]
      constructor
      · rintro ⟨x, hx9, g⟩
        exact ⟨x, (List.eraseIdx_sublist s.hd j).subset hx9, g⟩
      · rintro ⟨x, hx9, g⟩
        refine ⟨x, ?_, g⟩
        obtain ⟨i, hi, rfl⟩ := List.getElem_of_mem hx9
        have hij : i ≠ j := fun e9 => by
          subst e9
          rw [decide_eq_true_eq, hkey] at g
          exact hne g
        rw [List.mem_eraseIdx_iff_getElem]
        exact ⟨i, hi, hij, rfl⟩
  refine ⟨q, hq, hkey, h1, ⟨hmay1, h.fr, by have := h.nx; show s.nx ≤ _; omega, fun p k => by have := h.last p k; show lastF s.ms p k ≤ _; omega, fun m hm => ?_, fun q' hq' hh => ?_, fun q' hq' => ?_, fun q' hq' hs hl => ?_, fun q' hq' hs m hm => ?_, h.ord⟩, ⟨hmay2, h.fr, by have := h.nx; show s.nx ≤ _; omega, fun p k => by have := h.last p k; show lastF s.ms p k ≤ _; omega, fun m hm => ?_, fun q' hq' hh => ?_, fun q' hq' => ?_, fun q' hq' hs hl => ?_, fun q' hq' hs m hm => ?_, fun p' q' hp' hq' => ?_⟩⟩
  · rcases List.mem_append.1 hm with hm | hm
    · obtain ⟨x, hx9, rfl⟩ := List.mem_map.1 hm
      exact h.keys _ (List.mem_append_left _ (List.mem_map.2 ⟨x, (List.eraseIdx_sublist s.hd j).subset hx9, rfl⟩))
    · exact h.keys m (List.mem_append_right _ hm)
  · rw [hlock s.rd q' hq']
    unfold setH at hh
    split at hh
    · exact absurd rfl hh
    · rename_i e9; rw [h.held q' hq' hh, decide_eq_true (show q' ≠ q from e9)]; rfl
  · unfold setH; split
    · decide
    · exact h.bk0 q' hq'
  · unfold setH at hs ⊢
    split at hs
    · exact absurd hs (by decide)
    · rename_i e9
      rw [if_neg e9]
      rw [hlock s.rd q' hq', decide_eq_true (show q' ≠ q from e9), Bool.and_true] at hl
      exact h.back1 q' hq' hs hl
  · by_cases e9 : q' = q
    · subst e9; exact hA m hm
    · unfold setH at hs
      rw [if_neg e9, hlock s.rd q' hq', decide_eq_true (show q' ≠ q from e9), Bool.and_true] at hs
      exact h.back2 q' hq' hs m hm
  · rcases List.mem_append.1 hm with hm | hm
    · obtain ⟨x, hx9, rfl⟩ := List.mem_map.1 hm
      exact h.keys _ (List.mem_append_left _ (List.mem_map.2 ⟨x, (List.eraseIdx_sublist s.hd j).subset hx9, rfl⟩))
    · rcases List.mem_cons.1 hm with rfl | hm
      · exact ⟨q, hq, hkey⟩
      · exact h.keys m (List.mem_append_right _ hm)
  · have hl9 := hlock ({ s.hd[j].m with again := true } :: s.rd) q' hq'
    have : lockd { s with hd := s.hd.eraseIdx j, rd := { s.hd[j].m with again := true } :: s.rd } (nmF q') = true := by
      rw [hl9]
      unfold setH at hh
      split at hh
      · exact absurd rfl hh
      · rename_i e9; rw [h.held q' hq' hh, decide_eq_true (show q' ≠ q from e9)]; rfl
    exact this
  · unfold setH; split
    · have := hxm.1.2.2.1; omega
    · exact h.bk0 q' hq'
  · have hl9 := hlock ({ s.hd[j].m with again := true } :: s.rd) q' hq'
    have hl : lockd { s with hd := s.hd.eraseIdx j, rd := { s.hd[j].m with again := true } :: s.rd } (nmF q') = false := hl
    rw [hl9] at hl
    show ∃ rest, ({ s.hd[j].m with again := true } :: s.rd).filter (onK q') = _ ∧ _
    unfold setH at hs ⊢
    by_cases e9 : q' = q
    · subst e9
      rw [if_pos rfl]
      exact ⟨s.rd.filter (onK q'), List.filter_cons_of_pos (by unfold onK; rw [decide_eq_true_eq]; exact hkey), hA⟩
    · rw [if_neg e9] at hs ⊢
      rw [decide_eq_true (show q' ≠ q from e9), Bool.and_true] at hl
      rw [List.filter_cons_of_neg (by unfold onK; rw [decide_eq_true_eq]; show ¬ s.hd[j].m.key = _; rw [hkey]; exact fun g => e9 (nm_inj' hq' hq g.symm))]
      exact h.back1 q' hq' hs hl
  · have hl9 := hlock ({ s.hd[j].m with again := true } :: s.rd) q' hq'
    have hm : m ∈ ({ s.hd[j].m with again := true } :: s.rd).filter (onK q') := hm
    by_cases e9 : q' = q
    · subst e9
      exfalso
      rcases hs with hs | hs
      · unfold setH at hs; rw [if_pos rfl] at hs; have := hxm.1.2.2.1; omega
      · have hs : lockd { s with hd := s.hd.eraseIdx j, rd := { s.hd[j].m with again := true } :: s.rd } (nmF q') = true := hs
        rw [hl9] at hs; simp at hs
    · rw [List.filter_cons_of_neg (by unfold onK; rw [decide_eq_true_eq]; show ¬ s.hd[j].m.key = _; rw [hkey]; exact fun g => e9 (nm_inj' hq' hq g.symm))] at hm
      refine h.back2 q' hq' ?_ m hm
      rcases hs with hs | hs
      · unfold setH at hs; rw [if_neg e9] at hs; exact .inl hs
      · have hs : lockd { s with hd := s.hd.eraseIdx j, rd := { s.hd[j].m with again := true } :: s.rd } (nmF q') = true := hs
        rw [hl9, decide_eq_true (show q' ≠ q from e9), Bool.and_true] at hs; exact .inr hs
  · show OrdR (({ s.hd[j].m with again := true } :: s.rd).filter (frsh p' q')) _ (lastF s.ms (p' : Int) (nmF q'))
    rw [List.filter_cons_of_neg (by unfold frsh; rw [decide_eq_true_eq]; exact fun g => by cases g.2.2)]
    exact h.ord p' q' hp' hq'

end Go.Proofs.Ythohjcfpobeplaa.Sh
