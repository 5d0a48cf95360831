/-
  Arcs put in order; arcs that are halved, and what becomes of owners and shares.
-/
import Derived.Test.YtgebfdgpbogalaaRgDat
namespace Go.Proofs.Ytgebfdgpbogalaa.Rg
set_option linter.unusedVariables false

/-! ### in order -/
def leA (a b : Ar) : Bool := decide (a.f ≤ b.f)
/-- by rising points. -/
def srt (l : List Ar) : List Ar := l.mergeSort leA
/-- no point twice. -/
def Apart (l : List Ar) : Prop := l.Pairwise fun a b => a.f ≠ b.f
theorem srt_perm (l : List Ar) : (srt l).Perm l := List.mergeSort_perm _ _
theorem Apart.perm {l m : List Ar} (h : Apart l) (hp : l.Perm m) : Apart m := by
  unfold Apart at *
  exact (hp.pairwise_iff (fun {a b} h => Ne.symm h)).1 h
theorem Up.apart {l : List Ar} (h : Up l) : Apart l := List.Pairwise.imp (fun {a b} h => by omega) h
theorem srt_up {l : List Ar} (h : Apart l) : Up (srt l) := by
  have h1 : (srt l).Pairwise fun a b => leA a b = true :=
    List.pairwise_mergeSort (fun a b c h1 h2 => by simp [leA] at *; omega) (fun a b => by simp [leA]; omega) l
  have h2 : Apart (srt l) := h.perm (srt_perm l).symm
  unfold Up Apart at *
  refine List.Pairwise.imp ?_ (h1.and h2)
  rintro a b ⟨g1, g2⟩
  simp [leA] at g1
  omega
/-- of one kind of arcs there is one order. -/
theorem up_one {l m : List Ar} (hl : Up l) (hm : Up m) (h : l.Perm m) : l = m := by
  have key : ∀ (l m : List Ar), Up l → Up m → l.Perm m → l = m := by
    intro l
    induction l with
    | nil => intro m _ _ h; exact (List.nil_perm.1 h).symm
    | cons a t ih =>
      intro m hl hm h
      cases m with
      | nil => exact absurd (List.perm_nil.1 h) (by simp)
      | cons b u =>
        have hl' := List.pairwise_cons.1 hl
        have hm' := List.pairwise_cons.1 hm
        have hab : a = b := by
          have h1 : a ∈ b :: u := h.mem_iff.1 (by simp)
          have h2 : b ∈ a :: t := h.mem_iff.2 (by simp)
          rcases List.mem_cons.1 h1 with h1 | h1
          · exact h1
          · rcases List.mem_cons.1 h2 with h2 | h2
            · exact h2.symm
            · have := hl'.1 b h2
              have := hm'.1 a h1
              omega
        subst hab
        rw [ih u hl'.2 hm'.2 ((List.perm_cons a).1 h)]
  exact key l m hl hm h
theorem srt_one {l m : List Ar} (hm : Up m) (h : m.Perm l) : m = srt l :=
  up_one hm (srt_up (hm.apart.perm h)) (h.trans (srt_perm l).symm)
theorem Wf.perm {l m : List Ar} (h : Wf l) (hp : l.Perm m) : Wf m := fun a ha => h a (hp.mem_iff.2 ha)
theorem srt_wf {l : List Ar} (h : Wf l) : Wf (srt l) := h.perm (srt_perm l).symm
theorem srt_length (l : List Ar) : (srt l).length = l.length := (srt_perm l).length_eq

/-- an arc among others by its point; one that is there already stays. -/
def putF : List Ar → Ar → List Ar
  | [], a => [a]
  | b :: t, a => if b.f < a.f then b :: putF t a else if b.f = a.f then b :: t else a :: b :: t
theorem put_perm {l : List Ar} {a : Ar} (h : ∀ b ∈ l, b.f ≠ a.f) : (putF l a).Perm (a :: l) := by
  induction l with
  | nil => exact List.Perm.refl _
  | cons b t ih =>
    unfold putF
    have hb := h b (by simp)
    split
    · exact ((ih fun c hc => h c (by simp [hc])).cons b).trans (List.Perm.swap _ _ _)
    · exact List.Perm.refl _
theorem put_mem {l : List Ar} {a c : Ar} (h : c ∈ putF l a) : c = a ∨ c ∈ l := by
  induction l with
  | nil => simp [putF] at h; exact .inl h
  | cons b t ih =>
    unfold putF at h
    split at h
    · rcases List.mem_cons.1 h with rfl | h
      · simp
      · rcases ih h with h | h
        · exact .inl h
        · simp [h]
    · split at h
      · exact .inr h
      · rcases List.mem_cons.1 h with rfl | h
        · simp
        · exact .inr h
theorem put_up {l : List Ar} (h : Up l) (a : Ar) : Up (putF l a) := by
  induction l with
  | nil => exact List.pairwise_singleton _ _
  | cons b t ih =>
    have h' := List.pairwise_cons.1 h
    unfold putF
    split
    · rename_i hlt
      refine List.Pairwise.cons (fun c hc => ?_) (ih h'.2)
      rcases put_mem hc with rfl | hc
      · exact hlt
      · exact h'.1 c hc
    · split
      · exact h
      · rename_i h1 h2
        refine List.Pairwise.cons (fun c hc => ?_) h
        rcases List.mem_cons.1 hc with rfl | hc
        · omega
        · have := h'.1 c hc; omega

/-! ### halves -/
def halfAt (t : Tr) : Int := (t.f + wd t.f t.e / 2) % 4294967296
def cuts (s : Int) (t : Tr) : Bool := decide (t.s = s) && decide (2 ≤ wd t.f t.e)
def sp (s o : Int) (t : Tr) : List Ar := if cuts s t then [⟨t.f, t.s⟩, ⟨halfAt t, o⟩] else [⟨t.f, t.s⟩]
def sp2 (s o : Int) (t : Tr) : List Tr := if cuts s t then [⟨t.f, halfAt t, t.s⟩, ⟨halfAt t, t.e, o⟩] else [t]
def cutT (T : List Tr) (s o : Int) : List Ar := T.flatMap (sp s o)
/-- each arc of s as its two halves. -/
def cutF (l : List Ar) (s o : Int) : List Ar := cutT (ringT l) s o
theorem hd_cut (l : List Ar) (e e' : Int) (s o : Int) : hd (cutT (tr l e) s o) e' = hd l e' := by
  cases l with
  | nil => rfl
  | cons a t =>
    unfold cutT
    simp only [tr, List.flatMap_cons, sp]
    split <;> rfl
theorem tr_cut (l : List Ar) (e : Int) (s o : Int) : tr (cutT (tr l e) s o) e = (tr l e).flatMap (sp2 s o) := by
  induction l with
  | nil => rfl
  | cons a t ih =>
    have hh := hd_cut t e e s o
    unfold cutT at ih hh ⊢
    simp only [tr, List.flatMap_cons]
    rw [tr_app, ih, hh]
    congr 1
    unfold sp sp2
    split
    · simp only [tr, hd]
    · simp only [tr, hd]
theorem ring_cut (l : List Ar) (s o : Int) : tr (cutF l s o) (hd (cutF l s o) 0) = (ringT l).flatMap (sp2 s o) := by
  unfold cutF ringT
  rw [hd_cut, tr_cut]

/-- numbered on past the end of the ring. -/
def un (l : List Ar) (E : Int) (s o : Int) : List Ar :=
  match l with
  | [] => []
  | a :: t => (if cuts s ⟨a.f, hd t E, a.s⟩ then [a, ⟨a.f + wd a.f (hd t E) / 2, o⟩] else [a]) ++ un t E s o
def wrap (a : Ar) : Ar := ⟨a.f % 4294967296, a.s⟩
theorem un_wrap (l : List Ar) (hw : Wf l) (e E : Int) (hE : E = e ∨ E = e + 4294967296) (s o : Int) : (un l E s o).map wrap = cutT (tr l e) s o := by
  induction l with
  | nil => rfl
  | cons a t ih =>
    have ha := hw a (by simp)
    have hwd : wd a.f (hd t E) = wd a.f (hd t e) := by
      cases t with
      | nil => simp only [hd]; unfold wd; omega
      | cons b t => rfl
    have hcut : cuts s ⟨a.f, hd t E, a.s⟩ = cuts s ⟨a.f, hd t e, a.s⟩ := by unfold cuts; simp only [hwd]
    have ihh := ih fun b hb => hw b (by simp [hb])
    unfold cutT at ihh ⊢
    simp only [un, List.map_append, ihh, tr, List.flatMap_cons, hcut, hwd]
    congr 1
    have wa : wrap a = ⟨a.f, a.s⟩ := by unfold wrap; congr 1; omega
    unfold sp halfAt
    split
    · simp only [List.map_cons, List.map_nil, wa]; rfl
    · simp only [List.map_cons, List.map_nil, wa]
theorem un_up (l : List Ar) (E : Int) (hw : Wf l) (hu : Up l) (hE : ∀ a ∈ l, a.f < E ∧ E ≤ a.f + 4294967296) (s o : Int) :
    Up (un l E s o) ∧ ∀ a ∈ un l E s o, hd l E ≤ a.f ∧ a.f < E := by
  induction l with
  | nil => exact ⟨List.Pairwise.nil, fun a h => by simp [un] at h⟩
  | cons a t ih =>
    have hu' := List.pairwise_cons.1 hu
    obtain ⟨h1, h2⟩ := ih (fun b hb => hw b (by simp [hb])) hu'.2 (fun b hb => hE b (by simp [hb]))
    have ha := hw a (by simp)
    have hEa := hE a (by simp)
    have hn : a.f < hd t E ∧ hd t E ≤ E ∧ wd a.f (hd t E) = hd t E - a.f := by
      cases t with
      | nil => simp only [hd]; unfold wd; omega
      | cons b t =>
        have hb := hw b (by simp)
        have hEb := hE b (by simp)
        have := hu'.1 b (by simp)
        simp only [hd]; unfold wd; omega
    obtain ⟨n1, n2, n3⟩ := hn
    have hda : hd (a :: t) E = a.f := rfl
    rw [hda]
    simp only [un]
    generalize hd t E = G at *
    split
    · rename_i hc
      simp only [cuts, Bool.and_eq_true, decide_eq_true_eq] at hc
      rw [n3] at hc ⊢
      refine ⟨List.pairwise_append.2 ⟨?_, h1, ?_⟩, ?_⟩
      · refine List.Pairwise.cons (fun b hb => ?_) (List.pairwise_singleton _ _)
        simp only [List.mem_singleton] at hb
        subst hb
        simp only; omega
      · intro b hb c hc'
        have := h2 c hc'
        simp only [List.mem_cons, List.not_mem_nil, or_false] at hb
        rcases hb with rfl | rfl
        · omega
        · simp only; omega
      · intro b hb
        rcases List.mem_append.1 hb with hb | hb
        · simp only [List.mem_cons, List.not_mem_nil, or_false] at hb
          rcases hb with rfl | rfl
          · exact ⟨by omega, by omega⟩
          · simp only; omega
        · have := h2 b hb
          omega
    · refine ⟨List.pairwise_append.2 ⟨List.pairwise_singleton _ _, h1, ?_⟩, ?_⟩
      · intro b hb c hc'
        have := h2 c hc'
        simp only [List.mem_singleton] at hb
        subst hb
        omega
      · intro b hb
        rcases List.mem_append.1 hb with hb | hb
        · simp only [List.mem_singleton] at hb
          subst hb
          exact ⟨by omega, by omega⟩
        · have := h2 b hb
          omega

/-- a rising row of less than once round: brought back to the ring it is in order, but for a turn. -/
theorem turn (u : List Ar) (b : Int) (hb : 0 ≤ b ∧ b < 4294967296) (hu : Up u) (hr : ∀ a ∈ u, b ≤ a.f ∧ a.f < b + 4294967296) :
    ∃ A B, u.map wrap = A ++ B ∧ Up (B ++ A) := by
  refine ⟨(u.filter fun a => decide (a.f < 4294967296)).map wrap, (u.filter fun a => !decide (a.f < 4294967296)).map wrap, ?_, ?_⟩
  · rw [← List.map_append]
    congr 1
    clear hr
    induction u with
    | nil => rfl
    | cons a t ih =>
      have hu' := List.pairwise_cons.1 hu
      by_cases ha : a.f < 4294967296
      · rw [List.filter_cons_of_pos (by simpa using ha), List.filter_cons_of_neg (by simpa using ha), List.cons_append, ← ih hu'.2]
      · have hall : ∀ c ∈ t, ¬ c.f < 4294967296 := fun c hc => by have := hu'.1 c hc; omega
        rw [List.filter_cons_of_neg (by simpa using ha), List.filter_cons_of_pos (by simpa using ha)]
        rw [List.filter_eq_nil_iff.2 (fun c hc => by simpa using hall c hc), List.filter_eq_self.2 (fun c hc => by have := hall c hc; simpa using this)]
        rfl
  · unfold Up at *
    rw [List.pairwise_append]
    refine ⟨?_, ?_, ?_⟩
    · rw [List.pairwise_map]
      refine List.Pairwise.imp_of_mem ?_ (hu.filter _)
      intro x y hx hy hxy
      obtain ⟨hx1, hx2⟩ := List.mem_filter.1 hx
      obtain ⟨hy1, hy2⟩ := List.mem_filter.1 hy
      have gx := hr x hx1
      have gy := hr y hy1
      simp at hx2 hy2
      simp only [wrap]; omega
    · rw [List.pairwise_map]
      refine List.Pairwise.imp_of_mem ?_ (hu.filter _)
      intro x y hx hy hxy
      obtain ⟨hx1, hx2⟩ := List.mem_filter.1 hx
      obtain ⟨hy1, hy2⟩ := List.mem_filter.1 hy
      have gx := hr x hx1
      have gy := hr y hy1
      simp at hx2 hy2
      simp only [wrap]; omega
    · intro x hx y hy
      obtain ⟨x', hx', rfl⟩ := List.mem_map.1 hx
      obtain ⟨y', hy', rfl⟩ := List.mem_map.1 hy
      obtain ⟨hx1, hx2⟩ := List.mem_filter.1 hx'
      obtain ⟨hy1, hy2⟩ := List.mem_filter.1 hy'
      have gx := hr x' hx1
      have gy := hr y' hy1
      simp at hx2 hy2
      simp only [wrap]; omega
/-- turned arcs are the same arcs. -/
theorem ring_turn (A B : List Ar) : (tr (A ++ B) (hd (A ++ B) 0)).Perm (ringT (B ++ A)) := by
  unfold ringT
  cases A with
  | nil => simp
  | cons a A =>
    cases B with
    | nil => simp
    | cons b B =>
      rw [tr_app, tr_app]
      exact List.perm_append_comm

theorem cut_turn {l : List Ar} (hw : Wf l) (hu : Up l) (s o : Int) : ∃ A B, cutF l s o = A ++ B ∧ Up (B ++ A) := by
  cases l with
  | nil => exact ⟨[], [], rfl, List.Pairwise.nil⟩
  | cons a t =>
    have ha := hw a (by simp)
    have hr : ∀ b ∈ a :: t, b.f < a.f + 4294967296 ∧ a.f + 4294967296 ≤ b.f + 4294967296 := fun b hb => by
      have := hw b hb
      rcases List.mem_cons.1 hb with rfl | hb
      · omega
      · have := (List.pairwise_cons.1 hu).1 b hb; omega
    obtain ⟨h1, h2⟩ := un_up (a :: t) (a.f + 4294967296) hw hu hr s o
    obtain ⟨A, B, h3, h4⟩ := turn _ a.f ha h1 (fun c hc => by have := h2 c hc; simpa only [hd] using this)
    rw [un_wrap (a :: t) hw a.f (a.f + 4294967296) (.inr rfl)] at h3
    exact ⟨A, B, h3, h4⟩
theorem cut_apart {l : List Ar} (hw : Wf l) (hu : Up l) (s o : Int) : Apart (cutF l s o) := by
  obtain ⟨A, B, h1, h2⟩ := cut_turn hw hu s o
  rw [h1]
  exact h2.apart.perm List.perm_append_comm
theorem cut_wf {l : List Ar} (hw : Wf l) (s o : Int) : Wf (cutF l s o) := by
  intro a ha
  unfold cutF cutT at ha
  obtain ⟨t, ht, ha⟩ := List.mem_flatMap.1 ha
  obtain ⟨k, hk, rfl⟩ := List.getElem_of_mem ht
  rw [ring_length] at hk
  rw [ring_get l k hk] at ha
  have hb := hw _ (List.getElem_mem hk)
  unfold sp at ha
  split at ha
  · simp only [List.mem_cons, List.not_mem_nil, or_false] at ha
    rcases ha with rfl | rfl
    · exact hb
    · simp only [halfAt]; omega
  · simp only [List.mem_cons, List.not_mem_nil, or_false] at ha
    subst ha; exact hb
/-- halved arcs, in order. -/
def halveF (l : List Ar) (s o : Int) : List Ar := srt (cutF l s o)
theorem halve_up {l : List Ar} (hw : Wf l) (hu : Up l) (s o : Int) : Up (halveF l s o) := srt_up (cut_apart hw hu s o)
theorem halve_wf {l : List Ar} (hw : Wf l) (s o : Int) : Wf (halveF l s o) := srt_wf (cut_wf hw s o)
/-- the arcs with their ends: each as it was, or in two. -/
theorem halve_ring {l : List Ar} (hw : Wf l) (hu : Up l) (s o : Int) : ((ringT l).flatMap (sp2 s o)).Perm (ringT (halveF l s o)) := by
  obtain ⟨A, B, h1, h2⟩ := cut_turn hw hu s o
  have h3 : B ++ A = halveF l s o := by
    unfold halveF
    exact srt_one h2 (by rw [h1]; exact List.perm_append_comm)
  rw [← ring_cut, ← h3, h1]
  exact ring_turn A B

end Go.Proofs.Ytgebfdgpbogalaa.Rg
