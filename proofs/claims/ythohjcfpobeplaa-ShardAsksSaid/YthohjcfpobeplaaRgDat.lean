/-
  Arcs of a ring as plain data: who owns a point, how wide arcs are, halves.
-/
namespace Go.Proofs.Ythohjcfpobeplaa.Rg
set_option linter.unusedVariables false

/-- an arc: from its point on, a shard's. -/
structure Ar where
  f : Int
  s : Int
theorem Ar.same {a b : Ar} (h1 : a.f = b.f) (h2 : a.s = b.s) : a = b := by cases a; cases b; simp_all
instance : DecidableEq Ar := fun a b =>
  decidable_of_iff (a.f = b.f ∧ a.s = b.s) ⟨fun h => Ar.same h.1 h.2, fun h => by subst h; exact ⟨rfl, rfl⟩⟩

def Pt (p : Int) : Prop := 0 ≤ p ∧ p < 4294967296
/-- points on the ring. -/
def Wf (l : List Ar) : Prop := ∀ a ∈ l, 0 ≤ a.f ∧ a.f < 4294967296
/-- by rising points. -/
def Up (l : List Ar) : Prop := l.Pairwise fun a b => a.f < b.f
/-- what may be, arc by arc. -/
def MayA (l : List Ar) (i : Nat) : Prop := ∀ h : i < l.length, 0 ≤ l[i].s ∧ l[i].s < 16 ∧ (i = 0 ∨ (l[i - 1]'(Nat.lt_of_le_of_lt (Nat.sub_le _ _) h)).f < l[i].f)
def May (l : List Ar) : Prop := 1 ≤ l.length ∧ l.length ≤ 1024 ∧ ∀ i, i < l.length → MayA l i
instance (l : List Ar) (i : Nat) : Decidable (MayA l i) :=
  if h : i < l.length then
    decidable_of_iff (0 ≤ l[i].s ∧ l[i].s < 16 ∧ (i = 0 ∨ (l[i - 1]'(Nat.lt_of_le_of_lt (Nat.sub_le _ _) h)).f < l[i].f)) ⟨fun a _ => a, fun a => a h⟩
  else isTrue fun h' => absurd h' h
instance (l : List Ar) : Decidable (May l) := inferInstanceAs (Decidable (_ ∧ _ ∧ ∀ i, i < l.length → _))
theorem up_of_next {l : List Ar} (h : ∀ i (g : i + 1 < l.length), l[i].f < l[i + 1].f) : Up l := by
  unfold Up
  induction l with
  | nil => exact List.Pairwise.nil
  | cons a t ih =>
    have hup : t.Pairwise fun a b => a.f < b.f := ih fun i g => h (i + 1) (by simpa using g)
    refine List.Pairwise.cons (fun b hb => ?_) hup
    cases t with
    | nil => cases hb
    | cons c t =>
      have h0 : a.f < c.f := by simpa using h 0 (by simp)
      rcases List.mem_cons.1 hb with rfl | hb
      · exact h0
      · have := (List.pairwise_cons.1 hup).1 b hb
        omega
theorem May.up {l : List Ar} (h : May l) : Up l :=
  up_of_next fun i g => by
    have := (h.2.2 (i + 1) g g).2.2
    rcases this with h0 | h0
    · omega
    · exact h0
theorem May.shard {l : List Ar} (h : May l) {a : Ar} (ha : a ∈ l) : 0 ≤ a.s ∧ a.s < 16 := by
  obtain ⟨i, hi, rfl⟩ := List.getElem_of_mem ha
  exact ⟨(h.2.2 i hi hi).1, (h.2.2 i hi hi).2.1⟩
theorem Up.lt {l : List Ar} (h : Up l) {i j : Nat} (hj : j < l.length) (hij : i < j) : l[i].f < l[j].f :=
  List.pairwise_iff_getElem.1 h i j (by omega) hj hij
theorem may_of {l : List Ar} (h1 : 1 ≤ l.length) (h2 : l.length ≤ 1024) (h3 : ∀ a ∈ l, 0 ≤ a.s ∧ a.s < 16) (hu : Up l) : May l :=
  ⟨h1, h2, fun i hi _ => ⟨(h3 _ (List.getElem_mem hi)).1, (h3 _ (List.getElem_mem hi)).2, by
    by_cases h0 : i = 0
    · exact .inl h0
    · exact .inr (hu.lt hi (by omega))⟩⟩

/-! ### ways and widths -/
/-- from a up to b, all round where they are one. -/
def wd (a b : Int) : Int := (b - a - 1) % 4294967296 + 1
/-- from a on to p. -/
def ds (a p : Int) : Int := (p - a) % 4294967296
theorem wd_in (a b : Int) : 1 ≤ wd a b ∧ wd a b ≤ 4294967296 := by unfold wd; omega
theorem ds_in (a b : Int) : 0 ≤ ds a b ∧ ds a b < 4294967296 := by unfold ds; omega
theorem wd_ne {a b : Int} (ha : 0 ≤ a ∧ a < 4294967296) (hb : 0 ≤ b ∧ b < 4294967296) (h : a ≠ b) : wd a b = (b - a) % 4294967296 := by unfold wd; omega
theorem wd_self (a : Int) : wd a a = 4294967296 := by unfold wd; omega
theorem ds_inj {a b p : Int} (ha : 0 ≤ a ∧ a < 4294967296) (hb : 0 ≤ b ∧ b < 4294967296) (h : ds a p = ds b p) : a = b := by unfold ds at h; omega

def hd (l : List Ar) (e : Int) : Int := match l with | [] => e | a :: _ => a.f
/-- arcs with their ends. -/
structure Tr where
  f : Int
  e : Int
  s : Int
def tr : List Ar → Int → List Tr
  | [], _ => []
  | a :: t, e => ⟨a.f, hd t e, a.s⟩ :: tr t e
def ringT (l : List Ar) : List Tr := tr l (hd l 0)
/-- how many points those of x have. -/
def sm : List Tr → Int → Int
  | [], _ => 0
  | t :: r, x => (if t.s = x then wd t.f t.e else 0) + sm r x
def tot : List Tr → Int
  | [] => 0
  | t :: r => wd t.f t.e + tot r
theorem hd_app (a b : List Ar) (e : Int) : hd (a ++ b) e = hd a (hd b e) := by cases a <;> rfl
theorem tr_app (a b : List Ar) (e : Int) : tr (a ++ b) e = tr a (hd b e) ++ tr b e := by
  induction a with
  | nil => rfl
  | cons x t ih => simp only [List.cons_append, tr, ih, hd_app]
theorem tr_length (l : List Ar) (e : Int) : (tr l e).length = l.length := by
  induction l with
  | nil => rfl
  | cons x t ih => simp [tr, ih]
theorem sm_app (a b : List Tr) (x : Int) : sm (a ++ b) x = sm a x + sm b x := by
  induction a with
  | nil => simp [sm]
  | cons t r ih => simp only [List.cons_append, sm, ih]; omega
theorem tot_app (a b : List Tr) : tot (a ++ b) = tot a + tot b := by
  induction a with
  | nil => simp [tot]
  | cons t r ih => simp only [List.cons_append, tot, ih]; omega
theorem sm_perm {a b : List Tr} (h : a.Perm b) (x : Int) : sm a x = sm b x := by
  induction h with
  | nil => rfl
  | cons t _ ih => simp only [sm, ih]
  | swap t u r => simp only [sm]; omega
  | trans _ _ h1 h2 => exact h1.trans h2
theorem sm_nonneg (l : List Tr) (x : Int) : 0 ≤ sm l x := by
  induction l with
  | nil => simp [sm]
  | cons t r ih => simp only [sm]; have := wd_in t.f t.e; split <;> omega
theorem sm_le (l : List Tr) (x : Int) : sm l x ≤ tot l := by
  induction l with
  | nil => simp [sm, tot]
  | cons t r ih => simp only [sm, tot]; have := wd_in t.f t.e; split <;> omega
theorem tot_nonneg (l : List Tr) : 0 ≤ tot l := by
  induction l with
  | nil => simp [tot]
  | cons t r ih => simp only [tot]; have := wd_in t.f t.e; omega
theorem sm_pos {l : List Tr} {t : Tr} (h : t ∈ l) : 1 ≤ sm l t.s := by
  induction l with
  | nil => cases h
  | cons u r ih =>
    simp only [sm]
    have := wd_in u.f u.e
    have := sm_nonneg r t.s
    rcases List.mem_cons.1 h with rfl | h
    · rw [if_pos rfl]; omega
    · have := ih h; split <;> omega
theorem sm_zero {l : List Tr} {x : Int} (h : sm l x = 0) : ∀ t ∈ l, t.s ≠ x := by
  intro t ht e
  have := sm_pos ht
  rw [e] at this
  omega
theorem sm_none {l : List Tr} {x : Int} (h : ∀ t ∈ l, t.s ≠ x) : sm l x = 0 := by
  induction l with
  | nil => rfl
  | cons t r ih => simp only [sm]; rw [if_neg (h t (by simp)), ih fun u hu => h u (by simp [hu])]; rfl

/-- the k-th arc's end. -/
def nx (l : List Ar) (k : Nat) : Int := if h : k + 1 < l.length then l[k + 1].f else hd l 0
theorem tr_get (l : List Ar) (e : Int) (k : Nat) (h : k < l.length) : (tr l e)[k]'(by rw [tr_length]; exact h) = ⟨l[k].f, if g : k + 1 < l.length then l[k + 1].f else e, l[k].s⟩ := by
  induction l generalizing k with
  | nil => simp at h
  | cons a t ih =>
    cases k with
    | zero =>
      cases t with
      | nil => simp [tr, hd]
      | cons b t => simp [tr, hd]
    | succ k =>
      have := ih k (by simpa using h)
      simp only [tr, List.getElem_cons_succ, this]
      congr 1
      simp
theorem ring_length (l : List Ar) : (ringT l).length = l.length := tr_length _ _
theorem ring_get (l : List Ar) (k : Nat) (h : k < l.length) : (ringT l)[k]'(by rw [ring_length]; exact h) = ⟨l[k].f, nx l k, l[k].s⟩ := tr_get _ _ _ _
def widthF (l : List Ar) (k : Nat) : Int := if h : k < l.length then wd l[k].f (nx l k) else 0
def shareF (l : List Ar) (x : Int) : Int := sm (ringT l) x
/-- of the first k. -/
def shareK (l : List Ar) (x : Int) (k : Nat) : Int := sm ((ringT l).take k) x
theorem shareK_succ (l : List Ar) (x : Int) (k : Nat) (h : k < l.length) : shareK l x (k + 1) = shareK l x k + if l[k].s = x then widthF l k else 0 := by
  unfold shareK widthF
  rw [List.take_succ_eq_append_getElem (by rw [ring_length]; exact h), sm_app, ring_get l k h, dif_pos h]
  simp [sm]
theorem shareK_all (l : List Ar) (x : Int) : shareK l x l.length = shareF l x := by
  unfold shareK shareF
  rw [List.take_of_length_le (by rw [ring_length]; omega)]
theorem shareK_zero (l : List Ar) (x : Int) : shareK l x 0 = 0 := by unfold shareK; simp [sm]

/-! ### all round -/
theorem tot_rise (l : List Ar) (e : Int) (hw : Wf l) (hu : Up l) (he : ∀ a ∈ l, a.f < e) (he2 : e ≤ 8589934592) (h0 : ∀ a ∈ l, e - a.f ≤ 4294967296) : tot (tr l e) = e - hd l e := by
  induction l with
  | nil => simp [tr, tot, hd]
  | cons a t ih =>
    have hu' := List.pairwise_cons.1 hu
    have := ih (fun b hb => hw b (by simp [hb])) hu'.2 (fun b hb => he b (by simp [hb])) (fun b hb => h0 b (by simp [hb]))
    simp only [tr, tot, this, hd]
    have ha := hw a (by simp)
    have hae := he a (by simp)
    have h0a := h0 a (by simp)
    cases t with
    | nil => show wd a.f e + (e - e) = _; unfold wd; omega
    | cons b t =>
      have hb := hw b (by simp)
      have hab := hu'.1 b (by simp)
      show wd a.f b.f + (e - b.f) = e - a.f; unfold wd; omega
theorem tr_shift (l : List Ar) (e : Int) : tot (tr l (e + 4294967296)) = tot (tr l e) := by
  induction l with
  | nil => rfl
  | cons a t ih =>
    simp only [tr, tot, ih]
    cases t with
    | nil => show wd a.f (e + 4294967296) + _ = wd a.f e + _; unfold wd; omega
    | cons b t => rfl
/-- all arcs are the whole ring. -/
theorem tot_ring {l : List Ar} (hw : Wf l) (hu : Up l) (h : 1 ≤ l.length) : tot (ringT l) = 4294967296 := by
  cases l with
  | nil => simp at h
  | cons a t =>
    have ha := hw a (by simp)
    have hr : ∀ b ∈ a :: t, a.f ≤ b.f := fun b hb => by
      rcases List.mem_cons.1 hb with rfl | hb
      · omega
      · have := (List.pairwise_cons.1 hu).1 b hb; omega
    unfold ringT
    rw [← tr_shift]
    simp only [hd]
    rw [tot_rise (a :: t) (a.f + 4294967296) hw hu (fun b hb => by have := hw b hb; omega) (by omega) (fun b hb => by have := hr b hb; omega)]
    simp only [hd]; omega
theorem share_le {l : List Ar} (hw : Wf l) (hu : Up l) (h : 1 ≤ l.length) (x : Int) : 0 ≤ shareF l x ∧ shareF l x ≤ 4294967296 :=
  ⟨sm_nonneg _ _, by have := sm_le (ringT l) x; rw [tot_ring hw hu h] at this; exact this⟩
theorem take_tot (l : List Tr) (k : Nat) : tot (l.take k) ≤ tot l := by
  have h : l = l.take k ++ l.drop k := (List.take_append_drop k l).symm
  have := tot_nonneg (l.drop k)
  have h2 : tot l = tot (l.take k) + tot (l.drop k) := by rw [← tot_app, List.take_append_drop]
  omega
theorem shareK_le {l : List Ar} (hw : Wf l) (hu : Up l) (h : 1 ≤ l.length) (x : Int) (k : Nat) : 0 ≤ shareK l x k ∧ shareK l x k ≤ 4294967296 := by
  have h1 := sm_nonneg ((ringT l).take k) x
  have h2 := sm_le ((ringT l).take k) x
  have h3 := take_tot (ringT l) k
  rw [tot_ring hw hu h] at h3
  unfold shareK
  omega

/-! ### owners -/
/-- how many arcs begin up to p. -/
def cntF (l : List Ar) (p : Int) : Nat := l.countP fun a => decide (a.f ≤ p)
theorem cnt_le (l : List Ar) (p : Int) : cntF l p ≤ l.length := List.countP_le_length
theorem cnt_iff {l : List Ar} (hu : Up l) (p : Int) : ∀ i (h : i < l.length), l[i].f ≤ p ↔ i < cntF l p := by
  induction l with
  | nil => intro i h; simp at h
  | cons a t ih =>
    have hu' := List.pairwise_cons.1 hu
    intro i h
    unfold cntF
    rw [List.countP_cons]
    have ih' := ih hu'.2
    unfold cntF at ih'
    by_cases ha : a.f ≤ p
    · simp only [ha, decide_true, if_true]
      cases i with
      | zero => simp [ha]
      | succ i => simp only [List.getElem_cons_succ]; rw [ih' i (by simpa using h)]; omega
    · have hz : t.countP (fun a => decide (a.f ≤ p)) = 0 := by
        rw [List.countP_eq_zero]
        intro b hb
        have := hu'.1 b hb
        simp; omega
      simp only [ha, decide_false]
      rw [hz]
      simp only [Bool.false_eq_true, if_false, Nat.zero_add, Nat.not_lt_zero, iff_false]
      cases i with
      | zero => simpa using ha
      | succ i =>
        have := hu'.1 (t[i]'(by simpa using h)) (List.getElem_mem _)
        simp only [List.getElem_cons_succ]; omega
/-- the place of the arc in which p is. -/
def placeF (l : List Ar) (p : Int) : Nat := if cntF l p = 0 then l.length - 1 else cntF l p - 1
theorem place_lt {l : List Ar} (h : 1 ≤ l.length) (p : Int) : placeF l p < l.length := by
  unfold placeF; have := cnt_le l p; split <;> omega
def ownerF (l : List Ar) (p : Int) : Int := if h : placeF l p < l.length then l[placeF l p].s else -1
theorem owner_in {l : List Ar} (h : 1 ≤ l.length) (p : Int) : ownerF l p = (l[placeF l p]'(place_lt h p)).s := by unfold ownerF; rw [dif_pos (place_lt h p)]

theorem nx_in {l : List Ar} (hw : Wf l) (h : 1 ≤ l.length) (k : Nat) : 0 ≤ nx l k ∧ nx l k < 4294967296 := by
  unfold nx
  split
  · exact hw _ (List.getElem_mem _)
  · cases l with
    | nil => simp at h
    | cons a t => exact hw a (by simp)
theorem hd_get {l : List Ar} (h : 1 ≤ l.length) (e : Int) : hd l e = (l[0]'(by omega)).f := by
  cases l with
  | nil => simp at h
  | cons a t => rfl
/-- p is in the arc that is told. -/
theorem place_in {l : List Ar} (hw : Wf l) (hu : Up l) (h : 1 ≤ l.length) {p : Int} (hp : 0 ≤ p ∧ p < 4294967296) :
    ds (l[placeF l p]'(place_lt h p)).f p < wd (l[placeF l p]'(place_lt h p)).f (nx l (placeF l p)) := by
  have hc := cnt_iff hu p
  have hl := place_lt h p
  have hb : ∀ k (g : k < l.length), 0 ≤ l[k].f ∧ l[k].f < 4294967296 := fun k g => hw _ (List.getElem_mem g)
  suffices key : ∀ k (hl : k < l.length), placeF l p = k → ds l[k].f p < wd l[k].f (nx l k) from key _ hl rfl
  clear hl
  intro k hl hk
  unfold placeF at hk
  have hcl := cnt_le l p
  have b1 := hb k hl
  unfold nx
  split at hk
  · rename_i h0
    have hlast : ¬ k + 1 < l.length := by omega
    rw [dif_neg hlast, hd_get h]
    have b0 := hb 0 (by omega)
    have g0 := hc 0 (by omega)
    have g1 := hc k hl
    by_cases hone : k = 0
    · subst hone; unfold ds wd; omega
    · have := hu.lt hl (i := 0) (by omega)
      unfold ds wd; omega
  · rename_i h0
    have g1 := hc k hl
    by_cases hlast : k + 1 < l.length
    · rw [dif_pos hlast]
      have b2 := hb (k + 1) hlast
      have g2 := hc (k + 1) hlast
      unfold ds wd; omega
    · rw [dif_neg hlast, hd_get h]
      have b0 := hb 0 (by omega)
      by_cases hone : k = 0
      · subst hone; unfold ds wd; omega
      · have := hu.lt hl (i := 0) (by omega)
        unfold ds wd; omega
/-- nobody's arc begins nearer behind p. -/
theorem place_near {l : List Ar} (hw : Wf l) (hu : Up l) (h : 1 ≤ l.length) {p : Int} (hp : 0 ≤ p ∧ p < 4294967296) (j : Nat) (hj : j < l.length) :
    ds (l[placeF l p]'(place_lt h p)).f p ≤ ds l[j].f p := by
  have hc := cnt_iff hu p
  have hl := place_lt h p
  have hb : ∀ k (g : k < l.length), 0 ≤ l[k].f ∧ l[k].f < 4294967296 := fun k g => hw _ (List.getElem_mem g)
  suffices key : ∀ k (hl : k < l.length), placeF l p = k → ds l[k].f p ≤ ds l[j].f p from key _ hl rfl
  clear hl
  intro k hl hk
  unfold placeF at hk
  have hcl := cnt_le l p
  have b1 := hb k hl
  have bj := hb j hj
  have g1 := hc k hl
  have gj := hc j hj
  by_cases hjk : j = k
  · subst hjk; omega
  · split at hk
    · have := hu.lt hl (i := j) (by omega)
      unfold ds; omega
    · by_cases h2 : j < k
      · have := hu.lt hl h2
        unfold ds; omega
      · have := hu.lt hj (i := k) (by omega)
        unfold ds; omega
/-- whose arc begins nearest behind p, that is the owner. -/
theorem owner_near {l : List Ar} (hw : Wf l) (hu : Up l) {p : Int} (hp : 0 ≤ p ∧ p < 4294967296) {a : Ar} (ha : a ∈ l) (hn : ∀ b ∈ l, ds a.f p ≤ ds b.f p) : ownerF l p = a.s := by
  obtain ⟨j, hj, rfl⟩ := List.getElem_of_mem ha
  have h1 : 1 ≤ l.length := by omega
  have h2 := place_near hw hu h1 hp j hj
  have h3 := hn _ (List.getElem_mem (place_lt h1 p))
  have h4 := ds_inj (hw _ (List.getElem_mem (place_lt h1 p))) (hw _ (List.getElem_mem hj)) (Int.le_antisymm h2 h3)
  rw [owner_in h1]
  by_cases hjk : placeF l p = j
  · subst hjk; rfl
  · rcases Nat.lt_or_gt_of_ne hjk with g | g
    · have := hu.lt hj g; omega
    · have := hu.lt (place_lt h1 p) g; omega
theorem near_owner {l : List Ar} (hw : Wf l) (hu : Up l) (h : 1 ≤ l.length) {p : Int} (hp : 0 ≤ p ∧ p < 4294967296) : ∃ a ∈ l, ownerF l p = a.s ∧ ∀ b ∈ l, ds a.f p ≤ ds b.f p :=
  ⟨_, List.getElem_mem (place_lt h p), owner_in h p, fun b hb => by
    obtain ⟨j, hj, rfl⟩ := List.getElem_of_mem hb
    exact place_near hw hu h hp j hj⟩
theorem in_owner {l : List Ar} (hw : Wf l) (hu : Up l) (h : 1 ≤ l.length) {p : Int} (hp : 0 ≤ p ∧ p < 4294967296) : ∃ t ∈ ringT l, ds t.f p < wd t.f t.e ∧ t.s = ownerF l p := by
  refine ⟨_, List.getElem_mem (n := placeF l p) (by rw [ring_length]; exact place_lt h p), ?_⟩
  rw [ring_get l _ (place_lt h p)]
  exact ⟨place_in hw hu h hp, (owner_in h p).symm⟩
/-- in whose arc p is, that is the owner. -/
theorem owner_of_in {l : List Ar} (hw : Wf l) (hu : Up l) {p : Int} (hp : 0 ≤ p ∧ p < 4294967296) {t : Tr} (ht : t ∈ ringT l) (hin : ds t.f p < wd t.f t.e) : ownerF l p = t.s := by
  obtain ⟨k, hk, rfl⟩ := List.getElem_of_mem ht
  rw [ring_length] at hk
  rw [ring_get l k hk] at hin ⊢
  simp only at hin ⊢
  have h1 : 1 ≤ l.length := by omega
  have hb : ∀ k (g : k < l.length), 0 ≤ l[k].f ∧ l[k].f < 4294967296 := fun k g => hw _ (List.getElem_mem g)
  refine owner_near hw hu hp (List.getElem_mem hk) fun b hb' => ?_
  obtain ⟨j, hj, rfl⟩ := List.getElem_of_mem hb'
  have bk := hb k hk
  have bj := hb j hj
  by_cases hjk : j = k
  · subst hjk; omega
  · unfold nx at hin
    split at hin
    · rename_i hl
      have bn := hb (k + 1) hl
      have := hu.lt hl (i := k) (by omega)
      rcases Nat.lt_or_gt_of_ne hjk with g | g
      · have := hu.lt hk g
        unfold ds wd at *; omega
      · by_cases hj1 : j = k + 1
        · subst hj1; unfold ds wd at *; omega
        · have := hu.lt hj (i := k + 1) (by omega)
          unfold ds wd at *; omega
    · rename_i hl
      rw [hd_get h1] at hin
      have b0 := hb 0 (by omega)
      have hjk' := hu.lt hk (i := j) (by omega)
      by_cases hj0 : j = 0
      · subst hj0; unfold ds wd at *; omega
      · have := hu.lt hj (i := 0) (by omega)
        unfold ds wd at *; omega

end Go.Proofs.Ythohjcfpobeplaa.Rg
