/-
  alike.
  Same's couples: what is to be looked at, what is known of it, and a couple's children.
  Same's stack of couples, and its map, in memory.
-/
import Derived.Test.YtjnnpgmgjdhfjaaQMayxfabf
import Derived.Test.YtjnnpgmgjdhfjaaQSamexfdfd
import Derived.WalkSmall
import Derived.Lib.OwnKind
namespace Go.Proofs.Ytjnnpgmgjdhfjaa
open Go.RowKit
set_option linter.unusedVariables false

/-- two items are the same but for the items within. -/
def Alike (x y : It) : Prop := x.name = y.name ∧ x.kind = y.kind ∧ x.n = y.n ∧ x.s = y.s ∧ x.sub.length = y.sub.length

set_option maxRecDepth 100000 in
set_option maxHeartbeats 4000000 in
theorem alike_core (n1 n2 : ByteArray) (k1 k2 m1 m2 : Int) (s1 s2 : ByteArray) (p q : Nat) (hp : p ≤ maxLen) (hq : q ≤ maxLen) (a b : Option Addr) (cap cap' : Nat) (w : World) :
    Calls Try.prog 78 #[.agg #[.string n1, .int .i64 k1, .int .i64 m1, .string s1, .slice a p cap], .agg #[.string n2, .int .i64 k2, .int .i64 m2, .string s2, .slice b q cap']] w
      (SaysB (n1 = n2 ∧ k1 = k2 ∧ m1 = m2 ∧ s1 = s2 ∧ p = q) w) := by
  unfold maxLen at hp hq
  have hbel : ∀ o o' : Obj, Below w.heap.size w ((w.alloc o).alloc o') := fun o o' => ((Below.refl _ _).alloc (Nat.le_refl _) _).alloc (by simp) _
  have HB := Lib.hid hbel
  clear hbel
  by_cases h1 : n1 = n2
  · have hb1 := beq_str h1
    have H1 := Lib.hid h1
    clear h1
    by_cases h2 : k1 = k2
    · have hb2 : (k1 == k2) = true := by simpa using h2
      have H2 := Lib.hid h2
      clear h2
      by_cases h3 : m1 = m2
      · have hb3 : (m1 == m2) = true := by simpa using h3
        have H3 := Lib.hid h3
        clear h3
        by_cases h4 : s1 = s2
        · have hb4 := beq_str h4
          have H4 := Lib.hid h4
          clear h4
          by_cases h5 : p = q
          · subst h5
            go_enter Try.func78, Try.ntmps78
            go_wp2
            all_goals
              go_ret
              exact ⟨true, ⟨fun _ => ⟨H1.out, H2.out, H3.out, H4.out, by simp⟩, fun _ => rfl⟩, rfl, HB.out _ _⟩
          · have hb5 : ((p : Int) == (q : Int)) = false := by rw [beq_eq_false_iff_ne]; omega
            have H5 := Lib.hid h5
            clear h5
            go_enter Try.func78, Try.ntmps78
            go_wp2
            all_goals
              go_ret
              exact ⟨false, ⟨(fun h => by cases h), fun h => absurd h.2.2.2.2 H5.out⟩, rfl, HB.out _ _⟩
        · have hb4 := bne_str h4
          have H4 := Lib.hid h4
          clear h4
          go_enter Try.func78, Try.ntmps78
          go_wp2
          all_goals
            go_ret
            exact ⟨false, ⟨(fun h => by cases h), fun h => absurd h.2.2.2.1 H4.out⟩, rfl, HB.out _ _⟩
      · have hb3 : (m1 == m2) = false := by simpa using h3
        have H3 := Lib.hid h3
        clear h3
        go_enter Try.func78, Try.ntmps78
        go_wp2
        all_goals
          go_ret
          exact ⟨false, ⟨(fun h => by cases h), fun h => absurd h.2.2.1 H3.out⟩, rfl, HB.out _ _⟩
    · have hb2 : (k1 == k2) = false := by simpa using h2
      have H2 := Lib.hid h2
      clear h2
      go_enter Try.func78, Try.ntmps78
      go_wp2
      all_goals
        go_ret
        exact ⟨false, ⟨(fun h => by cases h), fun h => absurd h.2.1 H2.out⟩, rfl, HB.out _ _⟩
  · have hb1 := bne_str h1
    have H1 := Lib.hid h1
    clear h1
    go_enter Try.func78, Try.ntmps78
    go_wp2
    all_goals
      go_ret
      exact ⟨false, ⟨(fun h => by cases h), fun h => absurd h.1 H1.out⟩, rfl, HB.out _ _⟩

theorem alike_any (x y : It) (a b : Option Addr) (cap cap' : Nat) (w : World) (hx : x.sub.length ≤ maxLen) (hy : y.sub.length ≤ maxLen) :
    Calls Try.prog 78 #[.agg #[.string x.name, .int .i64 x.kind, .int .i64 x.n, .string x.s, .slice a x.sub.length cap], .agg #[.string y.name, .int .i64 y.kind, .int .i64 y.n, .string y.s, .slice b y.sub.length cap']] w (SaysB (Alike x y) w) :=
  alike_core _ _ _ _ _ _ _ _ _ _ hx hy a b cap cap' w

end Go.Proofs.Ytjnnpgmgjdhfjaa

namespace Go.Proofs.Ytjnnpgmgjdhfjaa
open Go.RowKit
set_option linter.unusedVariables false

/-- a couple that is still to be looked at; bs: the blocks of its first list, and of the lists within. -/
structure Cp where
  a : Option Addr
  ca : Nat
  la : List It
  b : Option Addr
  cb : Nat
  lb : List It
  bs : List Nat
/-- its two cells. -/
def cc (c : Cp) : List Value := [.slice c.a c.la.length c.ca, .slice c.b c.lb.length c.cb]
def AlikeT (l m : List It) : Prop := l.length = m.length ∧ ∀ i (h : i < l.length) (h' : i < m.length), Alike l[i] m[i]
def Whole (cs : List Cp) : Prop := ∀ c ∈ cs, c.la = c.lb
def wsum : List Cp → Nat
  | [] => 0
  | c :: r => weigh c.la + wsum r
theorem wsum_append : ∀ r d : List Cp, wsum (r ++ d) = wsum r + wsum d
  | [], d => by simp [wsum]
  | c :: r, d => by simp [wsum, wsum_append r d]; omega
theorem len_wsum : ∀ cs : List Cp, cs.length ≤ wsum cs
  | [] => by simp [wsum]
  | c :: r => by have := weigh_pos c.la; have := len_wsum r; simp [wsum]; omega
theorem weigh_append : ∀ (l : List It) (x : It), weigh (l ++ [x]) = weigh l + weigh x.sub
  | [], x => by simp [weigh, weigh_cons]; omega
  | y :: l, x => by rw [List.cons_append, weigh_cons, weigh_cons, weigh_append l x]; omega

theorem weigh_take : ∀ (l : List It) (k : Nat), weigh (l.take k) ≤ weigh l
  | [], k => by simp
  | x :: l, 0 => by have := weigh_pos (x :: l); simp [weigh]; omega
  | x :: l, k + 1 => by have := weigh_take l k; rw [List.take_succ_cons, weigh_cons, weigh_cons]; omega

structure CpOk (w : World) (B : Nat) (c : Cp) : Prop where
  ta : SlAt w c.bs c.a c.ca c.la
  low : ∀ x ∈ c.bs, x < B
  tb : TbU w B c.b c.cb c.lb
  len : c.la.length = c.lb.length
theorem CpOk.below {w w' : World} {B : Nat} {c : Cp} (h : CpOk w B c) (hb : Below B w w') : CpOk w' B c := ⟨h.ta.under hb h.low, h.low, h.tb.below hb, h.len⟩
theorem CpOk.up {w : World} {B : Nat} {c : Cp} (h : CpOk w B c) : TbU w B c.a c.ca c.la := ⟨_, h.ta, h.low⟩

/-- the first list's blocks are nobody else's, and none was met. -/
structure Sep (w : World) (cs : List Cp) (S : Option Addr → Prop) : Prop where
  nodup : (cs.flatMap Cp.bs).Nodup
  plain : ∀ x ∈ cs.flatMap Cp.bs, ∃ c t, w.heap[x]? = some (.cells c t (0, 0))
  shun : ∀ q, S q → ∀ x, q = some x → x.block ∉ cs.flatMap Cp.bs

/-- what is known at the label. -/
structure Met (B : Nat) (c0 : Cp) (fresh : Prop) (w : World) (cs : List Cp) (S : Option Addr → Prop) : Prop where
  ok : ∀ c ∈ cs, CpOk w B c
  eq : c0.la = c0.lb → Whole cs
  top : (AlikeT c0.la c0.lb ∧ ∀ c ∈ cs, 0 < c.la.length) ∨ ((∀ q, ¬ S q) ∧ cs = [c0])
  sep : fresh → Sep w cs S ∧ (Whole cs → c0.la = c0.lb)
theorem Met.below {B : Nat} {c0 : Cp} {fresh : Prop} {w w' : World} {cs : List Cp} {S : Option Addr → Prop} (h : Met B c0 fresh w cs S) (hb : Below B w w') : Met B c0 fresh w' cs S := by
  refine ⟨fun c hc => (h.ok c hc).below hb, h.eq, h.top, fun hf => ?_⟩
  obtain ⟨h1, h2⟩ := h.sep hf
  refine ⟨⟨h1.nodup, fun x hx => ?_, h1.shun⟩, h2⟩
  obtain ⟨c, hc, hx'⟩ := List.mem_flatMap.1 hx
  obtain ⟨k, t, e⟩ := h1.plain x hx
  exact ⟨k, t, (hb.block x ((h.ok c hc).low x hx')).trans e⟩

def it0 : It := .mk ByteArray.empty 0 0 ByteArray.empty []
/-- the couple of two items' lists. -/
def kid (vs vs' : Nat → Option Addr × Nat) (bss : Nat → List Nat) (la lb : List It) (k : Nat) : Cp := ⟨(vs k).1, (vs k).2, (la.getD k it0).sub, (vs' k).1, (vs' k).2, (lb.getD k it0).sub, bss k⟩
/-- .. of the first k items, but for empty ones. -/
def kids (vs vs' : Nat → Option Addr × Nat) (bss : Nat → List Nat) (la lb : List It) : Nat → List Cp
  | 0 => []
  | k + 1 => kids vs vs' bss la lb k ++ (if (la.getD k it0).sub.length = 0 then [] else [kid vs vs' bss la lb k])

section
variable {vs vs' : Nat → Option Addr × Nat} {bss : Nat → List Nat} {la lb : List It}
theorem kids_of : ∀ {k : Nat} {x : Cp}, x ∈ kids vs vs' bss la lb k → ∃ i, i < k ∧ 0 < (la.getD i it0).sub.length ∧ x = kid vs vs' bss la lb i
  | k + 1, x, h => by
    rw [kids, List.mem_append] at h
    rcases h with h | h
    · obtain ⟨i, hi, h1, h2⟩ := kids_of h
      exact ⟨i, by omega, h1, h2⟩
    · split at h
      · simp at h
      · simp only [List.mem_singleton] at h
        exact ⟨k, by omega, by omega, h⟩
  | 0, x, h => by simp [kids] at h
theorem of_kids : ∀ {k i : Nat}, i < k → 0 < (la.getD i it0).sub.length → kid vs vs' bss la lb i ∈ kids vs vs' bss la lb k
  | k + 1, i, h, hp => by
    rw [kids, List.mem_append]
    by_cases e : i = k
    · subst e
      right
      rw [if_neg (by omega)]
      simp
    · exact .inl (of_kids (by omega) hp)
theorem kids_sum : ∀ {k : Nat}, k ≤ la.length → wsum (kids vs vs' bss la lb k) + 1 ≤ weigh (la.take k)
  | 0, _ => by simp [kids, wsum, weigh]
  | k + 1, h => by
    have ih := kids_sum (k := k) (by omega)
    have e : la.getD k it0 = la[k] := by simp [List.getD, List.getElem?_eq_getElem (show k < la.length by omega)]
    rw [List.take_succ_eq_append_getElem (by omega), weigh_append, kids, wsum_append, e]
    split
    · simp [wsum]; omega
    · simp only [wsum, kid, e]; omega
theorem kids_bs : ∀ (k : Nat), ((kids vs vs' bss la lb k).flatMap Cp.bs).Sublist ((List.range k).flatMap bss)
  | 0 => by simp [kids]
  | k + 1 => by
    rw [kids, List.flatMap_append, List.range_succ, List.flatMap_append]
    refine (kids_bs k).append ?_
    split
    · simp
    · simp [kid]
end

/-- a couple's lists, item by item. -/
structure Opened (w : World) (B : Nat) (c : Cp) (ba oa bb ob : Nat) (vs vs' : Nat → Option Addr × Nat) (bss : Nat → List Nat) : Prop where
  bs : c.bs = (if c.la.length = 0 then [] else [ba]) ++ (List.range c.la.length).flatMap bss
  pa : 0 < c.la.length → c.a = some ⟨ba, oa, none⟩ ∧ w.frozen? ⟨ba, oa, none⟩ = false ∧ ba < B
  pb : 0 < c.la.length → c.b = some ⟨bb, ob, none⟩ ∧ bb < B
  ita : ∀ (i : Nat) (h : i < c.la.length), ItAt w ba (oa + i * 5) c.la[i] (.slice (vs i).1 c.la[i].sub.length (vs i).2)
  itb : ∀ (i : Nat) (h : i < c.lb.length), ItAt w bb (ob + i * 5) c.lb[i] (.slice (vs' i).1 c.lb[i].sub.length (vs' i).2)
  kid : ∀ (i : Nat) (h : i < c.la.length), Alike c.la[i] (c.lb.getD i it0) → CpOk w B (kid vs vs' bss c.la c.lb i)
  sla : ∀ (i : Nat) (h : i < c.la.length), c.la[i].sub.length ≤ maxLen
  slb : ∀ (i : Nat) (h : i < c.lb.length), c.lb[i].sub.length ≤ maxLen
  capa : c.la.length ≤ c.ca ∧ c.ca ≤ maxLen
  capb : c.lb.length ≤ c.cb ∧ c.cb ≤ maxLen

theorem CpOk.opened {w : World} {B : Nat} {c : Cp} (h : CpOk w B c) : ∃ ba oa bb ob vs vs' bss, Opened w B c ba oa bb ob vs vs' bss := by
  obtain ⟨a, ca, la, b, cb, lb, bs⟩ := c
  obtain ⟨ta, low, ⟨bs2, tb, low2⟩, len⟩ := h
  replace ta : SlAt w bs a ca la := ta
  replace tb : SlAt w bs2 b cb lb := tb
  cases ta with
  | intro ba oa vs bss hcap hmax ha hfr hc hs =>
    cases tb with
    | intro bb ob vs' bss2 hcap2 hmax2 hb hfr2 hc2 hs2 =>
      simp only at len low low2
      refine ⟨ba, oa, bb, ob, vs, vs', bss, rfl, fun h0 => ⟨ha h0, hfr h0, low ba ?_⟩, fun h0 => ⟨hb (by simp only at h0; omega), low2 bb ?_⟩, hc, hc2, fun i hi hal => ?_, fun i hi => ?_, fun i hi => ?_, ⟨hcap, hmax⟩, ⟨hcap2, hmax2⟩⟩
      · simp only at h0
        rw [if_neg (by omega)]; simp
      · simp only at h0
        rw [if_neg (by omega)]; simp
      · simp only at hi hal
        have e1 : la.getD i it0 = la[i] := by simp [List.getD, List.getElem?_eq_getElem hi]
        have e2 : lb.getD i it0 = lb[i]'(by omega) := by simp [List.getD, List.getElem?_eq_getElem (show i < lb.length by omega)]
        refine ⟨?_, ?_, ?_, ?_⟩
        · simp only [kid, e1]; exact hs i hi
        · simp only [kid]
          intro x hx
          exact low x (List.mem_append.2 (.inr (List.mem_flatMap.2 ⟨i, List.mem_range.2 hi, hx⟩)))
        · simp only [kid, e2]
          exact ⟨_, hs2 i (by omega), fun x hx => low2 x (List.mem_append.2 (.inr (List.mem_flatMap.2 ⟨i, List.mem_range.2 (by omega), hx⟩)))⟩
        · simp only [kid, e1]
          exact hal.2.2.2.2
      · have := (Tb.len ⟨_, hs i hi⟩); simp only; omega
      · have := (Tb.len ⟨_, hs2 i hi⟩); simp only; omega

theorem Opened.below {w w' : World} {B : Nat} {c : Cp} {ba oa bb ob : Nat} {vs vs' : Nat → Option Addr × Nat} {bss : Nat → List Nat} (h : Opened w B c ba oa bb ob vs vs' bss) (hle : c.la.length = c.lb.length) (hb : Below B w w') : Opened w' B c ba oa bb ob vs vs' bss := by
  refine ⟨h.bs, fun h0 => ?_, h.pb, fun i hi => (h.ita i hi).keep (hb.block _ (h.pa (by omega)).2.2), fun i hi => (h.itb i hi).keep (hb.block _ (h.pb (by omega)).2), fun i hi ha => (h.kid i hi ha).below hb, h.sla, h.slb, h.capa, h.capb⟩
  obtain ⟨h1, h2, h3⟩ := h.pa h0
  exact ⟨h1, (hb.frozen (p := ⟨ba, oa, none⟩) h3).trans h2, h3⟩

theorem ext_sub : ∀ {l m : List It}, AlikeT l m → (∀ i (h : i < l.length) (h' : i < m.length), l[i].sub = m[i].sub) → l = m := by
  intro l m h hs
  refine List.ext_getElem h.1 fun i h1 h2 => ?_
  have ha := h.2 i h1 h2
  have hb := hs i h1 h2
  revert ha hb
  generalize l[i] = x
  generalize m[i] = y
  obtain ⟨n1, k1, m1, s1, u1⟩ := x
  obtain ⟨n2, k2, m2, s2, u2⟩ := y
  rintro ⟨h1, h2, h3, h4, h5⟩ h6
  simp only [It.name_mk, It.kind_mk, It.n_mk, It.s_mk, It.sub_mk] at h1 h2 h3 h4 h5 h6
  subst h1; subst h2; subst h3; subst h4; subst h6
  rfl

/-- a couple was met ahead: it goes, and nothing else turns. -/
theorem Met.skip {B : Nat} {c0 : Cp} {fresh : Prop} {w : World} {r : List Cp} {c : Cp} {S : Option Addr → Prop} (h : Met B c0 fresh w (r ++ [c]) S)
    (hm : ∃ q, S q ∧ (PtrPlain w (pl c.a c.la) → pl c.a c.la = q)) : Met B c0 fresh w r S := by
  obtain ⟨q, hq, hpl⟩ := hm
  rcases h.top with ⟨ht, hp⟩ | ⟨hn, _⟩
  · have hc := h.ok c (by simp)
    have h0 := hp c (by simp)
    obtain ⟨ba, oa, bb, ob, vs, vs', bss, ho⟩ := hc.opened
    obtain ⟨e, _, _⟩ := ho.pa h0
    refine ⟨fun x hx => h.ok x (by simp [hx]), fun e x hx => h.eq e x (by simp [hx]), .inl ⟨ht, fun x hx => hp x (by simp [hx])⟩, fun hf => ?_⟩
    exfalso
    obtain ⟨hs, _⟩ := h.sep hf
    have hmem : ba ∈ (r ++ [c]).flatMap Cp.bs := by
      rw [List.flatMap_append, List.mem_append]
      right
      simp only [List.flatMap_cons, List.flatMap_nil, List.append_nil]
      rw [ho.bs, if_neg (by omega)]
      simp
    have hpe : pl c.a c.la = some ⟨ba, oa, none⟩ := by unfold pl; rw [if_neg (by omega), e]
    have := hpl (fun a ha => by
      rw [hpe] at ha
      cases ha
      exact hs.plain ba hmem)
    rw [hpe] at this
    exact hs.shun q hq _ this.symm hmem
  · exact absurd hq (hn q)

/-- a couple is gone through: its children stand in its place. -/
theorem Met.next {B : Nat} {c0 : Cp} {fresh : Prop} {w : World} {r : List Cp} {c : Cp} {S : Option Addr → Prop} (h : Met B c0 fresh w (r ++ [c]) S) {ba oa bb ob : Nat} {vs vs' : Nat → Option Addr × Nat} {bss : Nat → List Nat} (ho : Opened w B c ba oa bb ob vs vs' bss)
    (hal : ∀ i, i < c.la.length → Alike (c.la.getD i it0) (c.lb.getD i it0)) :
    Met B c0 fresh w (r ++ kids vs vs' bss c.la c.lb c.la.length) (fun p => S p ∨ p = pl c.a c.la) := by
  have hc := h.ok c (by simp)
  have hlen := hc.len
  have gd : ∀ (l : List It) (i : Nat) (hi : i < l.length), l.getD i it0 = l[i] := fun l i hi => by simp [List.getD, List.getElem?_eq_getElem hi]
  have hAT : AlikeT c.la c.lb := ⟨hlen, fun i h1 h2 => by
    have := hal i h1
    rwa [gd _ _ h1, gd _ _ h2] at this⟩
  have hkid : ∀ i, (hi : i < c.la.length) → CpOk w B (kid vs vs' bss c.la c.lb i) := fun i hi => ho.kid i hi (by
    have := hal i hi
    rwa [gd _ _ hi] at this)
  have heqk : c.la = c.lb ↔ Whole (kids vs vs' bss c.la c.lb c.la.length) := by
    constructor
    · intro e x hx
      obtain ⟨i, hi, h0, rfl⟩ := kids_of hx
      simp only [kid]
      rw [← e]
    · intro hW
      refine ext_sub hAT fun i h1 h2 => ?_
      by_cases h0 : 0 < c.la[i].sub.length
      · have := hW _ (of_kids (vs := vs) (vs' := vs') (bss := bss) (la := c.la) (lb := c.lb) h1 (by rw [gd _ _ h1]; exact h0))
        simp only [kid] at this
        rwa [gd _ _ h1, gd _ _ h2] at this
      · have := (hAT.2 i h1 h2).2.2.2.2
        rw [List.eq_nil_of_length_eq_zero (show c.la[i].sub.length = 0 by omega), List.eq_nil_of_length_eq_zero (show c.lb[i].sub.length = 0 by omega)]
  have htop : AlikeT c0.la c0.lb ∧ ∀ x ∈ r, 0 < x.la.length := by
    rcases h.top with ⟨ht, hp⟩ | ⟨hn, e⟩
    · exact ⟨ht, fun x hx => hp x (by simp [hx])⟩
    · have : r = [] ∧ c = c0 := by
        cases r with
        | nil => simpa using e
        | cons x r' => simp at e
      obtain ⟨rfl, rfl⟩ := this
      exact ⟨hAT, by simp⟩
  have hbs : ((r ++ kids vs vs' bss c.la c.lb c.la.length).flatMap Cp.bs).Sublist ((r ++ [c]).flatMap Cp.bs) := by
    rw [List.flatMap_append, List.flatMap_append]
    refine (List.Sublist.refl _).append ?_
    simp only [List.flatMap_cons, List.flatMap_nil, List.append_nil]
    rw [ho.bs]
    exact (kids_bs _).trans (List.sublist_append_right _ _)
  refine ⟨fun x hx => ?_, fun e => ?_, .inl ⟨htop.1, fun x hx => ?_⟩, fun hf => ⟨⟨?_, ?_, ?_⟩, fun hW => ?_⟩⟩
  · rcases List.mem_append.1 hx with hx | hx
    · exact h.ok x (by simp [hx])
    · obtain ⟨i, hi, h0, rfl⟩ := kids_of hx
      exact hkid i hi
  · have hW := h.eq e
    intro x hx
    rcases List.mem_append.1 hx with hx | hx
    · exact hW x (by simp [hx])
    · exact heqk.1 (hW c (by simp)) x hx
  · rcases List.mem_append.1 hx with hx | hx
    · exact htop.2 x hx
    · obtain ⟨i, hi, h0, rfl⟩ := kids_of hx
      exact h0
  · exact (h.sep hf).1.nodup.sublist hbs
  · exact fun x hx => (h.sep hf).1.plain x (hbs.subset hx)
  · intro q hq x hx hm
    rcases hq with hq | rfl
    · exact (h.sep hf).1.shun q hq x hx (hbs.subset hm)
    · have h0 : 0 < c.la.length := by
        unfold pl at hx
        split at hx
        · cases hx
        · omega
      have hpe : pl c.a c.la = some ⟨ba, oa, none⟩ := by unfold pl; rw [if_neg (by omega), (ho.pa h0).1]
      rw [hpe] at hx
      cases hx
      have hnd := (h.sep hf).1.nodup
      rw [List.flatMap_append, List.nodup_append] at hnd
      simp only [List.flatMap_cons, List.flatMap_nil, List.append_nil] at hnd
      obtain ⟨_, hn2, hn3⟩ := hnd
      rw [ho.bs, if_neg (by omega)] at hn2 hn3
      rw [List.flatMap_append, List.mem_append] at hm
      rcases hm with hm | hm
      · exact hn3 _ hm _ (by simp) rfl
      · have := (kids_bs (vs := vs) (vs' := vs') (bss := bss) (la := c.la) (lb := c.lb) c.la.length).subset hm
        rw [List.singleton_append, List.nodup_cons] at hn2
        exact hn2.1 this
  · refine (h.sep hf).2 fun x hx => ?_
    rcases List.mem_append.1 hx with hx | hx
    · exact hW x (by simp [hx])
    · simp only [List.mem_singleton] at hx
      subst hx
      exact heqk.2 fun y hy => hW y (by simp [hy])

end Go.Proofs.Ytjnnpgmgjdhfjaa

namespace Go.Proofs.Ytjnnpgmgjdhfjaa
open Go.RowKit
set_option linter.unusedVariables false

/-- the stack lies in block g, the map in block M. -/
structure Sst (B : Nat) (w0 w : World) (M g cap : Nat) (cs : List Cp) (S : Option Addr → Prop) : Prop where
  hB : B ≤ w0.heap.size
  bel : Below B w0 w
  hM : B ≤ M
  hg : B ≤ g
  row : w.ownsRow B 118 2 (.slice (some ⟨g, 0, none⟩) cs.length cap) cs.length (cs.flatMap cc)
  map : MapIs w B M S
section
variable {B M g cap : Nat} {w0 w w' : World} {cs r : List Cp} {c : Cp} {S : Option Addr → Prop}
theorem Sst.size (h : Sst B w0 w M g cap cs S) : B ≤ w.heap.size := Nat.le_trans h.hB h.bel.size
theorem Sst.below (h : Sst B w0 w M g cap cs S) (hb : Below w.heap.size w w') : Sst B w0 w' M g cap cs S :=
  ⟨h.hB, h.bel.trans (hb.mono h.size), h.hM, h.hg, h.row.kept (row := none) ⟨hb.os, hb.tape, hb.output, hb.size, fun i hi _ => hb.block i hi⟩ (.inr (by simp [Value.ownBlock])), h.map.keep (hb.mono h.size) (hb.block M h.map.lt)⟩
theorem Sst.ne (h : Sst B w0 w M g cap cs S) : g ≠ M := by
  intro e
  subst e
  obtain ⟨es, k, hm, _⟩ := h.map
  obtain ⟨k, t, hg⟩ := Lib.ownsRow_kind h.row g rfl
  rw [hm] at hg
  cases hg
theorem Sst.lt (h : Sst B w0 w M g cap cs S) : g < w.heap.size := (h.row.lt g rfl).2
theorem Sst.pop (h : Sst B w0 w M g cap (r ++ [c]) S) : Sst B w0 w M g cap r S := by
  refine ⟨h.hB, h.bel, h.hM, h.hg, ?_, h.map⟩
  have := h.row
  rw [List.length_append, List.flatMap_append] at this
  refine ownsRow_pop (last := cc c) ?_ (by simpa using this)
  clear this h
  induction r with
  | nil => simp
  | cons x r ih => simp [ih, cc]; omega
theorem flat_len : ∀ cs : List Cp, (cs.flatMap cc).length = cs.length * 2
  | [] => by simp
  | x :: r => by simp [flat_len r, cc]; omega
theorem Sst.cells (h : Sst B w0 w M g cap (r ++ [c]) S) :
    w.cell? ⟨g, r.length * 2, none⟩ = some (.slice c.a c.la.length c.ca) ∧ w.cell? ⟨g, r.length * 2 + 1, none⟩ = some (.slice c.b c.lb.length c.cb) ∧ w.frozen? ⟨g, 0, none⟩ = false := by
  have h1 := h.row.cellAt (r.length * 2) (by simp)
  have h2 := h.row.cellAt (r.length * 2 + 1) (by rw [List.length_append, List.length_singleton]; omega)
  rw [List.flatMap_append, List.getElem?_append_right (by rw [flat_len]; omega)] at h1 h2
  rw [flat_len] at h1 h2
  refine ⟨by rw [h1]; simp [cc], by rw [h2, show r.length * 2 + 1 - r.length * 2 = 1 by omega]; simp [cc], h.row.frozenAt 0⟩
theorem Sst.capOk (h : Sst B w0 w M g cap cs S) : cs.length ≤ cap ∧ cap ≤ maxLen := by
  rcases h.row.2 with ⟨e, _⟩ | ⟨g', cap', cur, hv, hg, hh, hn, hcap, hsz, htake⟩
  · cases e
  · cases hv
    exact ⟨hn, hcap⟩
theorem Sst.upd {S' : Option Addr → Prop} (h : Sst B w0 w M g cap cs S) (hg : w.grownBy w' (some M)) (hm : MapIs w' B M S') : Sst B w0 w' M g cap cs S' :=
  ⟨h.hB, h.bel.grown hg h.size (fun k e => by cases e; exact h.hM), h.hM, h.hg, h.row.kept hg (.inr (by simpa [Value.ownBlock] using h.ne)), hm⟩

theorem couple_info : (Try.prog.info? 118).map (fun i => (i.zero, i.size, i.bytes)) = some (some (.agg #[.slice none 0 0, .slice none 0 0]), 2, 48) := by kernel_rfl

/-- a couple more: its cells lie in the block made last. -/
theorem put_couple {ops : Array Oper} {rest : List Oper} {o : Oper} {a : Act} {Q : Exit → Act → World → Prop} {os : Array Value} (hgd : o.guard = none) (s x : Operand)
    (ho : o.op = .call { callee := .builtin .append, args := #[s, x], argTypes := #[119, 119] }) (c : Cp) (hb : Sst B w0 w M g cap cs S) (hl : cs.length ≤ 100000) (hcs : os = (cc c).toArray) (N : Nat) (hN : N = cs.length)
    (hs : a.eval s = .slice (some ⟨g, 0, none⟩) N cap) (H : Nat) (hH : w.heap.size = H) (hx : a.eval x = .slice (some ⟨H, 0, none⟩) 1 1)
    (h : ∀ g' cap' w', Sst B w0 w' M g' cap' (cs ++ [c]) S → w.grownBy w' (some g) → (g' = g ∨ w.heap.size ≤ g') →
      wpList Try.prog ops Q rest (a.put o.dst (.slice (some ⟨g', 0, none⟩) (N + 1) cap')) w') :
    wpList Try.prog ops Q (o :: rest) a (w.alloc (.cells os 118)) := by
  subst hcs
  subst hN
  subst hH
  obtain ⟨i0, hi, hz0, hz1, hz2⟩ := info_parts couple_info
  have hb' := World.ownsRow.alloc hb.row (.cells (cc c).toArray 118)
  have hone : ∀ u ∈ cc c, u.oneCell' = true := by
    intro u hu
    simp only [cc, List.mem_cons, List.not_mem_nil, or_false] at hu
    rcases hu with rfl | rfl <;> rfl
  refine wpList_append_lies _ hgd s x 119 ho B 118 i0 _ 2 48 Try.underlying119 hi hz0 hz1 hz2 rfl (by decide) _ cs.length (cs.flatMap cc) hs hb' ⟨w.heap.size, 0, none⟩ 1 1 (cc c) hx (by simp [cc]) (World.news_of_block (heap_alloc_new w _)) hone (by decide) (by unfold maxLen; omega) (by omega) (by simp; have := hb.size; omega) _ rfl ?_
  intro g' cap' w' hown hg hat hlt
  have hgb := alloc_before hg
  have hat' : g' = g ∨ w.heap.size ≤ g' := by
    rcases hat with h1 | h1
    · exact .inl (by simpa [Value.ownBlock] using h1.symm)
    · exact .inr (by simp at h1; omega)
  have hBel : Below B w w' := (Below.refl B w).grown hgb hb.size (fun k e => by cases e; exact hb.hg)
  refine h g' cap' w' ⟨hb.hB, hb.bel.trans hBel, hb.hM, ?_, ?_, hb.map.keep hBel (hgb.block M hb.map.lt (fun e => hb.ne (by simpa [Value.ownBlock] using e.symm)))⟩ hgb hat'
  · rcases hat' with rfl | h1
    · exact hb.hg
    · have := hb.size; omega
  · rw [List.length_append, List.flatMap_append]
    simpa using hown
end

end Go.Proofs.Ytjnnpgmgjdhfjaa
