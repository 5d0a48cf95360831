/-
  shard.holds, find, Last, walked; the document's Last, locked.
  shard.mayMarks, mayHeld, mayCount, walked.
  What a batch may be, on the way.
-/
import Derived.Test.YthohjcfpobeplaaShLeaf
import Derived.Test.YthohjcfpobeplaaScope
import Derived.Deep.LoopGhost
import Derived.BigQuiet

namespace Go.Proofs.Ythohjcfpobeplaa.Sh
open Go.RowKit Rg Go.Sort
set_option linter.unusedVariables false
set_option linter.unusedSimpArgs false

def pl (o : Option Nat) : Int := match o with | none => -1 | some i => (i : Int)
/-- has one of them that key? -/
def hasK (l : List Hd) (k : List UInt8) : Bool := l.any fun h => decide (h.m.key = k)
theorem hasK_cons (x : Hd) (l : List Hd) (k : List UInt8) : hasK (x :: l) k = (decide (x.m.key = k) || hasK l k) := rfl

def holdsRel (l : List Hd) (k : List UInt8) (w : World) (m : Nat) (a' : Act) (w' : World) : Prop :=
  ∃ (r : List Hd) (a : Option Addr) (cap : Nat) (u5 u6 u7 u8 u9 u10 u11 u12 u13 u14 u15 u16 : Value), a' = { tmps := #[.slice a r.length cap, .string ⟨k.toArray⟩, undef, undef, .bool false, u5, u6, u7, u8, u9, u10, u11, u12, u13, u14, u15, u16], defers := [] } ∧
    m = r.length ∧ HdsAt w a cap r ∧ hasK l k = hasK r k ∧ w = w'
set_option maxRecDepth 100000 in
set_option maxHeartbeats 1000000 in
theorem holds_any (a : Option Addr) (cap : Nat) (l : List Hd) (k : List UInt8) (w : World) (hf : HdsAt w a cap l) :
    Calls Try.prog 109 #[.slice a l.length cap, .string ⟨k.toArray⟩] w fun e w' => e = .returned (.bool (hasK l k)) ∧ w = w' := by
  have HF := Lib.hid hf
  clear hf
  go_enter Try.func109, Try.ntmps109
  go_wp2_with fail
  refine wp_scope_ghost 0 (holdsRel l k w) rfl ?_ ?_
  · intro H hb'
    have HBK := Lib.hid hb'
    clear hb'
    go_wp2_with fail
    go_step3
    rename_i hK
    refine hK _ _ (HBK.out l.length _ _ ⟨l, a, cap, ?_⟩)
    repeat apply Exists.intro
    exact ⟨rfl, rfl, HF.out, rfl, rfl⟩
  · rintro m a' w' ⟨r, a, cap, u5, u6, u7, u8, u9, u10, u11, u12, u13, u14, u15, u16, rfl, rfl, hr, he, rfl⟩ H hH
    have HH := Lib.hid hH
    have HR := Lib.hid hr
    have HE := Lib.hid he
    clear hH hr he
    cases r with
    | nil =>
      go_wp2_with fail
      simp only [Exit.jump]
      go_ret
      exact ⟨by rw [HE.out]; rfl, rfl⟩
    | cons x r =>
      have n0 : (0 : Int) < (r.length : Int) + 1 := by omega
      have n1 : 0 < r.length + 1 := by omega
      have hmax := HR.out.max
      have hlen := HR.out.len
      unfold maxLen at hmax
      simp only [List.length_cons] at hlen
      have n2 : ((r.length : Int) + 1 == 0) = false := by rw [beq_eq_false_iff_ne]; omega
      obtain ⟨b, o, a2, rfl, hc, hr2, h1c, hn2, hsl⟩ := hdE.head HR.out
      have c3 := hc 3 _ rfl
      have HR2 := Lib.hid hr2
      clear hr2 hc
      by_cases hk : x.m.key = k
      · have HK := Lib.hid hk
        have e1 : (x.m.key == k) = true := by simpa using hk
        have e2 : (x.m.key != k) = false := by simpa using hk
        clear hk
        go_wp2_with fail
        simp only [Exit.jump]
        go_ret
        exact ⟨ret_bool (by rw [HE.out, hasK_cons, decide_eq_true HK.out]; rfl), rfl⟩
      · have HK := Lib.hid hk
        have e1 : (x.m.key == k) = false := by simpa using hk
        have e2 : (x.m.key != k) = true := by simpa using hk
        go_wp2_with fail
        go_step3
        refine ⟨rfl, HH.out r.length _ _ (by simp) ⟨r, a2, cap - 1, ?_⟩⟩
        repeat apply Exists.intro
        exact ⟨rfl, rfl, HR2.out, by rw [HE.out, hasK_cons, decide_eq_false HK.out]; rfl, rfl⟩

def findRel (a : Option Addr) (cap : Nat) (l : List Mk) (p : Int) (k : List UInt8) (w : World) (m : Nat) (a' : Act) (w' : World) : Prop :=
  ∃ (i : Nat) (u8 u9 u10 u11 u12 u13 u14 u15 u16 u17 u18 u19 u20 u21 u22 u23 u24 u25 u26 u27 u28 u29 u30 : Value), a' = { tmps := #[.slice a l.length cap, .int .i64 p, .string ⟨k.toArray⟩, undef, undef, undef, .int .i64 0, .int .i64 i, u8, u9, u10, u11, u12, u13, u14, u15, u16, u17, u18, u19, u20, u21, u22, u23, u24, u25, u26, u27, u28, u29, u30], defers := [] } ∧
    m = l.length - i ∧ i ≤ l.length ∧ (∀ j (h : j < l.length), j < i → lk p k l[j] = false) ∧ w = w'
theorem lk_not {p : Int} {k : List UInt8} {m : Mk} (h : m.pub = p → m.key ≠ k) : lk p k m = false := by
  unfold lk
  exact decide_eq_false fun g => h g.1 g.2
theorem no_more {l : List Mk} {p : Int} {k : List UInt8} {i : Nat} (hno : ∀ j (h : j < l.length), j < i → lk p k l[j] = false) {hi : i < l.length} (h : lk p k l[i] = false) : ∀ j (h : j < l.length), j < i + 1 → lk p k l[j] = false := by
  intro j hj hji
  by_cases e : j = i
  · subst e; exact h
  · exact hno j hj (by omega)
set_option maxRecDepth 100000 in
set_option maxHeartbeats 1000000 in
theorem find_any (a : Option Addr) (cap : Nat) (l : List Mk) (p : Int) (k : List UInt8) (w : World) (hf : MksAt w a cap l) :
    Calls Try.prog 96 #[.slice a l.length cap, .int .i64 p, .string ⟨k.toArray⟩] w fun e w' => e = .returned (.int .i64 (pl (fnd l p k))) ∧ w = w' := by
  have HF := Lib.hid hf
  have hcap := hf.max
  have hlen := hf.len
  unfold maxLen at hcap
  clear hf
  go_enter Try.func96, Try.ntmps96
  go_wp2_with fail
  refine wp_scope_ghost 0 (findRel a cap l p k w) rfl ?_ ?_
  · intro H hb'
    have HBK := Lib.hid hb'
    clear hb'
    go_wp2_with fail
    go_step3
    rename_i hK
    refine hK _ _ (HBK.out l.length _ _ ⟨0, ?_⟩)
    repeat apply Exists.intro
    exact ⟨rfl, by omega, by omega, fun j h hj => by omega, rfl⟩
  · rintro m a' w' ⟨i, u8, u9, u10, u11, u12, u13, u14, u15, u16, u17, u18, u19, u20, u21, u22, u23, u24, u25, u26, u27, u28, u29, u30, rfl, rfl, hi, hno, rfl⟩ H hH
    have HH := Lib.hid hH
    have HNO := Lib.hid hno
    clear hH hno
    by_cases hlt : i < l.length
    · have hlti : (i : Int) < (l.length : Int) := by omega
      have h0i : (0 : Int) ≤ (i : Int) := by omega
      have hne : ((i : Int) == (l.length : Int)) = false := by rw [beq_eq_false_iff_ne]; omega
      have c4 : IntKind.i64.wrap ((i : Int) + 1) = (i : Int) + 1 := IntWalk.i64_in _ (by omega)
      obtain ⟨b, o, rfl, c0, c1, c2⟩ := MksAt.get HF.out i hlt
      by_cases hp : l[i].pub = p
      · have HP := Lib.hid hp
        have e1 : (l[i].pub == p) = true := by simpa using hp
        have e2 : (l[i].pub != p) = false := by simpa using hp
        clear hp
        by_cases hk : l[i].key = k
        · have HK := Lib.hid hk
          have e3 : (l[i].key == k) = true := by simpa using hk
          have e4 : (l[i].key != k) = false := by simpa using hk
          clear hk
          go_wp2_with fail
          simp only [Exit.jump]
          go_ret
          refine ⟨?_, rfl⟩
          rw [show fnd l p k = some i from find_first hlt (by unfold lk; exact decide_eq_true ⟨HP.out, HK.out⟩) (fun j hj => HNO.out j (by omega) hj)]
          rfl
        · have HK := Lib.hid (lk_not (p := p) (k := k) (m := l[i]) fun _ => hk)
          have e3 : (l[i].key == k) = false := by simpa using hk
          have e4 : (l[i].key != k) = true := by simpa using hk
          clear hk
          go_wp2_with fail
          go_step3
          refine ⟨rfl, HH.out (l.length - (i + 1)) _ _ (by omega) ⟨i + 1, ?_⟩⟩
          repeat apply Exists.intro
          exact ⟨rfl, rfl, by omega, no_more HNO.out HK.out, rfl⟩
      · have HK := Lib.hid (lk_not (p := p) (k := k) (m := l[i]) fun h => (hp h).elim)
        have e1 : (l[i].pub == p) = false := by simpa using hp
        have e2 : (l[i].pub != p) = true := by simpa using hp
        clear hp
        go_wp2_with fail
        go_step3
        refine ⟨rfl, HH.out (l.length - (i + 1)) _ _ (by omega) ⟨i + 1, ?_⟩⟩
        repeat apply Exists.intro
        exact ⟨rfl, rfl, by omega, no_more HNO.out HK.out, rfl⟩
    · obtain rfl : i = l.length := by omega
      have hne : ((l.length : Int) == (l.length : Int)) = true := by simp
      go_wp2_with fail
      simp only [Exit.jump]
      go_ret
      refine ⟨?_, rfl⟩
      rw [show fnd l p k = none from find_not (fun j hj => HNO.out j hj hj)]
      rfl

end Go.Proofs.Ythohjcfpobeplaa.Sh

namespace Go.Proofs.Ythohjcfpobeplaa.Sh
open Go.RowKit Rg Go.Sort
set_option linter.unusedVariables false
set_option linter.unusedSimpArgs false

theorem pw_snoc {α : Type} {R : α → α → Prop} {l : List α} {x : α} : (l ++ [x]).Pairwise R ↔ l.Pairwise R ∧ ∀ a ∈ l, R a x := by
  rw [List.pairwise_append]
  simp
theorem pw_take {α : Type} {R : α → α → Prop} {l : List α} (h : l.Pairwise R) (i : Nat) : (l.take i).Pairwise R := h.sublist (List.take_sublist i l)
theorem all_take {α : Type} {p : α → Prop} {l : List α} (h : ∀ m ∈ l, p m) (i : Nat) : ∀ m ∈ l.take i, p m := fun m hm => h m (List.mem_of_mem_take hm)
theorem take_snoc' {α : Type} {l : List α} {i : Nat} (h : i < l.length) : l.take (i + 1) = l.take i ++ [l[i]] := List.take_succ_eq_append_getElem h

def OkMs (l : List Mk) : Prop := (∀ m ∈ l, MayStand m.pub m.seq m.key) ∧ l.Pairwise (fun a b => ¬ (a.pub = b.pub ∧ a.key = b.key))
instance (l : List Mk) : Decidable (OkMs l) := inferInstanceAs (Decidable (_ ∧ _))
theorem OkMs.take {l : List Mk} (h : OkMs l) (i : Nat) : OkMs (l.take i) := ⟨all_take h.1 i, pw_take h.2 i⟩
theorem fnd_none {l : List Mk} {p : Int} {k : List UInt8} : fnd l p k = none ↔ ∀ m ∈ l, ¬ (m.pub = p ∧ m.key = k) := by
  unfold fnd
  rw [List.findIdx?_eq_none_iff]
  simp only [lk, decide_eq_false_iff_not]
theorem OkMs.snoc {l : List Mk} {x : Mk} : OkMs (l ++ [x]) ↔ OkMs l ∧ MayStand x.pub x.seq x.key ∧ fnd l x.pub x.key = none := by
  unfold OkMs
  rw [pw_snoc, fnd_none]
  constructor
  · rintro ⟨h1, h2, h3⟩
    exact ⟨⟨fun m hm => h1 m (by simp [hm]), h2⟩, h1 x (by simp), h3⟩
  · rintro ⟨⟨h1, h2⟩, h3, h4⟩
    refine ⟨fun m hm => ?_, h2, h4⟩
    rcases List.mem_append.1 hm with h | h
    · exact h1 m h
    · obtain rfl := List.mem_singleton.1 h
      exact h3

def marksRel (a : Option Addr) (cap : Nat) (l : List Mk) (w : World) (m : Nat) (a' : Act) (w' : World) : Prop :=
  ∃ (i : Nat) (u4 u5 u6 u7 u8 u9 u10 u11 u12 u13 u14 u15 u16 u17 u18 u19 u20 u21 u22 u23 u24 u25 u26 u27 u28 u29 u30 u31 u32 u33 u34 u35 u36 u37 u38 u39 u40 u41 u42 : Value), a' = { tmps := #[.slice a l.length cap, undef, .bool false, .int .i64 i, u4, u5, u6, u7, u8, u9, u10, u11, u12, u13, u14, u15, u16, u17, u18, u19, u20, u21, u22, u23, u24, u25, u26, u27, u28, u29, u30, u31, u32, u33, u34, u35, u36, u37, u38, u39, u40, u41, u42], defers := [] } ∧
    m = l.length - i ∧ i ≤ l.length ∧ OkMs (l.take i) ∧ Drew w w'
set_option maxRecDepth 100000 in
set_option maxHeartbeats 2000000 in
theorem mayMarks_any (a : Option Addr) (cap : Nat) (l : List Mk) (w : World) (hf : MksAt w a cap l) (hn : a = none → cap = 0) :
    Calls Try.prog 73 #[.slice a l.length cap] w fun e w' => e = .returned (.bool (decide (OkMs l))) ∧ Drew w w' := by
  have HF := Lib.hid hf
  have HN := Lib.hid hn
  have hcap := hf.max
  have hlen := hf.len
  unfold maxLen at hcap
  clear hf hn
  go_enter Try.func73, Try.ntmps73
  go_wp2_with fail
  refine wp_scope_ghost 0 (marksRel a cap l w) rfl ?_ ?_
  · intro H hb'
    have HBK := Lib.hid hb'
    clear hb'
    go_wp2_with fail
    go_step3
    rename_i hK
    refine hK _ _ (HBK.out l.length _ _ ⟨0, ?_⟩)
    repeat apply Exists.intro
    exact ⟨rfl, by omega, by omega, ⟨by simp, by simp⟩, Drew.refl _⟩
  · rintro m a' w' ⟨i, u4, u5, u6, u7, u8, u9, u10, u11, u12, u13, u14, u15, u16, u17, u18, u19, u20, u21, u22, u23, u24, u25, u26, u27, u28, u29, u30, u31, u32, u33, u34, u35, u36, u37, u38, u39, u40, u41, u42, rfl, rfl, hi, hok, hd⟩ H hH
    have HH := Lib.hid hH
    have HOK := Lib.hid hok
    have HD := Lib.hid hd
    have HF1 := Lib.hid (HF.out.below hd.below)
    clear hH hok hd
    by_cases hlt : i < l.length
    · have hlti : (i : Int) < (l.length : Int) := by omega
      have hile : i ≤ l.length := by omega
      have h0i : (0 : Int) ≤ (i : Int) := by omega
      have hne : ((i : Int) == (l.length : Int)) = false := by rw [beq_eq_false_iff_ne]; omega
      have c4 : IntKind.i64.wrap ((i : Int) + 1) = (i : Int) + 1 := IntWalk.i64_in _ (by omega)
      have HFR := Lib.hid (mkE.front HF1.out HN.out i (by omega))
      have hsl := HFR.out.2
      obtain ⟨b, o, rfl, c0, c1, c2⟩ := MksAt.get HF1.out i hlt
      have hst := fun wx => stand_any l[i].pub l[i].seq l[i].key wx
      have hsn : OkMs (l.take (i + 1)) ↔ OkMs (l.take i) ∧ MayStand l[i].pub l[i].seq l[i].key ∧ fnd (l.take i) l[i].pub l[i].key = none := by
        rw [take_snoc' hlt]; exact OkMs.snoc
      have HSN := Lib.hid hsn
      clear hsn
      by_cases hs : MayStand l[i].pub l[i].seq l[i].key
      · have HS := Lib.hid hs
        rw [decide_eq_true hs] at hst
        have hlt2 : (l.take i).length = i := by rw [List.length_take]; omega
        have hfi : ∀ n, Calls Try.prog 96 #[.slice (some ⟨b, o, none⟩) i cap, .int .i64 l[i].pub, .string ⟨l[i].key.toArray⟩] (w'.drewN n) fun e w2 => e = .returned (.int .i64 (pl (fnd (l.take i) l[i].pub l[i].key))) ∧ w'.drewN n = w2 := fun n => by
          have h := find_any (some ⟨b, o, none⟩) cap (l.take i) l[i].pub l[i].key (w'.drewN n) (HFR.out.1.below (Below.drewN (Below.refl _ _) n))
          rwa [hlt2] at h
        clear hs hlt2
        cases hq : fnd (l.take i) l[i].pub l[i].key with
        | none =>
          rw [hq] at hfi
          have HQ := Lib.hid hq
          have hpl : (pl none == -1) = true := rfl
          generalize pl none = z at *
          clear hq
          go_wp2_with fail
          go_quiet ((first | (go_at_call 103; exact Calls.quiet_of_same ((hst _).mono fun e w' h => ⟨h.1, h.2.symm⟩)) | (go_at_call 96; exact Calls.quiet_of_same ((hfi _).mono fun e w' h => ⟨h.1, h.2.symm⟩))))
          go_wp2_with fail
          go_step3
          refine ⟨rfl, HH.out (l.length - (i + 1)) _ _ (by omega) ⟨i + 1, ?_⟩⟩
          repeat apply Exists.intro
          exact ⟨rfl, rfl, by omega, HSN.out.2 ⟨HOK.out, HS.out, HQ.out⟩, HD.out.more _⟩
        | some j =>
          rw [hq] at hfi
          have HR : Hid (decide (OkMs l) = false) := Lib.hid (decide_eq_false fun h => by have := (HSN.out.1 (h.take (i + 1))).2.2; rw [hq] at this; cases this)
          have hpl : (pl (some j) == -1) = false := by show ((j : Int) == -1) = false; rw [beq_eq_false_iff_ne]; omega
          generalize pl (some j) = z at *
          clear hq
          go_wp2_with fail
          go_quiet ((first | (go_at_call 103; exact Calls.quiet_of_same ((hst _).mono fun e w' h => ⟨h.1, h.2.symm⟩)) | (go_at_call 96; exact Calls.quiet_of_same ((hfi _).mono fun e w' h => ⟨h.1, h.2.symm⟩))))
          go_wp2_with fail
          simp only [Exit.jump]
          go_ret
          exact ⟨by rw [HR.out]; rfl, HD.out.more _⟩
      · have HR : Hid (decide (OkMs l) = false) := Lib.hid (decide_eq_false fun h => hs (HSN.out.1 (h.take (i + 1))).2.1)
        rw [decide_eq_false hs] at hst
        clear hs
        go_wp2_with fail
        go_quiet ((go_at_call 103; exact Calls.quiet_of_same ((hst _).mono fun e w' h => ⟨h.1, h.2.symm⟩)))
        go_wp2_with fail
        simp only [Exit.jump]
        go_ret
        exact ⟨by rw [HR.out]; rfl, HD.out.more _⟩
    · obtain rfl : i = l.length := by omega
      have hne : ((l.length : Int) == (l.length : Int)) = true := by simp
      have HR : Hid (decide (OkMs l) = true) := Lib.hid (decide_eq_true (by have := HOK.out; rwa [List.take_length] at this))
      go_wp2_with fail
      simp only [Exit.jump]
      go_ret
      exact ⟨by rw [HR.out]; rfl, HD.out⟩

/-! ### held ones -/
def OkHs (l : List Hd) (n : Int) : Prop := (∀ h ∈ l, 1 ≤ h.tag ∧ h.tag < n) ∧ l.Pairwise (fun a b => a.tag < b.tag) ∧ l.Pairwise (fun a b => ¬ a.m.key = b.m.key)
instance (l : List Hd) (n : Int) : Decidable (OkHs l n) := inferInstanceAs (Decidable (_ ∧ _ ∧ _))
/-- so far; the last tag. -/
def UpH (l : List Hd) (t : Int) : Prop := (∀ h ∈ l, 1 ≤ h.tag ∧ h.tag ≤ t) ∧ l.Pairwise (fun a b => a.tag < b.tag) ∧ l.Pairwise (fun a b => ¬ a.m.key = b.m.key) ∧ (l = [] ∧ t = 0 ∨ ∃ h ∈ l, h.tag = t)
theorem hasK_iff (l : List Hd) (k : List UInt8) : hasK l k = false ↔ ∀ h ∈ l, ¬ h.m.key = k := by
  unfold hasK
  rw [List.any_eq_false]
  simp
theorem UpH.nn {l : List Hd} {t : Int} (h : UpH l t) : 0 ≤ t := by
  rcases h.2.2.2 with ⟨_, rfl⟩ | ⟨x, hx, rfl⟩
  · omega
  · have := (h.1 x hx).1; omega
theorem UpH.snoc {l : List Hd} {t : Int} {x : Hd} (h : UpH l t) (h1 : t < x.tag) (h2 : hasK l x.m.key = false) : UpH (l ++ [x]) x.tag := by
  have hn := h.nn
  refine ⟨fun y hy => ?_, pw_snoc.2 ⟨h.2.1, fun a ha => by have := (h.1 a ha).2; omega⟩, pw_snoc.2 ⟨h.2.2.1, (hasK_iff _ _).1 h2⟩, .inr ⟨x, by simp, rfl⟩⟩
  rcases List.mem_append.1 hy with hy | hy
  · have := h.1 y hy; omega
  · obtain rfl := List.mem_singleton.1 hy
    omega
theorem OkHs.no1 {l : List Hd} {n t : Int} {x : Hd} (hu : UpH l t) (h : OkHs (l ++ [x]) n) : t < x.tag := by
  rcases hu.2.2.2 with ⟨_, rfl⟩ | ⟨y, hy, rfl⟩
  · have := (h.1 x (by simp)).1; omega
  · exact (pw_snoc.1 h.2.1).2 y hy
theorem OkHs.no2 {l : List Hd} {n : Int} {x : Hd} (h : OkHs (l ++ [x]) n) : hasK l x.m.key = false := (hasK_iff _ _).2 (pw_snoc.1 h.2.2).2
theorem OkHs.take {l : List Hd} {n : Int} (h : OkHs l n) (i : Nat) : OkHs (l.take i) n := ⟨all_take h.1 i, pw_take h.2.1 i, pw_take h.2.2 i⟩
theorem OkHs.iff {l : List Hd} {n t : Int} (hu : UpH l t) (hn : 1 ≤ n) : OkHs l n ↔ t < n := by
  constructor
  · intro h
    rcases hu.2.2.2 with ⟨_, rfl⟩ | ⟨y, hy, rfl⟩
    · omega
    · exact (h.1 y hy).2
  · intro h
    exact ⟨fun x hx => by have := hu.1 x hx; omega, hu.2.1, hu.2.2.1⟩

def heldRel (a : Option Addr) (cap : Nat) (l : List Hd) (n : Int) (w : World) (m : Nat) (a' : Act) (w' : World) : Prop :=
  ∃ (i : Nat) (t : Int) (u7 u8 u9 u10 u11 u12 u13 u14 u15 u16 u17 u18 u19 u20 u21 u22 u23 u24 u25 u26 u27 u28 u29 u30 u31 u32 u33 u34 u35 u36 u37 u38 u39 u40 : Value), a' = { tmps := #[.slice a l.length cap, .int .i64 n, undef, undef, .bool false, .int .i64 t, .int .i64 i, u7, u8, u9, u10, u11, u12, u13, u14, u15, u16, u17, u18, u19, u20, u21, u22, u23, u24, u25, u26, u27, u28, u29, u30, u31, u32, u33, u34, u35, u36, u37, u38, u39, u40], defers := [] } ∧
    m = l.length - i ∧ i ≤ l.length ∧ UpH (l.take i) t ∧ Drew w w'
set_option maxRecDepth 100000 in
set_option maxHeartbeats 2000000 in
theorem mayHeld_any (a : Option Addr) (cap : Nat) (l : List Hd) (n : Int) (h1n : 1 ≤ n) (w : World) (hf : HdsAt w a cap l) (hn : a = none → cap = 0) :
    Calls Try.prog 72 #[.slice a l.length cap, .int .i64 n] w fun e w' => e = .returned (.bool (decide (OkHs l n))) ∧ Drew w w' := by
  have HF := Lib.hid hf
  have HN := Lib.hid hn
  have hcap := hf.max
  have hlen := hf.len
  unfold maxLen at hcap
  clear hf hn
  go_enter Try.func72, Try.ntmps72
  go_wp2_with fail
  refine wp_scope_ghost 0 (heldRel a cap l n w) rfl ?_ ?_
  · intro H hb'
    have HBK := Lib.hid hb'
    clear hb'
    go_wp2_with fail
    go_step3
    rename_i hK
    refine hK _ _ (HBK.out l.length _ _ ⟨0, 0, ?_⟩)
    repeat apply Exists.intro
    exact ⟨rfl, by omega, by omega, ⟨by simp, by simp, by simp, .inl ⟨by simp, rfl⟩⟩, Drew.refl _⟩
  · rintro m a' w' ⟨i, t, u7, u8, u9, u10, u11, u12, u13, u14, u15, u16, u17, u18, u19, u20, u21, u22, u23, u24, u25, u26, u27, u28, u29, u30, u31, u32, u33, u34, u35, u36, u37, u38, u39, u40, rfl, rfl, hi, hok, hd⟩ H hH
    have HH := Lib.hid hH
    have HOK := Lib.hid hok
    have HD := Lib.hid hd
    have HF1 := Lib.hid (HF.out.below hd.below)
    clear hH hok hd
    by_cases hlt : i < l.length
    · have hlti : (i : Int) < (l.length : Int) := by omega
      have hile : i ≤ l.length := by omega
      have h0i : (0 : Int) ≤ (i : Int) := by omega
      have hne : ((i : Int) == (l.length : Int)) = false := by rw [beq_eq_false_iff_ne]; omega
      have c4 : IntKind.i64.wrap ((i : Int) + 1) = (i : Int) + 1 := IntWalk.i64_in _ (by omega)
      have HFR := Lib.hid (hdE.front HF1.out HN.out i (by omega))
      have hsl := HFR.out.2
      obtain ⟨b, o, rfl, c0, c1, c2, c3, c5, c6⟩ := HdsAt.get HF1.out i hlt
      have htk := Lib.hid (take_snoc' hlt)
      clear c1 c2 c5 c6
      by_cases hs : t < l[i].tag
      · have HS := Lib.hid hs
        have hlt2 : (l.take i).length = i := by rw [List.length_take]; omega
        have hfi : ∀ n, Calls Try.prog 109 #[.slice (some ⟨b, o, none⟩) i cap, .string ⟨l[i].m.key.toArray⟩] (w'.drewN n) fun e w2 => e = .returned (.bool (hasK (l.take i) l[i].m.key)) ∧ w'.drewN n = w2 := fun n => by
          have h := holds_any (some ⟨b, o, none⟩) cap (l.take i) l[i].m.key (w'.drewN n) (HFR.out.1.below (Below.drewN (Below.refl _ _) n))
          rwa [hlt2] at h
        clear hlt2
        cases hq : hasK (l.take i) l[i].m.key with
        | false =>
          rw [hq] at hfi
          have HQ := Lib.hid hq
          clear hq
          go_wp2_with fail
          go_quiet ((go_at_call 109; exact Calls.quiet_of_same ((hfi _).mono fun e w' h => ⟨h.1, h.2.symm⟩)))
          go_wp2_with fail
          go_step3
          refine ⟨rfl, HH.out (l.length - (i + 1)) _ _ (by omega) ⟨i + 1, l[i].tag, ?_⟩⟩
          repeat apply Exists.intro
          exact ⟨rfl, rfl, by omega, by rw [htk.out]; exact HOK.out.snoc HS.out HQ.out, HD.out.more _⟩
        | true =>
          rw [hq] at hfi
          have HR : Hid (decide (OkHs l n) = false) := Lib.hid (decide_eq_false fun h => by have := h.take (i + 1); rw [htk.out] at this; have := this.no2; rw [hq] at this; cases this)
          clear hq
          go_wp2_with fail
          go_quiet ((go_at_call 109; exact Calls.quiet_of_same ((hfi _).mono fun e w' h => ⟨h.1, h.2.symm⟩)))
          go_wp2_with fail
          simp only [Exit.jump]
          go_ret
          exact ⟨by rw [HR.out]; rfl, HD.out.more _⟩
      · have HR : Hid (decide (OkHs l n) = false) := Lib.hid (decide_eq_false fun h => by have := h.take (i + 1); rw [htk.out] at this; exact hs (this.no1 HOK.out))
        have hs2 : decide (t < l[i].tag) = false := decide_eq_false hs
        go_wp2_with fail
        go_quiet (fail)
        go_wp2_with fail
        simp only [Exit.jump]
        go_ret
        exact ⟨by rw [HR.out]; rfl, HD.out.more _⟩
    · obtain rfl : i = l.length := by omega
      have hne : ((l.length : Int) == (l.length : Int)) = true := by simp
      have HR : Hid (decide (OkHs l n) = decide (t < n)) := Lib.hid (by rw [decide_eq_decide]; have := HOK.out; rw [List.take_length] at this; exact OkHs.iff this h1n)
      go_wp2_with fail
      simp only [Exit.jump]
      go_ret
      exact ⟨by rw [HR.out]; rfl, HD.out⟩

set_option maxHeartbeats 400000 in
theorem mayCount_any (s : Sd) (ra : Option Addr) (rc : Nat) (ha : Option Addr) (hc : Nat) (ma : Option Addr) (mc : Nat) (h1 : s.rd.length ≤ 4000000000000000000) (h2 : s.hd.length ≤ 4000000000000000000) (w : World) :
    Calls Try.prog 71 #[.agg #[.bool s.fr, .int .i64 s.nx, .slice ra s.rd.length rc, .slice ha s.hd.length hc, .slice ma s.ms.length mc]] w fun e w' => e = .returned (.bool (decide (s.rd.length + s.hd.length ≤ 48 ∧ s.ms.length ≤ 64))) ∧ Grew w w' := by
  have HG := Lib.hid (Grew.alloc w (.cells #[.bool s.fr, .int .i64 s.nx, .slice ra s.rd.length rc, .slice ha s.hd.length hc, .slice ma s.ms.length mc] 26))
  have c4 : IntKind.i64.wrap ((s.rd.length : Int) + (s.hd.length : Int)) = (s.rd.length : Int) + (s.hd.length : Int) := IntWalk.i64_in _ (by omega)
  by_cases g1 : s.rd.length + s.hd.length ≤ 48
  case neg =>
    rw [decide_eq_false (fun h => g1 h.1)]
    have e1 : ¬ (s.rd.length : Int) + (s.hd.length : Int) ≤ 48 := by omega
    clear g1
    go_enter Try.func71, Try.ntmps71
    go_wp2_with fail
    go_ret
    exact ⟨rfl, HG.out⟩
  have e1 : (s.rd.length : Int) + (s.hd.length : Int) ≤ 48 := by omega
  by_cases g2 : s.ms.length ≤ 64
  case neg =>
    rw [decide_eq_false (fun h => g2 h.2)]
    have e2 : ¬ (s.ms.length : Int) ≤ 64 := by omega
    clear g1 g2
    go_enter Try.func71, Try.ntmps71
    go_wp2_with fail
    go_ret
    exact ⟨ret_bool (by simp [e2]), HG.out⟩
  rw [decide_eq_true ⟨g1, g2⟩]
  have e2 : (s.ms.length : Int) ≤ 64 := by omega
  clear g1 g2
  go_enter Try.func71, Try.ntmps71
  go_wp2_with fail
  go_ret
  exact ⟨ret_bool (by simp [e2]), HG.out⟩

end Go.Proofs.Ythohjcfpobeplaa.Sh

namespace Go.Proofs.Ythohjcfpobeplaa.Sh
open Go.RowKit Rg Go.Sort
set_option linter.unusedVariables false
set_option linter.unusedSimpArgs false

theorem bat_more {l : List Mg} {i : Nat} (h : ∀ (j : Nat) (hj : j < l.length), j < i → OkB l[j] (l.headD mg0) j) (hi : i < l.length) (hx : OkB l[i] (l.headD mg0) i) : ∀ (j : Nat) (hj : j < l.length), j < i + 1 → OkB l[j] (l.headD mg0) j := by
  intro j hj hji
  by_cases e : j = i
  · subst e; exact hx
  · exact h j hj (by omega)

end Go.Proofs.Ythohjcfpobeplaa.Sh
