/-
  shard.holds, find, Last, walked; the document's Last, locked.
-/
import Derived.Test.YtgebfdgpbogalaaShLeaf
import Derived.Test.YtgebfdgpbogalaaScope
import Derived.Deep.LoopGhost
namespace Go.Proofs.Ytgebfdgpbogalaa.Sh
open Go.RowKit Rg Go.Sort
set_option linter.unusedVariables false
set_option linter.unusedSimpArgs false

def pl (o : Option Nat) : Int := match o with | none => -1 | some i => (i : Int)
/-- has one of them that key? -/
def hasK (l : List Hd) (k : List UInt8) : Bool := l.any fun h => decide (h.m.key = k)
theorem hasK_cons (x : Hd) (l : List Hd) (k : List UInt8) : hasK (x :: l) k = (decide (x.m.key = k) || hasK l k) := rfl

def holdsRel (l : List Hd) (k : List UInt8) (w : World) (m : Nat) (a' : Act) (w' : World) : Prop :=
  ∃ (r : List Hd) (a : Option Addr) (cap : Nat) (u5 u6 u7 u8 u9 u10 u11 u12 u13 u14 u15 u16 : Value), a' = { tmps := #[.slice a r.length cap, .string ⟨k.toArray⟩, undef, undef, .bool false, u5, u6, u7, u8, u9, u10, u11, u12, u13, u14, u15, u16], defers := [] } ∧
    m = r.length ∧ HdsAt w a cap r ∧ hasK l k = hasK r k ∧ w = w'
set_option maxRecDepth 100000 in
set_option maxHeartbeats 1000000 in
theorem holds_any (a : Option Addr) (cap : Nat) (l : List Hd) (k : List UInt8) (w : World) (hf : HdsAt w a cap l) :
    Calls Try.prog 78 #[.slice a l.length cap, .string ⟨k.toArray⟩] w fun e w' => e = .returned (.bool (hasK l k)) ∧ w = w' := by
  have HF := Lib.hid hf
  clear hf
  go_enter Try.func78, Try.ntmps78
  go_wp2_with fail
  refine wp_scope_ghost 0 (holdsRel l k w) rfl ?_ ?_
  · intro H hb'
    have HBK := Lib.hid hb'
    clear hb'
    go_wp2_with fail
    go_step3
    rename_i hK
    refine hK _ _ (HBK.out l.length _ _ ⟨l, a, cap, ?_⟩)
    repeat apply Exists.intro
    exact ⟨rfl, rfl, HF.out, rfl, rfl⟩
  · rintro m a' w' ⟨r, a, cap, u5, u6, u7, u8, u9, u10, u11, u12, u13, u14, u15, u16, rfl, rfl, hr, he, rfl⟩ H hH
    have HH := Lib.hid hH
    have HR := Lib.hid hr
    have HE := Lib.hid he
    clear hH hr he
    cases r with
    | nil =>
      go_wp2_with fail
      simp only [Exit.jump]
      go_ret
      exact ⟨by rw [HE.out]; rfl, rfl⟩
    | cons x r =>
      have n0 : (0 : Int) < (r.length : Int) + 1 := by omega
      have n1 : 0 < r.length + 1 := by omega
      have hmax := HR.out.max
      have hlen := HR.out.len
      unfold maxLen at hmax
      simp only [List.length_cons] at hlen
      have n2 : ((r.length : Int) + 1 == 0) = false := by rw [beq_eq_false_iff_ne]; omega
      obtain ⟨b, o, a2, rfl, hc, hr2, h1c, hn2, hsl⟩ := hdE.head HR.out
      have c3 := hc 3 _ rfl
      have HR2 := Lib.hid hr2
      clear hr2 hc
      by_cases hk : x.m.key = k
      · have HK := Lib.hid hk
        have e1 : (x.m.key == k) = true := by simpa using hk
        have e2 : (x.m.key != k) = false := by simpa using hk
        clear hk
        go_wp2_with fail
        simp only [Exit.jump]
        go_ret
        exact ⟨ret_bool (by rw [HE.out, hasK_cons, decide_eq_true HK.out]; rfl), rfl⟩
      · have HK := Lib.hid hk
        have e1 : (x.m.key == k) = false := by simpa using hk
        have e2 : (x.m.key != k) = true := by simpa using hk
        go_wp2_with fail
        go_step3
        refine ⟨rfl, HH.out r.length _ _ (by simp) ⟨r, a2, cap - 1, ?_⟩⟩
        repeat apply Exists.intro
        exact ⟨rfl, rfl, HR2.out, by rw [HE.out, hasK_cons, decide_eq_false HK.out]; rfl, rfl⟩

def findRel (a : Option Addr) (cap : Nat) (l : List Mk) (p : Int) (k : List UInt8) (w : World) (m : Nat) (a' : Act) (w' : World) : Prop :=
  ∃ (i : Nat) (u8 u9 u10 u11 u12 u13 u14 u15 u16 u17 u18 u19 u20 u21 u22 u23 u24 u25 u26 u27 u28 u29 u30 : Value), a' = { tmps := #[.slice a l.length cap, .int .i64 p, .string ⟨k.toArray⟩, undef, undef, undef, .int .i64 0, .int .i64 i, u8, u9, u10, u11, u12, u13, u14, u15, u16, u17, u18, u19, u20, u21, u22, u23, u24, u25, u26, u27, u28, u29, u30], defers := [] } ∧
    m = l.length - i ∧ i ≤ l.length ∧ (∀ j (h : j < l.length), j < i → lk p k l[j] = false) ∧ w = w'
theorem lk_not {p : Int} {k : List UInt8} {m : Mk} (h : m.pub = p → m.key ≠ k) : lk p k m = false := by
  unfold lk
  exact decide_eq_false fun g => h g.1 g.2
theorem no_more {l : List Mk} {p : Int} {k : List UInt8} {i : Nat} (hno : ∀ j (h : j < l.length), j < i → lk p k l[j] = false) {hi : i < l.length} (h : lk p k l[i] = false) : ∀ j (h : j < l.length), j < i + 1 → lk p k l[j] = false := by
  intro j hj hji
  by_cases e : j = i
  · subst e; exact h
  · exact hno j hj (by omega)
set_option maxRecDepth 100000 in
set_option maxHeartbeats 1000000 in
theorem find_any (a : Option Addr) (cap : Nat) (l : List Mk) (p : Int) (k : List UInt8) (w : World) (hf : MksAt w a cap l) :
    Calls Try.prog 51 #[.slice a l.length cap, .int .i64 p, .string ⟨k.toArray⟩] w fun e w' => e = .returned (.int .i64 (pl (fnd l p k))) ∧ w = w' := by
  have HF := Lib.hid hf
  have hcap := hf.max
  have hlen := hf.len
  unfold maxLen at hcap
  clear hf
  go_enter Try.func51, Try.ntmps51
  go_wp2_with fail
  refine wp_scope_ghost 0 (findRel a cap l p k w) rfl ?_ ?_
  · intro H hb'
    have HBK := Lib.hid hb'
    clear hb'
    go_wp2_with fail
    go_step3
    rename_i hK
    refine hK _ _ (HBK.out l.length _ _ ⟨0, ?_⟩)
    repeat apply Exists.intro
    exact ⟨rfl, by omega, by omega, fun j h hj => by omega, rfl⟩
  · rintro m a' w' ⟨i, u8, u9, u10, u11, u12, u13, u14, u15, u16, u17, u18, u19, u20, u21, u22, u23, u24, u25, u26, u27, u28, u29, u30, rfl, rfl, hi, hno, rfl⟩ H hH
    have HH := Lib.hid hH
    have HNO := Lib.hid hno
    clear hH hno
    by_cases hlt : i < l.length
    · have hlti : (i : Int) < (l.length : Int) := by omega
      have h0i : (0 : Int) ≤ (i : Int) := by omega
      have hne : ((i : Int) == (l.length : Int)) = false := by rw [beq_eq_false_iff_ne]; omega
      have c4 : IntKind.i64.wrap ((i : Int) + 1) = (i : Int) + 1 := IntWalk.i64_in _ (by omega)
      obtain ⟨b, o, rfl, c0, c1, c2⟩ := MksAt.get HF.out i hlt
      by_cases hp : l[i].pub = p
      · have HP := Lib.hid hp
        have e1 : (l[i].pub == p) = true := by simpa using hp
        have e2 : (l[i].pub != p) = false := by simpa using hp
        clear hp
        by_cases hk : l[i].key = k
        · have HK := Lib.hid hk
          have e3 : (l[i].key == k) = true := by simpa using hk
          have e4 : (l[i].key != k) = false := by simpa using hk
          clear hk
          go_wp2_with fail
          simp only [Exit.jump]
          go_ret
          refine ⟨?_, rfl⟩
          rw [show fnd l p k = some i from find_first hlt (by unfold lk; exact decide_eq_true ⟨HP.out, HK.out⟩) (fun j hj => HNO.out j (by omega) hj)]
          rfl
        · have HK := Lib.hid (lk_not (p := p) (k := k) (m := l[i]) fun _ => hk)
          have e3 : (l[i].key == k) = false := by simpa using hk
          have e4 : (l[i].key != k) = true := by simpa using hk
          clear hk
          go_wp2_with fail
          go_step3
          refine ⟨rfl, HH.out (l.length - (i + 1)) _ _ (by omega) ⟨i + 1, ?_⟩⟩
          repeat apply Exists.intro
          exact ⟨rfl, rfl, by omega, no_more HNO.out HK.out, rfl⟩
      · have HK := Lib.hid (lk_not (p := p) (k := k) (m := l[i]) fun h => (hp h).elim)
        have e1 : (l[i].pub == p) = false := by simpa using hp
        have e2 : (l[i].pub != p) = true := by simpa using hp
        clear hp
        go_wp2_with fail
        go_step3
        refine ⟨rfl, HH.out (l.length - (i + 1)) _ _ (by omega) ⟨i + 1, ?_⟩⟩
        repeat apply Exists.intro
        exact ⟨rfl, rfl, by omega, no_more HNO.out HK.out, rfl⟩
    · obtain rfl : i = l.length := by omega
      have hne : ((l.length : Int) == (l.length : Int)) = true := by simp
      go_wp2_with fail
      simp only [Exit.jump]
      go_ret
      refine ⟨?_, rfl⟩
      rw [show fnd l p k = none from find_not (fun j hj => HNO.out j hj hj)]
      rfl

end Go.Proofs.Ytgebfdgpbogalaa.Sh
