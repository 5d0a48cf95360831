/-
  MethodBack: what it needs of plain data, and of memory.
-/
import Derived.Test.YtenpcadgelpbgaaMTold
import Derived.Test.YtenpcadgelpbgaaMFew
import Derived.Laws.BitsAllLaws
namespace Go.Proofs.Ytenpcadgelpbgaa
open Go.RowKit
set_option linter.unusedVariables false

theorem weigh_put : ∀ (n : Nat) (l : List It), weigh l ≤ n → ∀ d, MayAll d l → weigh l ≤ 1 + (putAll l).length
  | 0, l, h => by have := weigh_pos l; omega
  | n + 1, [], _ => by intro _ _; simp [weigh]
  | n + 1, x :: r, h => by
    intro d hm
    simp only [MayAll] at hm
    have h0 := weigh_pos x.sub
    have h1 := weigh_pos r
    rw [weigh_cons] at h ⊢
    have hr := weigh_put n r (by omega) d hm.2
    have hx : weigh x.sub ≤ x.put.length := by
      have hp := put_eq x
      have hlen : x.put.length = 1 + x.name.size + x.putV.length := by rw [hp]; simp only [List.cons_append, List.length_cons, List.length_append, size_toList]; omega
      have hk : (x.kind = 5 ∧ MayT d x.sub) ∨ x.sub = [] := by
        have := hm.1
        rw [may_iff] at this
        rcases this with ⟨_, _, _, h⟩ | ⟨_, _, _, h⟩ | ⟨_, _, _, h⟩ | ⟨_, _, h⟩ | ⟨_, _, _, h⟩ | ⟨h5, _, _, hs⟩
        all_goals first | exact .inr h | exact .inl ⟨h5, hs⟩
      rcases hk with ⟨hk, hs⟩ | hk
      · have hv : x.putV = 70 :: putT x.sub := by unfold It.putV; rw [hk]; rfl
        have hsub := weigh_put n x.sub (by omega) (d + 1) hs.2.2.2
        rw [hv, List.length_cons, putT_length] at hlen
        omega
      · rw [hk]
        simp only [weigh]
        omega
    rw [putAll, List.length_append]
    omega

theorem set_same {l : List UInt8} {k : Nat} (hk : k < l.length) : l.set k (l[k] ^^^ 0) = l := by
  rw [UInt8.xor_zero, List.set_getElem_self]

theorem set_turn {l : List UInt8} {k : Nat} (hk : k < l.length) {c : UInt8} (h : l.set k (l[k] ^^^ c) = l) : c = 0 := by
  have h2 : (l.set k (l[k] ^^^ c))[k]'(by simpa using hk) = l[k] := by simp only [h]
  rw [List.getElem_set_self] at h2
  have h3 := congrArg (fun x => l[k] ^^^ x) h2
  simp only [← UInt8.xor_assoc, UInt8.xor_self, UInt8.zero_xor] at h3
  exact h3

theorem xor_byte (x c : UInt8) : bits .xor .u8 (x.toNat : Int) (c.toNat : Int) = ((x ^^^ c).toNat : Int) := by
  rw [u8_xor_nat _ _ x.toNat_lt c.toNat_lt, UInt8.toNat_xor]


theorem cutM {m s : Me} {k : Nat} (gs : Good s) (hk : k < (putM s).length) (gm : Good m) (h : putM m = (putM s).take k) : False := by
  have e : putM s ++ [] = putM m ++ (putM s).drop k := by rw [h, List.take_append_drop, List.append_nil]
  obtain ⟨_, h2⟩ := putM_app gs gm e
  have := congrArg List.length h2
  simp at this
  omega
theorem moreM {m s : Me} {c : UInt8} (gs : Good s) (gm : Good m) (h : putM m = putM s ++ [c]) : False := by
  have e : putM m ++ [] = putM s ++ [c] := by simpa using h
  obtain ⟨_, h2⟩ := putM_app gm gs e
  cases h2
theorem headM_cut {s : Me} (gs : Good s) (k : Nat) : ((putM s).take k).length < 4 ∨ ∃ pl, HeadOk ((putM s).take k) pl := by
  by_cases hk : k < 4
  · left
    rw [List.length_take]
    omega
  · right
    obtain ⟨l, hl, _⟩ := gs.may
    rw [putM_eq hl, List.take_append, headM_length, List.take_of_length_le (by rw [headM_length]; omega)]
    exact ⟨l, (head_put hl _).1⟩
theorem headM_more {s : Me} (gs : Good s) (x : List UInt8) : ∃ pl, HeadOk (putM s ++ x) pl := by
  obtain ⟨l, hl, _⟩ := gs.may
  rw [putM_eq hl, List.append_assoc]
  exact ⟨l, (head_put hl _).1⟩
theorem headM_set {s : Me} (gs : Good s) {k : Nat} (hk : 4 ≤ k) (x : UInt8) : ∃ pl, HeadOk ((putM s).set k x) pl := by
  obtain ⟨l, hl, _⟩ := gs.may
  rw [putM_eq hl, List.set_append_right _ _ (by rw [headM_length]; omega)]
  exact ⟨l, (head_put hl _).1⟩
theorem weighM {m : Me} (h : Good m) : weigh m.args ≤ 100000 := by
  have h1 := weigh_put _ m.args (Nat.le_refl _) 2 (mayM_all h.may .a).2.2.2
  have h2 := h.few
  rw [putT_length] at h2
  omega

/-- what each step keeps of the call that came in. -/
structure MEnv (w wk : World) (m : Me) (a : Option Addr) (cap : Nat) : Prop where
  at_ : MeAt wk w.heap.size m a cap
  tab : Tb wk a cap m.args
  bel : Below w.heap.size w wk
theorem MEnv.below {w wk w' : World} {m : Me} {a : Option Addr} {cap : Nat} (h : MEnv w wk m a cap) (hb : Below wk.heap.size wk w') : MEnv w w' m a cap :=
  ⟨h.at_.keep (hb.block _ h.at_.lt), h.tab.below hb, h.bel.trans (hb.mono h.bel.size)⟩
/-- .. of one that was read. -/
structure MGot (B : Nat) (wk : World) (g : Nat) (m : Me) (a : Option Addr) (cap : Nat) (bs : List Nat) : Prop where
  at_ : MeAt wk g m a cap
  sl : SlAt wk bs a cap m.args
  own : Own wk B bs
theorem MGot.below {B : Nat} {wk w' : World} {g : Nat} {m : Me} {a : Option Addr} {cap : Nat} {bs : List Nat} (h : MGot B wk g m a cap bs) (hb : Below wk.heap.size wk w') : MGot B w' g m a cap bs :=
  ⟨h.at_.keep (hb.block _ h.at_.lt), h.sl.keep (fun b hb' => hb.block b (h.sl.lt b hb')), h.own.keep (fun b hb' => hb.block b (h.sl.lt b hb')) hb.size⟩
theorem MGot.laid {B : Nat} {w w' : World} {m : Me} {a : Option Addr} {cap : Nat} {bs : List Nat} (hs : SlAt w bs a cap m.args) (ho : Own w B bs) (hb : Below w.heap.size w w') (hm : MeAt w' w.heap.size m a cap) : MGot B w' w.heap.size m a cap bs :=
  ⟨hm, hs.keep (fun b hb' => hb.block b (hs.lt b hb')), ho.keep (fun b hb' => hb.block b (hs.lt b hb')) hb.size⟩

end Go.Proofs.Ytenpcadgelpbgaa
