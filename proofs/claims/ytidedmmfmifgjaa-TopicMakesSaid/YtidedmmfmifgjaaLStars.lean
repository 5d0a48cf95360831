/-
  TopicStars.
-/
import Derived.Test.YtidedmmfmifgjaaLLong
namespace Go.Proofs.Ytidedmmfmifgjaa
open Go.RowKit
set_option linter.unusedVariables false

/-- stars, with a cross ahead of the one at t. -/
def crossAt (t i : Nat) : List (List UInt8) := if i ≤ t then List.replicate i [42] else List.replicate t [42] ++ [35] :: List.replicate (i - t) [42]
theorem crossAt_at (t : Nat) : crossAt t t ++ [[35]] ++ [[42]] = crossAt t (t + 1) := by
  unfold crossAt
  rw [if_pos (Nat.le_refl _), if_neg (by omega), show t + 1 - t = 1 by omega]
  simp
theorem crossAt_next (t i : Nat) (h : i ≠ t) : crossAt t i ++ [[42]] = crossAt t (i + 1) := by
  unfold crossAt
  by_cases h1 : i ≤ t
  · rw [if_pos h1, if_pos (by omega), rep_succ]
  · rw [if_neg h1, if_neg (by omega), show i + 1 - t = (i - t) + 1 by omega, rep_succ]
    simp
theorem crossAt_len (t i : Nat) : (crossAt t i).length ≤ i + 1 := by
  unfold crossAt
  split
  · simp
  · simp; omega
theorem crossAt_one (t i : Nat) : One (crossAt t i) := by
  unfold crossAt
  split
  · exact One.rep _ (by decide)
  · intro x hx
    rcases List.mem_append.1 hx with hx | hx
    · exact One.rep t (c := 42) (by decide) x hx
    · rcases List.mem_cons.1 hx with rfl | hx
      · exact ⟨rfl, by decide⟩
      · exact One.rep (i - t) (c := 42) (by decide) x hx
theorem crossAt_may (t i : Nat) : (crossAt t i).all mayW = true := by
  unfold crossAt
  split
  · exact rep_all _ _ (by decide)
  · rw [List.all_append, List.all_cons, rep_all _ _ (by decide), rep_all _ _ (by decide)]
    rfl

theorem Own.lt {w : World} {base : Nat} {v : Value} {l : List (List UInt8)} (h : Own w base v l) (g : Nat) (e : v.ownBlock = some g) : g < w.heap.size := (World.ownsRow.lt h g e).2
/-- another row than this one was put on. -/
theorem Own.other {w w' : World} {base : Nat} {v : Value} {l : List (List UInt8)} {row : Option Nat} (h : Own w base v l) (hg : w.grownBy w' row) (hne : ∀ g, v.ownBlock = some g → row ≠ some g) : Own w' base v l := by
  refine ⟨h.1, ?_⟩
  rcases h.2 with h1 | ⟨g, cap, cur, hv, hbg, hgg, r⟩
  · exact .inl h1
  · refine .inr ⟨g, cap, cur, hv, hbg, (hg.block g (Array.getElem?_eq_some_iff.1 hgg).1 ?_).trans hgg, r⟩
    have := hne g (by rw [hv]; rfl)
    exact fun e => this e.symm

/-- two rows of the call's own, in unlike blocks. -/
structure Pair (W w : World) (v : Value) (l : List (List UInt8)) (v' : Value) (l' : List (List UInt8)) : Prop where
  one : Own w W.heap.size v l
  two : Own w W.heap.size v' l'
  ne : ∀ g, v.ownBlock = some g → v'.ownBlock ≠ some g
  below : Below W.heap.size W w
theorem Pair.put1 {W w w' : World} {v : Value} {l : List (List UInt8)} {v' : Value} {l' : List (List UInt8)} (h : Pair W w v l v' l') {g n cap : Nat} {m : List (List UInt8)} (ho : Own w' W.heap.size (.slice (some ⟨g, 0, none⟩) n cap) m) (hg : w.grownBy w' v.ownBlock) (hat : v.ownBlock = some g ∨ w.heap.size ≤ g) :
    Pair W w' (.slice (some ⟨g, 0, none⟩) n cap) m v' l' := by
  refine ⟨ho, h.two.other hg fun k e e' => h.ne k e' e, fun k e e' => ?_, Own.grown h.below h.one hg h.below.size⟩
  have ek : g = k := by simpa [Value.ownBlock] using e
  subst ek
  rcases hat with h1 | h1
  · exact h.ne _ h1 e'
  · have := h.two.lt _ e'; omega
theorem Pair.swap {W w : World} {v : Value} {l : List (List UInt8)} {v' : Value} {l' : List (List UInt8)} (h : Pair W w v l v' l') : Pair W w v' l' v l :=
  ⟨h.two, h.one, fun g e e' => h.ne g e' e, h.below⟩
theorem Pair.put2 {W w w' : World} {v : Value} {l : List (List UInt8)} {v' : Value} {l' : List (List UInt8)} (h : Pair W w v l v' l') {g n cap : Nat} {m : List (List UInt8)} (ho : Own w' W.heap.size (.slice (some ⟨g, 0, none⟩) n cap) m) (hg : w.grownBy w' v'.ownBlock) (hat : v'.ownBlock = some g ∨ w.heap.size ≤ g) :
    Pair W w' v l (.slice (some ⟨g, 0, none⟩) n cap) m := (h.swap.put1 ho hg hat).swap
theorem Pair.nil (W : World) : Pair W W (.slice none 0 0) [] (.slice none 0 0) [] := ⟨Own.nil _ _, Own.nil _ _, fun g h => (by cases h), Below.refl _ _⟩

/-- both rows of stars have been put so far. -/
def starsRel (W : World) (N t : Nat) (n : Nat) (v9 v10 i' : Value) (wr : World) : Prop :=
  ∃ i : Nat, i ≤ N ∧ n = N - i ∧ i' = .int .i64 i ∧ Pair W wr v9 (List.replicate i [42]) v10 (crossAt t i)

set_option maxRecDepth 100000 in
set_option maxHeartbeats 1000000 in
theorem stars_any (p0 p1 p2 : Int) (w : World) (w0 : (Lit.int .i64 p0).wf = true) (w1 : (Lit.int .i64 p1).wf = true) (w2 : (Lit.int .i64 p2).wf = true) :
    Calls Try.prog 5 #[.int .i64 p0, .int .i64 p1, .int .i64 p2] w fun e w' => e = .returned (.bool true) ∧ Below w.heap.size w w' := by
  clear w0 w1 w2
  obtain ⟨a, ha, ha9⟩ := u64_rem p0 9 (by decide)
  obtain ⟨b, hb, hb9⟩ := u64_rem p1 9 (by decide)
  obtain ⟨t, ht, ht9⟩ := u64_rem p2 (1 + a) (by omega)
  rw [show ((9 : Nat) : Int) = 9 from rfl] at ha hb
  rw [show ((1 + a : Nat) : Int) = 1 + (a : Int) from rfl] at ht
  have ha1 : IntKind.i64.wrap (a : Int) = a := IntWalk.i64_in _ (by omega)
  have ha2 : IntKind.i64.wrap (1 + (a : Int)) = 1 + (a : Int) := IntWalk.i64_in _ (by omega)
  have ha3 : IntKind.u64.wrap (1 + (a : Int)) = 1 + (a : Int) := by rw [IntKind.wrap_u64]; omega
  have ha4 : ¬ (1 + (a : Int)) = 0 := by omega
  have hb1 : IntKind.i64.wrap (b : Int) = b := IntWalk.i64_in _ (by omega)
  have ht1 : IntKind.i64.wrap (t : Int) = t := IntWalk.i64_in _ (by omega)
  go_enter Try.func5, Try.ntmps5
  go_wp2_with fail
  go_loopg [9, 10, 12] (1 + a) (starsRel w (1 + a) t)
  case atStart => exact ⟨0, by omega, by omega, rfl, by unfold crossAt; rw [if_pos (Nat.zero_le _)]; exact Pair.nil w⟩
  case round =>
    obtain ⟨i, hi, rfl, rfl, hp⟩ := hrel
    obtain ⟨la, lc, rfl⟩ := hp.one.form
    obtain ⟨lb, lc2, rfl⟩ := hp.two.form
    have HP := Lib.hid hp
    have hwr := hp.below.size
    clear hp
    by_cases hlt : i < 1 + a
    · have i1 : (i : Int) < 1 + (a : Int) := by omega
      have i2 : IntKind.i64.wrap ((i : Int) + 1) = (i : Int) + 1 := IntWalk.i64_in _ (by omega)
      have hgl : (List.replicate i ([42] : List UInt8)).length ≤ 1000000000 := by rw [List.length_replicate]; omega
      have hgl2 : (crossAt t i).length ≤ 1000000000 := by have := crossAt_len t i; omega
      by_cases hit : i = t
      · subst hit
        have i3 : ((i : Int) == (i : Int)) = true := beq_self_eq_true _
        have hgl3 : (crossAt i i ++ [[35]]).length ≤ 1000000000 := by have := crossAt_len i i; rw [List.length_append, List.length_singleton]; omega
        go_wp2_with (first
          | (at_builtin; refine put_str [42] rfl (.tmp 28) (.tmp 29) rfl HP.out.one hwr hgl rfl _ rfl rfl ?_; intro g4 cap4 w4 hown4 hg4 hat4; have HP4 := Lib.hid (HP.out.put1 hown4 hg4 hat4); have hw4 := HP4.out.below.size; clear hown4 hg4 hat4)
          | (at_builtin; refine put_str [35] rfl (.tmp 39) (.tmp 40) rfl HP4.out.two hw4 hgl2 rfl _ rfl rfl ?_; intro g5 cap5 w5 hown5 hg5 hat5; have HP5 := Lib.hid (HP4.out.put2 hown5 hg5 hat5); have hw5 := HP5.out.below.size; clear hown5 hg5 hat5)
          | (at_builtin; refine put_str [42] rfl (.tmp 42) (.tmp 43) rfl HP5.out.two hw5 hgl3 rfl _ rfl rfl ?_; intro g6 cap6 w6 hown6 hg6 hat6; have HP6 := Lib.hid (HP5.out.put2 hown6 hg6 hat6); clear hown6 hg6 hat6))
        go_roundg (1 + a - (i + 1))
        case measure => omega
        case rel => exact ⟨i + 1, by omega, rfl, rfl, by rw [rep_succ, ← crossAt_at]; have := HP6.out; simpa using this⟩
      · have i3 : ((i : Int) == (t : Int)) = false := by rw [beq_eq_false_iff_ne]; omega
        have HIT := Lib.hid hit
        clear hit
        go_wp2_with (first
          | (at_builtin; refine put_str [42] rfl (.tmp 28) (.tmp 29) rfl HP.out.one hwr hgl rfl _ rfl rfl ?_; intro g4 cap4 w4 hown4 hg4 hat4; have HP4 := Lib.hid (HP.out.put1 hown4 hg4 hat4); have hw4 := HP4.out.below.size; clear hown4 hg4 hat4)
          | (at_builtin; refine put_str [42] rfl (.tmp 42) (.tmp 43) rfl HP4.out.two hw4 hgl2 rfl _ rfl rfl ?_; intro g6 cap6 w6 hown6 hg6 hat6; have HP6 := Lib.hid (HP4.out.put2 hown6 hg6 hat6); clear hown6 hg6 hat6))
        go_roundg (1 + a - (i + 1))
        case measure => omega
        case rel => exact ⟨i + 1, by omega, rfl, rfl, by rw [rep_succ, ← crossAt_next t i HIT.out]; have := HP6.out; simpa using this⟩
    · obtain rfl : i = 1 + a := by omega
      have i1 : ¬ (((1 + a : Nat) : Int)) < 1 + (a : Int) := by omega
      have HP1 := HP
      clear HP hlt hi
      obtain ⟨P, hP⟩ : ∃ P, P = List.replicate (1 + a) ([42] : List UInt8) := ⟨_, rfl⟩
      obtain ⟨Q, hQ⟩ : ∃ Q, Q = crossAt t (1 + a) := ⟨_, rfl⟩
      have hpl : P.length = 1 + a := by rw [hP, List.length_replicate]
      obtain ⟨ql, hql⟩ : ∃ ql, Q.length = ql := ⟨_, rfl⟩
      rw [← hP, ← hQ, hpl, hql] at HP1
      rw [← hP, ← hQ, hpl, hql, show ((1 + a : Nat) : Int) = 1 + (a : Int) from rfl]
      rw [show ((1 + a : Nat) : Int) = 1 + (a : Int) from rfl] at i1
      have HPP := Lib.hid (And.intro hP (And.intro hQ (And.intro hpl hql)))
      clear hP hQ hpl hql
      go_wp2_with fail
      go_loopg [11, 13] b (repRel [119] wr b)
      case atStart => exact ⟨0, by omega, by omega, rfl, Below.refl _ _, Own.nil _ _⟩
      case round =>
        obtain ⟨i, hi, rfl, rfl, hb', hown⟩ := hrel
        obtain ⟨lk, lc3, rfl⟩ := hown.form
        have HB := Lib.hid hb'
        have HOWN := Lib.hid hown
        have hwr1 := hb'.size
        clear hb' hown
        by_cases hlt : i < b
        · have i1 : (i : Int) < (b : Int) := by omega
          have i2 : IntKind.i64.wrap ((i : Int) + 1) = (i : Int) + 1 := IntWalk.i64_in _ (by omega)
          have hgl : (List.replicate i ([119] : List UInt8)).length ≤ 1000000000 := by rw [List.length_replicate]; omega
          go_wp2_with (at_builtin; refine put_str [119] rfl (.tmp 50) (.tmp 51) rfl HOWN.out hwr1 hgl rfl _ rfl rfl ?_; intro g4 cap4 w4 hown4 hg4 hat4; have HOWN4 := Lib.hid hown4; have HG4 := Lib.hid hg4; clear hown4 hg4 hat4)
          go_roundg (b - (i + 1))
          case measure => omega
          case rel => exact ⟨i + 1, by omega, rfl, rfl, Own.grown HB.out HOWN.out HG4.out hwr1, by rw [rep_succ]; have := HOWN4.out; simpa using this⟩
        · obtain rfl : i = b := by omega
          have i1 : ¬ (i : Int) < (i : Int) := by omega
          obtain ⟨K, hK⟩ : ∃ K, K = List.replicate i ([119] : List UInt8) := ⟨_, rfl⟩
          have hkl : K.length = i := by rw [hK, List.length_replicate]
          obtain ⟨hP, hQ, hpl, hql⟩ := HPP.out
          rw [← hK, hkl] at HOWN
          rw [← hK, hkl]
          have op : One P := by rw [hP]; exact One.rep _ (by decide)
          have oq : One Q := by rw [hQ]; exact crossAt_one _ _
          have ok : One K := by rw [hK]; exact One.rep _ (by decide)
          have hq20 : Q.length ≤ 1 + a + 1 := by rw [hQ]; exact crossAt_len _ _
          have hmm : matchB (joinW P) (joinW K) = decide (1 + a = i) := by
            rw [match_join op ok (by omega) (by omega), hpl, hkl, hP, hK, rep_all _ _ (by decide), stars, decide_eq_true (by omega : 1 + a ≤ 20), decide_eq_true (by omega : i ≤ 20)]
            rfl
          have hmq : matchB (joinW Q) (joinW K) = decide (1 + a ≤ i) := by
            rw [match_join oq ok (by omega) (by omega), hkl, decide_eq_true (by omega : Q.length ≤ 20), decide_eq_true (by omega : i ≤ 20), hQ, crossAt_may, hK]
            unfold crossAt
            rw [if_neg (by omega), stars_cross _ _ _ _ (by omega)]
            rfl
          obtain ⟨a1, c1, he1, -, hat1⟩ := HP1.out.one.strs
          obtain ⟨a2, c2, he2, -, hat2⟩ := HP1.out.two.strs
          obtain ⟨a3, c3, he3, -, hat3⟩ := HOWN.out.strs
          rw [hpl] at he1
          rw [hql] at he2
          rw [hkl] at he3
          obtain ⟨rfl, -, rfl⟩ := Value.slice.inj he1
          obtain ⟨rfl, -, rfl⟩ := Value.slice.inj he2
          obtain ⟨rfl, -, rfl⟩ := Value.slice.inj he3
          have jp := joinW_one op
          have jq := joinW_one oq
          have jk := joinW_one ok
          have HAT := Lib.hid (And.intro (hat1.below HB.out) (And.intro (hat2.below HB.out) hat3))
          have HM := Lib.hid (And.intro hmm hmq)
          have HBB := Lib.hid (HP1.out.below.trans (HB.out.mono HP1.out.below.size))
          have cp := fun (wx : World) (h : StrsAt wx la lc P) => join_any P (by omega) (by omega) la lc wx h
          have cq := fun (wx : World) (h : StrsAt wx lb lc2 Q) => join_any Q (by omega) (by omega) lb lc2 wx h
          have ck := fun (wx : World) (h : StrsAt wx lk lc3 K) => join_any K (by omega) (by omega) lk lc3 wx h
          rw [hpl] at cp
          rw [hql] at cq
          rw [hkl] at ck
          have CP := Lib.hid cp
          have CQ := Lib.hid cq
          have CK := Lib.hid ck
          have HJ := Lib.hid (And.intro (show (joinW P).length ≤ 1000000 by omega) (And.intro (show (joinW Q).length ≤ 1000000 by omega) (show (joinW K).length ≤ 1000000 by omega)))
          clear hat1 hat2 hat3 hmm hmq he1 he2 he3 op oq ok HOWN cp cq ck jp jq jk hP hQ hpl hql hK hkl hq20 HPP
          obtain ⟨b1, hb1⟩ : ∃ b1, decide (1 + a = i) = b1 := ⟨_, rfl⟩
          obtain ⟨b2, hb2⟩ : ∃ b2, decide (1 + a ≤ i) = b2 := ⟨_, rfl⟩
          have d1 : ((1 + (a : Int)) == (i : Int)) = b1 := by
            rw [← hb1, Bool.eq_iff_iff, beq_iff_eq, decide_eq_true_eq]; omega
          have d2 : decide (1 + (a : Int) ≤ (i : Int)) = b2 := by rw [← hb2, decide_eq_decide]; omega
          have HB12 := Lib.hid (And.intro hb1 hb2)
          clear hb1 hb2
          go_wp2_with fail
          refine (told_any _).mono ?_
          rintro e w3 ⟨rfl, hb3⟩
          have HB3 := Lib.hid (HBB.out.trans (hb3.mono HBB.out.size))
          have HAT3 := Lib.hid (And.intro (HAT.out.1.below hb3) (And.intro (HAT.out.2.1.below hb3) (HAT.out.2.2.below hb3)))
          clear hb3
          go_wp2_with fail
          refine (CP.out _ HAT3.out.1).mono ?_
          rintro e w4 ⟨rfl, rfl⟩
          go_wp2_with fail
          refine (CK.out _ HAT3.out.2.2).mono ?_
          rintro e w4 ⟨rfl, rfl⟩
          go_wp2_with fail
          refine (match_is _ _ HJ.out.1 HJ.out.2.2 b1 (by rw [HM.out.1]; exact HB12.out.1) _).mono ?_
          rintro e w5 ⟨rfl, hb5⟩
          have HB5 := Lib.hid (HB3.out.trans (hb5.mono HB3.out.size))
          have HAT5 := Lib.hid (And.intro (HAT3.out.2.1.below hb5) (HAT3.out.2.2.below hb5))
          clear hb5
          go_wp2_with fail
          refine (CQ.out _ HAT5.out.1).mono ?_
          rintro e w6 ⟨rfl, rfl⟩
          go_wp2_with fail
          refine (CK.out _ HAT5.out.2).mono ?_
          rintro e w6 ⟨rfl, rfl⟩
          go_wp2_with fail
          refine (match_is _ _ HJ.out.2.1 HJ.out.2.2 b2 (by rw [HM.out.2]; exact HB12.out.2) _).mono ?_
          rintro e w7 ⟨rfl, hb7⟩
          have HB7 := Lib.hid (HB5.out.trans (hb7.mono HB5.out.size))
          clear hb7
          go_wp2_with fail
          go_ret
          exact ⟨rfl, HB7.out⟩
end Go.Proofs.Ytidedmmfmifgjaa
