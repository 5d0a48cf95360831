/-
  TopicMakes.
-/
import Derived.Test.YtidedmmfmifgjaaLStars
import Derived.Laws.Bits128
namespace Go.Proofs.Ytidedmmfmifgjaa
open Go.RowKit
set_option linter.unusedVariables false

theorem and1 (n : Int) : bits .and .i64 n 1 = n % 2 := by
  have e : (BitVec.ofInt 64 n &&& BitVec.ofInt 64 1).toNat = (n % ((2 ^ 64 : Nat) : Int)).toNat % 2 ^ 1 := by
    rw [BitVec.toNat_and, BitVec.toNat_ofInt, show (BitVec.ofInt 64 1).toNat = 2 ^ 1 - 1 by decide, Nat.and_two_pow_sub_one_eq_mod]
  show IntKind.i64.wrap ((BitVec.ofInt 64 n &&& BitVec.ofInt 64 1).toNat : Nat) = n % 2
  rw [e, IntKind.wrap_i64]
  omega

/-- two words more: they lie in the block made last. -/
theorem put_str2 {ops : Array Oper} {rest : List Oper} {o : Oper} {a : Act} {Q : Exit → Act → World → Prop} {w : World} {base : Nat} {v : Value} {l : List (List UInt8)} (x y : List UInt8) (hgd : o.guard = none) (s z : Operand)
    (ho : o.op = .call { callee := .builtin .append, args := #[s, z], argTypes := #[23, 23] }) (hb : Own w base v l) (hbase : base ≤ w.heap.size) (hl : l.length ≤ 1000000000)
    (hs : a.eval s = v) (H : Nat) (hH : w.heap.size = H) (hx : a.eval z = .slice (some ⟨H, 0, none⟩) 2 2)
    (h : ∀ g cap w', Own w' base (.slice (some ⟨g, 0, none⟩) (l.length + 2) cap) (l ++ [x, y]) → w.grownBy w' v.ownBlock → (v.ownBlock = some g ∨ w.heap.size ≤ g) →
      wpList Try.prog ops Q rest (a.put o.dst (.slice (some ⟨g, 0, none⟩) (l.length + 2) cap)) w') :
    wpList Try.prog ops Q (o :: rest) a (w.alloc (.cells #[.string ⟨x.toArray⟩, .string ⟨y.toArray⟩] 9)) := by
  subst hH
  obtain ⟨i0, hi, hz0, hz1, hz2⟩ := info_parts str_info
  have hb' := World.ownsRow.alloc hb (.cells #[.string ⟨x.toArray⟩, .string ⟨y.toArray⟩] 9)
  have hone : ∀ u ∈ [str x, str y], u.oneCell' = true := by
    intro u hu
    simp only [List.mem_cons, List.not_mem_nil, or_false] at hu
    rcases hu with rfl | rfl <;> rfl
  refine wpList_append_lies _ hgd s z 23 ho base 9 i0 _ 1 16 Try.underlying23 hi hz0 hz1 hz2 rfl (by decide) v l.length (l.map str) hs hb' ⟨w.heap.size, 0, none⟩ 2 2 [str x, str y] hx (by simp) (World.news_of_block (heap_alloc_new w _)) hone (by decide) (by unfold maxLen; omega) (by omega) (by simp; omega) _ rfl ?_
  intro g cap w' hown hg hat hlt
  refine h g cap w' ?_ (alloc_before hg) ?_
  · unfold Own
    rw [List.length_append, List.map_append]
    simpa using hown
  · rcases hat with h1 | h1
    · exact .inl h1
    · exact .inr (by simp at h1; omega)

theorem Pair.to {W w w' : World} {v : Value} {l : List (List UInt8)} {v' : Value} {l' : List (List UInt8)} (h : Pair W w v l v' l') (hb : Below w.heap.size w w') : Pair W w' v l v' l' :=
  ⟨World.ownsRow.below1 h.one hb, World.ownsRow.below1 h.two hb, h.ne, h.below.trans (hb.mono h.below.size)⟩

/-- letters that make a key. -/
def Ltrs (l : List (List UInt8)) : Prop := ∀ x ∈ l, x = [97] ∨ x = [98]
theorem Ltrs.one {l : List (List UInt8)} (h : Ltrs l) : One l := by
  intro x hx
  rcases h x hx with rfl | rfl
  · exact ⟨rfl, by decide⟩
  · exact ⟨rfl, by decide⟩
theorem Ltrs.no {l : List (List UInt8)} (h : Ltrs l) : ∀ x ∈ l, x ≠ [35] := by
  intro x hx
  rcases h x hx with rfl | rfl <;> decide
theorem Ltrs.may {l : List (List UInt8)} (h : Ltrs l) : l.all mayW = true := by
  rw [List.all_eq_true]
  intro x hx
  rcases h x hx with rfl | rfl <;> decide

/-- what is made so far of a key: so many of its words, a pattern of them. -/
structure Made (i : Nat) (k p : List (List UInt8)) : Prop where
  len : k.length = i
  few : p.length ≤ 2 * i
  ltr : Ltrs k
  one : One p
  may : p.all mayW = true
  is : stand p k = true
theorem Made.nil : Made 0 [] [] := ⟨rfl, by simp, fun x hx => (by cases hx), One.nil, rfl, rfl⟩
theorem Made.put {i : Nat} {k p : List (List UInt8)} (h : Made i k p) (c : UInt8) (hc : c = 97 ∨ c = 98) (q : List (List UInt8)) (hq : q = [[42]] ∨ q = [[35]] ∨ q = [[c], [35]] ∨ q = [[c]]) : Made (i + 1) (k ++ [[c]]) (p ++ q) := by
  have hql : q.length ≤ 2 ∧ One q ∧ q.all mayW = true ∧ stand q [[c]] = true := by
    rcases hc with rfl | rfl <;> rcases hq with rfl | rfl | rfl | rfl <;> refine ⟨by decide, ?_, by decide, by decide⟩ <;> (intro x hx; simp only [List.mem_cons, List.not_mem_nil, or_false] at hx)
    all_goals first
      | (subst hx; exact ⟨rfl, by decide⟩)
      | (rcases hx with rfl | rfl <;> exact ⟨rfl, by decide⟩)
  obtain ⟨q1, q2, q3, q4⟩ := hql
  refine ⟨by rw [List.length_append, h.len]; rfl, by rw [List.length_append]; have := h.few; omega, ?_, h.one.app q2, by rw [List.all_append, h.may, q3]; rfl, stand_app h.is q4⟩
  intro x hx
  rcases List.mem_append.1 hx with hx | hx
  · exact h.ltr x hx
  · obtain rfl := List.mem_singleton.1 hx
    rcases hc with rfl | rfl
    · exact .inl rfl
    · exact .inr rfl

/-- a letter of the alphabet, cut out. -/
theorem cut_abc (y : Int) (c : UInt8) (h : (y = 0 ∧ c = 97) ∨ (y = 1 ∧ c = 98)) (w : World) : (Instr.slice 9 (.string ⟨#[97, 98, 99]⟩) (some (.int .i64 y)) (some (.int .i64 (1 + y))) none).run Try.prog w = .ok (.string ⟨#[c]⟩) w := by
  rcases h with ⟨rfl, rfl⟩ | ⟨rfl, rfl⟩ <;> (show _ = _; kernel_rfl)

def makesRel (W : World) (N : Nat) (n : Nat) (v5 v6 v8 : Value) (wr : World) : Prop :=
  ∃ (i : Nat) (k p : List (List UInt8)), i ≤ N ∧ n = N - i ∧ v8 = .int .i64 i ∧ Pair W wr v5 k v6 p ∧ Made i k p

set_option maxRecDepth 100000 in
set_option maxHeartbeats 1000000 in
theorem makes_some (b0 o0 len0 cap0 : Nat) (z0 : List Int) (b1 o1 len1 cap1 : Nat) (z1 : List Int) (w : World) (hl0 : len0 ≤ cap0) (hc0 : cap0 ≤ maxLen) (hz0 : z0.length = cap0) (h0 : ∀ i, i < z0.length → w.cell? ⟨b0, o0 + i, none⟩ = some (.int .i64 (z0.getD i 0)))
    (hl1 : len1 ≤ cap1) (hc1 : cap1 ≤ maxLen) (hz1 : z1.length = cap1) (h1 : ∀ i, i < z1.length → w.cell? ⟨b1, o1 + i, none⟩ = some (.int .i64 (z1.getD i 0))) (N : Nat) (hN : min (len0 : Int) 12 = (N : Int)) (hN1 : 1 ≤ N) (hN2 : N ≤ len1) :
    Calls Try.prog 4 #[.slice (some ⟨b0, o0, none⟩) len0 cap0, .slice (some ⟨b1, o1, none⟩) len1 cap1] w fun e w' => e = .returned (.bool true) ∧ Below w.heap.size w w' := by
  have H0 := Lib.hid h0
  have H1 := Lib.hid h1
  have hN12 : N ≤ 12 := by omega
  have hN0 : N ≤ len0 := by omega
  have g1 : ¬ (N : Int) < 1 := by omega
  have g2 : ¬ (len1 : Int) < (N : Int) := by omega
  clear h0 h1
  go_enter Try.func4, Try.ntmps4
  go_wp2_with fail
  go_loopg [5, 6, 8, 9] N (fun n v5 v6 v8 _ wr => makesRel w N n v5 v6 v8 wr)
  case atStart => exact ⟨0, [], [], by omega, by omega, rfl, Pair.nil w, Made.nil⟩
  case round =>
    obtain ⟨i, k, p, hi, rfl, rfl, hp, hm⟩ := hrel
    obtain ⟨la, lc, rfl⟩ := hp.one.form
    obtain ⟨lb, lc2, rfl⟩ := hp.two.form
    have HP := Lib.hid hp
    have HM := Lib.hid hm
    have hwr := hp.below.size
    have hkl : k.length ≤ 1000000000 := by have := hm.len; omega
    have hpl : p.length ≤ 1000000000 := by have := hm.few; omega
    clear hp hm
    by_cases hlt : i < N
    · have i1 : (i : Int) < (N : Int) := by omega
      have i2 : IntKind.i64.wrap ((i : Int) + 1) = (i : Int) + 1 := IntWalk.i64_in _ (by omega)
      have i3 : (i : Int) < (len0 : Int) := by omega
      have i4 : (i : Int) < (len1 : Int) := by omega
      have i5 : (0 : Int) ≤ (i : Int) := by omega
      have c0 : wr.cell? ⟨b0, o0 + i, none⟩ = some (.int .i64 (z0.getD i 0)) := (HP.out.below.cell (lt_of_cell (H0.out i (by omega)))).trans (H0.out i (by omega))
      have c1 : w.cell? ⟨b1, o1 + i, none⟩ = some (.int .i64 (z1.getD i 0)) := H1.out i (by omega)
      have C1 := Lib.hid c1
      clear c1
      generalize z0.getD i 0 = x at c0
      generalize z1.getD i 0 = y at C1
      have hx := and1 x
      obtain ⟨c, hc⟩ : ∃ c : UInt8, (x % 2 = 0 ∧ c = 97) ∨ (x % 2 = 1 ∧ c = 98) := by
        by_cases e : x % 2 = 0
        · exact ⟨97, .inl ⟨e, rfl⟩⟩
        · exact ⟨98, .inr ⟨by omega, rfl⟩⟩
      have hsl := cut_abc (x % 2) c hc
      have hcc : c = 97 ∨ c = 98 := by rcases hc with h | h; exact .inl h.2; exact .inr h.2
      have HC := Lib.hid hcc
      obtain ⟨m, hm⟩ : ∃ m, x % 2 = m := ⟨_, rfl⟩
      have hm2 : 0 ≤ m ∧ m < 2 := by omega
      rw [hm] at hsl hx
      have hmw : IntKind.i64.wrap (1 + m) = 1 + m := IntWalk.i64_in _ (by omega)
      clear hc hcc hm
      obtain ⟨r, hr, hr5⟩ := u64_rem y 5 (by decide)
      rw [show ((5 : Nat) : Int) = 5 from rfl] at hr
      have hr1 : IntKind.i64.wrap (r : Int) = r := IntWalk.i64_in _ (by omega)
      go_wp2_with fail
      go_quiet (fail)
      obtain ⟨w2, hw2⟩ : ∃ w2, w2 = wr.drewN nq := ⟨_, rfl⟩
      have hb2 : Below wr.heap.size wr w2 := by rw [hw2]; exact Below.drewN (Below.refl _ _) _
      rw [← hw2]
      have HP2 := Lib.hid (HP.out.to hb2)
      clear hw2 hb2
      have hw2 := HP2.out.below.size
      clear c0 hsl hx hmw hm2
      by_cases r0 : r = 0
      · subst r0
        go_wp2_with (first
          | (at_builtin; refine put_str [c] rfl (.tmp 39) (.tmp 41) rfl HP2.out.one hw2 hkl rfl _ rfl rfl ?_; intro g4 cap4 w4 hown4 hg4 hat4; have HP4 := Lib.hid (HP2.out.put1 hown4 hg4 hat4); have hw4 := HP4.out.below.size; have c1 := (HP4.out.below.cell (lt_of_cell C1.out)).trans C1.out; clear hown4 hg4 hat4)
          | (at_builtin; refine put_str [42] rfl (.tmp 56) (.tmp 57) rfl HP4.out.two hw4 hpl rfl _ rfl rfl ?_; intro g6 cap6 w6 hown6 hg6 hat6; have HP6 := Lib.hid (HP4.out.put2 hown6 hg6 hat6); clear hown6 hg6 hat6))
        go_roundg (N - (i + 1))
        case measure => omega
        case rel => exact ⟨i + 1, k ++ [[c]], _, by omega, rfl, rfl, by have := HP6.out; simpa using this, HM.out.put c HC.out _ (.inl rfl)⟩
      by_cases r1 : r = 1
      · subst r1
        go_wp2_with (first
          | (at_builtin; refine put_str [c] rfl (.tmp 39) (.tmp 41) rfl HP2.out.one hw2 hkl rfl _ rfl rfl ?_; intro g4 cap4 w4 hown4 hg4 hat4; have HP4 := Lib.hid (HP2.out.put1 hown4 hg4 hat4); have hw4 := HP4.out.below.size; have c1 := (HP4.out.below.cell (lt_of_cell C1.out)).trans C1.out; clear hown4 hg4 hat4)
          | (at_builtin; refine put_str [35] rfl (.tmp 61) (.tmp 62) rfl HP4.out.two hw4 hpl rfl _ rfl rfl ?_; intro g6 cap6 w6 hown6 hg6 hat6; have HP6 := Lib.hid (HP4.out.put2 hown6 hg6 hat6); clear hown6 hg6 hat6))
        go_roundg (N - (i + 1))
        case measure => omega
        case rel => exact ⟨i + 1, k ++ [[c]], _, by omega, rfl, rfl, by have := HP6.out; simpa using this, HM.out.put c HC.out _ (.inr (.inl rfl))⟩
      by_cases r2 : r = 2
      · subst r2
        go_wp2_with (first
          | (at_builtin; refine put_str [c] rfl (.tmp 39) (.tmp 41) rfl HP2.out.one hw2 hkl rfl _ rfl rfl ?_; intro g4 cap4 w4 hown4 hg4 hat4; have HP4 := Lib.hid (HP2.out.put1 hown4 hg4 hat4); have hw4 := HP4.out.below.size; have c1 := (HP4.out.below.cell (lt_of_cell C1.out)).trans C1.out; clear hown4 hg4 hat4)
          | (at_builtin; refine put_str2 [c] [35] rfl (.tmp 66) (.tmp 68) rfl HP4.out.two hw4 hpl rfl _ rfl rfl ?_; intro g6 cap6 w6 hown6 hg6 hat6; have HP6 := Lib.hid (HP4.out.put2 hown6 hg6 hat6); clear hown6 hg6 hat6))
        go_roundg (N - (i + 1))
        case measure => omega
        case rel => exact ⟨i + 1, k ++ [[c]], _, by omega, rfl, rfl, by have := HP6.out; simpa using this, HM.out.put c HC.out _ (.inr (.inr (.inl rfl)))⟩
      · have e0 : ((r : Int) == 0) = false := by rw [beq_eq_false_iff_ne]; omega
        have e1 : ((r : Int) == 1) = false := by rw [beq_eq_false_iff_ne]; omega
        have e2 : ((r : Int) == 2) = false := by rw [beq_eq_false_iff_ne]; omega
        clear r0 r1 r2
        go_wp2_with (first
          | (at_builtin; refine put_str [c] rfl (.tmp 39) (.tmp 41) rfl HP2.out.one hw2 hkl rfl _ rfl rfl ?_; intro g4 cap4 w4 hown4 hg4 hat4; have HP4 := Lib.hid (HP2.out.put1 hown4 hg4 hat4); have hw4 := HP4.out.below.size; have c1 := (HP4.out.below.cell (lt_of_cell C1.out)).trans C1.out; clear hown4 hg4 hat4)
          | (at_builtin; refine put_str [c] rfl (.tmp 50) (.tmp 52) rfl HP4.out.two hw4 hpl rfl _ rfl rfl ?_; intro g6 cap6 w6 hown6 hg6 hat6; have HP6 := Lib.hid (HP4.out.put2 hown6 hg6 hat6); clear hown6 hg6 hat6))
        go_roundg (N - (i + 1))
        case measure => omega
        case rel => exact ⟨i + 1, k ++ [[c]], _, by omega, rfl, rfl, by have := HP6.out; simpa using this, HM.out.put c HC.out _ (.inr (.inr (.inr rfl)))⟩
    · obtain rfl : i = N := by omega
      have i1 : ¬ (i : Int) < (i : Int) := by omega
      clear hlt hi
      have hkl2 := HM.out.len
      have hpl2 := HM.out.few
      by_cases h20 : 20 < p.length
      · have c20 : (20 : Int) < (p.length : Int) := by omega
        go_wp2_with (go_at_call 8; refine (told_any _).mono ?_; rintro e w1 ⟨rfl, hb1⟩; have HB1 := Lib.hid (HP.out.below.trans (hb1.mono HP.out.below.size)); clear hb1)
        go_ret
        exact ⟨rfl, HB1.out⟩
      have c20 : ¬ (20 : Int) < (p.length : Int) := by omega
      obtain ⟨ok, op, hpm, hst⟩ : One k ∧ One p ∧ p.all mayW = true ∧ stand p k = true := ⟨HM.out.ltr.one, HM.out.one, HM.out.may, HM.out.is⟩
      have hkm := HM.out.ltr.may
      have hno := HM.out.ltr.no
      have hkne : k ≠ [] := by rintro rfl; simp at hkl2; omega
      have ox : One (k ++ [[120]]) := ok.snoc (by decide)
      have m1 : matchB (joinW p) (joinW k) = true := by
        rw [match_join op ok (by omega) (by omega), hpm, hst, decide_eq_true (by omega : p.length ≤ 20), decide_eq_true (by omega : k.length ≤ 20)]; rfl
      have m2 : matchB (joinW k) (joinW k) = true := by
        rw [match_join ok ok (by omega) (by omega), hkm, stand_self k hno, decide_eq_true (by omega : k.length ≤ 20)]; rfl
      have m3 : matchB [35] (joinW k) = true := by rw [match_all ok (by omega), decide_eq_true (by omega : k.length ≤ 20)]
      have m4 : matchB (joinW (k ++ [[120]])) (joinW k) = false := by
        rw [match_join ox ok (by simp; omega) (by omega)]
        have : stand (k ++ [[120]]) k = false := by
          rw [Bool.eq_false_iff]
          intro h
          have := stand_len _ _ (fun x hx => by
            rcases List.mem_append.1 hx with hx | hx
            · exact hno x hx
            · obtain rfl := List.mem_singleton.1 hx
              decide) h
          simp at this
        rw [this, Bool.and_false]
      have hcat : ((⟨(joinW k).toArray⟩ : ByteArray) ++ ⟨#[46, 120]⟩) = ⟨(joinW (k ++ [[120]])).toArray⟩ := by
        rw [joinW_snoc _ _ hkne]
        exact cat_list _ _
      obtain ⟨a1, d1, he1, -, hat1⟩ := HP.out.one.strs
      obtain ⟨a2, d2, he2, -, hat2⟩ := HP.out.two.strs
      obtain ⟨rfl, -, rfl⟩ := Value.slice.inj he1
      obtain ⟨rfl, -, rfl⟩ := Value.slice.inj he2
      have jp := joinW_one op
      have jk := joinW_one ok
      have jx := joinW_one ox
      rw [List.length_append, List.length_singleton] at jx
      have HAT := Lib.hid (And.intro hat1 hat2)
      have HMM := Lib.hid (And.intro m1 (And.intro m2 (And.intro m3 m4)))
      have HCAT := Lib.hid hcat
      have CK := Lib.hid fun (wx : World) (h : StrsAt wx la lc k) => join_any k (by omega) (by omega) la lc wx h
      have CP := Lib.hid fun (wx : World) (h : StrsAt wx lb lc2 p) => join_any p (by omega) (by omega) lb lc2 wx h
      have jk6 : (joinW k).length ≤ 1000000 := by omega
      have HJ := Lib.hid (And.intro (show (joinW p).length ≤ 1000000 by omega) (And.intro (show (joinW k).length ≤ 1000000 by omega) (show (joinW (k ++ [[120]])).length ≤ 1000000 by omega)))
      have HBB := Lib.hid HP.out.below
      clear hat1 hat2 m1 m2 m3 m4 hcat he1 he2 jp jk jx ok op ox hpm hst hkm hno hkne HM HP hN hN1 hN2 hN12 hN0 h20 hkl2 hpl2 g1 g2
      go_wp2_with fail
      refine (told_any _).mono ?_
      rintro e w3 ⟨rfl, hb3⟩
      have HB3 := Lib.hid (HBB.out.trans (hb3.mono HBB.out.size))
      have HAT3 := Lib.hid (And.intro (HAT.out.1.below hb3) (HAT.out.2.below hb3))
      clear hb3
      go_wp2_with fail
      refine (CP.out _ HAT3.out.2).mono ?_
      rintro e w4 ⟨rfl, rfl⟩
      go_wp2_with fail
      refine (CK.out _ HAT3.out.1).mono ?_
      rintro e w4 ⟨rfl, rfl⟩
      go_wp2_with fail
      refine (match_is _ _ HJ.out.1 HJ.out.2.1 true HMM.out.1 _).mono ?_
      rintro e w5 ⟨rfl, hb5⟩
      have HB5 := Lib.hid (HB3.out.trans (hb5.mono HB3.out.size))
      have HAT5 := Lib.hid (HAT3.out.1.below hb5)
      clear hb5
      go_wp2_with fail
      refine (CK.out _ HAT5.out).mono ?_
      rintro e w6 ⟨rfl, rfl⟩
      go_wp2_with fail
      refine (CK.out _ HAT5.out).mono ?_
      rintro e w6 ⟨rfl, rfl⟩
      go_wp2_with fail
      refine (match_is _ _ HJ.out.2.1 HJ.out.2.1 true HMM.out.2.1 _).mono ?_
      rintro e w7 ⟨rfl, hb7⟩
      have HB7 := Lib.hid (HB5.out.trans (hb7.mono HB5.out.size))
      have HAT7 := Lib.hid (HAT5.out.below hb7)
      clear hb7
      go_wp2_with fail
      refine (CK.out _ HAT7.out).mono ?_
      rintro e w8 ⟨rfl, rfl⟩
      go_wp2_with fail
      refine (match_is [35] _ (by decide) HJ.out.2.1 true HMM.out.2.2.1 _).mono ?_
      rintro e w9 ⟨rfl, hb9⟩
      have HB9 := Lib.hid (HB7.out.trans (hb9.mono HB7.out.size))
      have HAT9 := Lib.hid (HAT7.out.below hb9)
      clear hb9
      go_wp2_with fail
      refine (CK.out _ HAT9.out).mono ?_
      rintro e w10 ⟨rfl, rfl⟩
      go_wp2_with fail
      refine (CK.out _ HAT9.out).mono ?_
      rintro e w10 ⟨rfl, rfl⟩
      go_wp2_with fail
      rw [HCAT.out]
      refine (match_is _ _ HJ.out.2.2 HJ.out.2.1 false HMM.out.2.2.2 _).mono ?_
      rintro e w11 ⟨rfl, hb11⟩
      have HB11 := Lib.hid (HB9.out.trans (hb11.mono HB9.out.size))
      clear hb11
      go_wp2_with fail
      go_ret
      exact ⟨rfl, HB11.out⟩

set_option maxRecDepth 100000 in
set_option maxHeartbeats 1000000 in
theorem makes_none (a0 : Option Addr) (len0 cap0 : Nat) (a1 : Option Addr) (len1 cap1 : Nat) (w : World) (h : len0 < 1 ∨ (1 ≤ len0 ∧ (len1 : Int) < min (len0 : Int) 12)) :
    Calls Try.prog 4 #[.slice a0 len0 cap0, .slice a1 len1 cap1] w fun e w' => e = .returned (.bool true) ∧ Below w.heap.size w w' := by
  obtain ⟨N, hN⟩ : ∃ N : Nat, min (len0 : Int) 12 = (N : Int) := ⟨(min (len0 : Int) 12).toNat, by omega⟩
  go_enter Try.func4, Try.ntmps4
  rcases h with h | ⟨h, h'⟩
  · have g1 : (N : Int) < 1 := by omega
    clear h
    go_wp2_with (go_at_call 8; refine (told_any _).mono ?_; rintro e w1 ⟨rfl, hb1⟩; have HB1 := Lib.hid hb1; clear hb1)
    go_ret
    exact ⟨rfl, HB1.out⟩
  · have g1 : ¬ (N : Int) < 1 := by omega
    have g2 : (len1 : Int) < (N : Int) := by omega
    clear h h'
    go_wp2_with (go_at_call 8; refine (told_any _).mono ?_; rintro e w1 ⟨rfl, hb1⟩; have HB1 := Lib.hid hb1; clear hb1)
    go_ret
    exact ⟨rfl, HB1.out⟩

theorem row_at {w : World} {x : Addr} {cap : Nat} {zs : List Int} (h0 : 0 < cap) (hz : zs.length = cap) (h : ∀ i, i < zs.length → w.cell? (x.add i) = some (.int .i64 (zs.getD i 0))) : ∃ b o, x = ⟨b, o, none⟩ ∧ ∀ i, i < zs.length → w.cell? ⟨b, o + i, none⟩ = some (.int .i64 (zs.getD i 0)) := by
  have h1 := h 0 (by omega)
  obtain ⟨b, off, rfl⟩ := addr_of h1
  exact ⟨b, off, rfl, fun i hi => by rw [← add_at]; exact h i hi⟩

theorem makes_any (a0 : Option Addr) (len0 cap0 : Nat) (z0 : List Int) (a1 : Option Addr) (len1 cap1 : Nat) (z1 : List Int) (w : World) (w0 : IsRow .i64 w a0 len0 cap0 z0) (w1 : IsRow .i64 w a1 len1 cap1 z1) :
    Calls Try.prog 4 #[.slice a0 len0 cap0, .slice a1 len1 cap1] w fun e w' => e = .returned (.bool true) ∧ Below w.heap.size w w' := by
  by_cases h : len0 < 1
  · exact makes_none a0 len0 cap0 a1 len1 cap1 w (.inl h)
  by_cases h' : (len1 : Int) < min (len0 : Int) 12
  · exact makes_none a0 len0 cap0 a1 len1 cap1 w (.inr ⟨by omega, h'⟩)
  rcases w0 with ⟨_, h0, _⟩ | ⟨x0, rfl, hl0, hc0, hz0, hx0, _⟩
  · omega
  rcases w1 with ⟨_, h1, _⟩ | ⟨x1, rfl, hl1, hc1, hz1, hx1, _⟩
  · omega
  obtain ⟨b0, o0, rfl, hy0⟩ := row_at (by omega) hz0 hx0
  obtain ⟨b1, o1, rfl, hy1⟩ := row_at (by omega) hz1 hx1
  exact makes_some b0 o0 len0 cap0 z0 b1 o1 len1 cap1 z1 w hl0 hc0 hz0 hy0 hl1 hc1 hz1 hy1 (min (len0 : Int) 12).toNat (by omega) (by omega) (by omega)
end Go.Proofs.Ytidedmmfmifgjaa
