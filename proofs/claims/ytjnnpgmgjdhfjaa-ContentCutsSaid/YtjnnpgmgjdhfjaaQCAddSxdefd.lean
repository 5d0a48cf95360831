/-
  takeHeader, walked.
  A scope with labels, its jumps followed one by one: at most n of them.
  take, walked: a call, a header, a piece of a body, what is not next.
  take, walked: a piece of a body.
  Add, walked.
  Add of a call, a header, a piece of a body.
-/
import Derived.Test.YtjnnpgmgjdhfjaaQCJoinDxedbc
import Derived.Test.YtjnnpgmgjdhfjaaQGetTxeecd
import Derived.Test.YtjnnpgmgjdhfjaaQOctDxbefc
import Derived.Test.YtjnnpgmgjdhfjaaQCTakexdceb
import Derived.Deep.RegionLaw
namespace Go.Proofs.Ytjnnpgmgjdhfjaa
open Go.RowKit
set_option linter.unusedVariables false
variable {B : Nat}

set_option maxRecDepth 100000 in
/-- what a header leaves of a join's cells. -/
theorem jat_head {w : World} {g : Nat} {ch : Int} {J : JS} {ma : Option Addr} {mc : Nat} {pv bv : Value} (h : w.heap[g]? = some (.cells (jC ch J ma mc pv bv) 65 (0, 0))) (pv' : Value) (b : List UInt8) (n : Nat) :
    ((w.setCell ⟨g, 14, none⟩ pv').setCell ⟨g, 16, none⟩ (.int .i64 n)).heap[g]? = some (.cells (jC ch { J with props := b, left := n } ma mc pv' bv) 65 (0, 0)) := by
  rw [set_heap (set_heap h 14 _) 16 _]
  unfold jC
  simp only [List.setIfInBounds_toArray, List.set_cons_zero, List.set_cons_succ]

set_option maxRecDepth 100000 in
set_option maxHeartbeats 8000000 in
theorem takeHeader_any {w : World} {g : Nat} {ch : Int} {J : JS} {ma : Option Addr} {mc : Nat} {pv bv : Value} (hj : w.heap[g]? = some (.cells (jC ch J ma mc pv bv) 65 (0, 0))) (v : Value) (n : Nat) (hn : n ≤ 65536) (l : List It) (hm : MayT 1 l) (hfit : Fits l) (h3 : (putT l).length ≤ 3000) (hB : B ≤ w.heap.size) (hv : BytesIn B w v (be 8 n ++ putT l)) :
    Calls Try.prog 48 #[.pointer (some ⟨g, 0, none⟩), v] w fun e w' => ∃ pv', e = .returned (.int .i64 0) ∧ w'.heap[g]? = some (.cells (jC ch { J with props := putT l, left := n } ma mc pv' bv) 65 (0, 0)) ∧ Buf w' w.heap.size pv' (putT l) ∧ Kept [g] w w' := by
  have HJ := Lib.hid hj
  have HD := Lib.hid (And.intro hm (And.intro hfit h3))
  have hgl : g < w.heap.size := (Array.getElem?_eq_some_iff.1 hj).1
  obtain ⟨a, cap, rfl, hlc, hcm, hat⟩ := hv
  have hlen : (be 8 n ++ putT l).length ≤ 4000 := by rw [List.length_append, be_length]; omega
  obtain ⟨b, hb⟩ : ∃ b, b = be 8 n ++ putT l := ⟨_, rfl⟩
  have hnp : numP 8 b = (n, putT l, false) := by
    rw [hb, numP_app, Nat.mod_eq_of_lt (by omega)]
  rw [← hb] at hlc hat hlen ⊢
  have hrd : Rd 86 B (w.alloc (.cells #[.slice a b.length cap, .bool false] 86)) w.heap.size b false :=
    ⟨_, heap_alloc_new w _, a, cap, rfl, hlc, hcm, hat.below ((Below.refl _ _).alloc (Nat.le_refl _) _)⟩
  have HRD := Lib.hid hrd
  have HNP := Lib.hid hnp
  have hw1 : (w.alloc (.cells #[.slice a b.length cap, .bool false] 86)).heap.size = w.heap.size + 1 := by simp
  have hb1 : Below w.heap.size w (w.alloc (.cells #[.slice a b.length cap, .bool false] 86)) := (Below.refl _ _).alloc (Nat.le_refl _) _
  have HB1 := Lib.hid hb1
  obtain ⟨nb, hnb⟩ : ∃ k, k = b.length := ⟨_, rfl⟩
  rw [← hnb] at HRD hw1 HB1 ⊢
  clear hj hm hfit h3 hat hrd hnp hb1 hnb hb hlc
  go_enter Try.func48, Try.ntmps48
  go_wp2_with fail
  refine (number_any (T := 86) (B := B) w.heap.size 8 (by decide) b false _ HRD.out).mono ?_
  rintro e w2 ⟨he, hr2, hg2⟩
  rw [HNP.out] at he hr2
  subst he
  obtain ⟨rv, hrh, a2, c2, rfl, hl2, hm2, hat2⟩ := hr2
  have hb2 := HB1.out.grown hg2 HB1.out.size (fun k e => by cases e; exact Nat.le_refl _)
  have HB2 := Lib.hid hb2
  have HRH := Lib.hid hrh
  have HIN := Lib.hid (show BytesIn B w2 (.slice a2 (putT l).length c2) (putT l) from ⟨a2, c2, rfl, hl2, hm2, hat2⟩)
  have c0 : w2.cell? ⟨w.heap.size, 0, none⟩ = some (.slice a2 (putT l).length c2) := by rw [cell_of_row w2 _ _ _ _ _ hrh]; rfl
  have hgw2 : w.heap.size < w2.heap.size := (Array.getElem?_eq_some_iff.1 hrh).1
  clear hg2 hb2 hrh hat2 hl2 HRD HB1 hw1
  go_wp2_with fail
  refine (get_any (B := B) _ (putT l) w2 (by omega) HIN.out).mono ?_
  rintro e w3 ⟨hb3, h⟩
  obtain ⟨L3, a3, k3, rfl⟩ : ∃ (L : Nat) (a3 : Option Addr) (k3 : Nat), e = .returned (.tuple #[.slice a3 L k3, .int .i64 0]) := by
    rcases h with ⟨_, h⟩ | ⟨l', a3, k3, bs, _, _, _, h, _⟩
    · exact (h l HD.out.1 HD.out.2.1 rfl HD.out.2.2).elim
    · exact ⟨_, _, _, h⟩
  have HB3 := Lib.hid (HB2.out.trans (hb3.mono HB2.out.size))
  have hrh3 := (hb3.block _ hgw2).trans HRH.out
  have d0 : w3.cell? ⟨w.heap.size, 0, none⟩ = some (.slice a2 (putT l).length c2) := by rw [cell_of_row w3 _ _ _ _ _ hrh3]; rfl
  have d1 : w3.cell? ⟨w.heap.size, 1, none⟩ = some (.bool false) := by rw [cell_of_row w3 _ _ _ _ _ hrh3]; rfl
  have HIN3 := Lib.hid (HIN.out.below hb3)
  have hn6 : (n : Int) ≤ 65536 := by omega
  have hnw : IntKind.i64.wrap (n : Int) = (n : Int) := IntWalk.i64_in _ (by omega)
  clear h hb3 hrh3 c0
  go_wp2_with fail
  obtain ⟨a', c', he', h1', h2', hat'⟩ := HIN3.out
  obtain ⟨rfl, -, rfl⟩ := Value.slice.inj he'
  refine (clone_any (B := B) a2 c2 (putT l) h1' h2' (by have := HD.out.2.2; omega) w3 hat').mono ?_
  rintro e w4 ⟨v4, rfl, hbf, hb4⟩
  obtain ⟨N4, a4, c4, hN4, rfl, hl4, hm4⟩ := hbf.form2
  have HB4 := Lib.hid (HB3.out.trans (hb4.mono HB3.out.size))
  have HBF := Lib.hid hbf
  have hz3 := HB3.out.size
  have hj4 := (HB4.out.block g hgl).trans HJ.out
  have HJ4 := Lib.hid hj4
  obtain ⟨j0, j1, j2, j3, j4, j5, j6, j7, j8, j9, j10, j11, j12, j13, j14, j15, j16⟩ := jat_cells hj4
  have f14 := jat_frozen hj4 14
  have f16 := jat_frozen hj4 16
  clear j0 j1 j2 j3 j4 j5 j6 j7 j8 j9 j10 j11 j12 j13 j15 hbf hN4 hl4 hm4 hb4 hj4 he' h1' h2' hat' d0 d1
  go_wp2_with fail
  go_ret
  refine ⟨.slice a4 N4 c4, rfl, jat_head HJ4.out _ _ _, ?_, ((Kept.of_below HB4.out).set (by simp) 14 _).set (by simp) 16 _⟩
  refine (HBF.out.mono hz3).stay (fun k e => ?_)
  have hk := (World.ownsRow.lt HBF.out k e).1
  rw [Below.heap_setCell _ _ _ _ (by show k ≠ g; omega), Below.heap_setCell _ _ _ _ (by show k ≠ g; omega)]

end Go.Proofs.Ytjnnpgmgjdhfjaa

namespace Go.Proofs.Ytjnnpgmgjdhfjaa
set_option linter.unusedVariables false

/-- As Q; by a goto, what stands behind the label, with one jump less. -/
def unroll (P : Program) (c : Code) (Q : Exit → Act → World → Prop) : Nat → Exit → Act → World → Prop
  | 0 => fun e a w => match e with | .goto _ => False | e => Q e a w
  | n + 1 => fun e a w => match e with | .goto l => ∃ rest, findLabel c l = some (Code.skip.seq rest) ∧ rest.wp P (unroll P c Q n) a w | e => Q e a w
theorem unroll_ret {P : Program} {c : Code} {Q : Exit → Act → World → Prop} {n : Nat} {a : Act} {w : World} (h : Q .ret a w) : unroll P c Q n .ret a w := by cases n <;> exact h
theorem unroll_goto {P : Program} {c : Code} {Q : Exit → Act → World → Prop} {n : Nat} {l : Nat} {a : Act} {w : World} (rest : Code) (hf : findLabel c l = some (Code.skip.seq rest)) (h : rest.wp P (unroll P c Q n) a w) : unroll P c Q (n + 1) (.goto l) a w := ⟨rest, hf, h⟩

theorem wp_scope_unroll {P : Program} {a : Act} {w : World} {Q : Exit → Act → World → Prop} {c : Code} (n : Nat) (h : c.wp P (unroll P c Q n) a w) : (Code.scope c).wp P Q a w := by
  refine wp_scope_many (fun l k a w => ∃ rest, findLabel c l = some (Code.skip.seq rest) ∧ rest.wp P (unroll P c Q k) a w) ?_ ?_
  · intro H hJ _
    refine Code.wp_mono (fun e a' w' hq => ?_) h
    cases n with
    | zero => cases e with
      | goto l => exact hq.elim
      | _ => exact hq
    | succ k => cases e with
      | goto l => exact hJ l k a' w' hq
      | _ => exact hq
  · rintro l k a' w' ⟨rest, hf, hr⟩
    refine ⟨rest, hf, fun H hH => ?_⟩
    refine Code.wp_mono (fun e a2 w2 hq => ?_) hr
    cases k with
    | zero => cases e with
      | goto l => exact hq.elim
      | _ => exact hq
    | succ m => cases e with
      | goto l' => exact hH l' m a2 w2 (Nat.lt_succ_self m) hq
      | _ => exact hq

end Go.Proofs.Ytjnnpgmgjdhfjaa

namespace Go.Proofs.Ytjnnpgmgjdhfjaa
open Go.RowKit
set_option linter.unusedVariables false
variable {B : Nat}

set_option maxRecDepth 100000 in
set_option maxHeartbeats 8000000 in
theorem take_call {w : World} {g : Nat} {ch : Int} {J : JS} {ma : Option Addr} {mc : Nat} {pv bv : Value} (hj : w.heap[g]? = some (.cells (jC ch J ma mc pv bv) 65 (0, 0))) (hst : J.st = 0 ∨ J.st = 3) (c : Int) (v : Value) (m : Me) (hg : Good m) (hh : Has m.id) (hargs : m.args = []) (hB : B ≤ w.heap.size) (hv : BytesIn B w v (putM m)) :
    Calls Try.prog 31 #[.pointer (some ⟨g, 0, none⟩), .agg #[.int .i64 1, .int .i64 c, v]] w fun e w' => ∃ (ma' : Option Addr) (mc' : Nat), e = .returned (.tuple #[.int .i64 1, .int .i64 0]) ∧ w'.heap[g]? = some (.cells (jC ch ⟨0, m, [], [], 0⟩ ma' mc' (.slice none 0 0) (.slice none 0 0)) 65 (0, 0)) ∧ mc' ≤ maxLen ∧ Kept [g] w w' := by
  have hgl : g < w.heap.size := (Array.getElem?_eq_some_iff.1 hj).1
  obtain ⟨a, cap, rfl, hlc, hcm, hat⟩ := hv
  have hb0 : Below w.heap.size w (w.alloc (.cells #[.int .i64 1, .int .i64 c, .slice a (putM m).length cap] 36)) := (Below.refl _ _).alloc (Nat.le_refl _) _
  have hw0 : (w.alloc (.cells #[.int .i64 1, .int .i64 c, .slice a (putM m).length cap] 36)).heap.size = w.heap.size + 1 := by simp
  have hj0 := (hb0.block g hgl).trans hj
  have HTC := Lib.hid (takeCall_any (B := B) hj0 (.slice a (putM m).length cap) m hg hh hargs (by omega) ⟨a, cap, rfl, hlc, hcm, hat.below hb0⟩)
  obtain ⟨j0, j1, j2, j3, j4, j5, j6, j7, j8, j9, j10, j11, j12, j13, j14, j15, j16⟩ := jat_cells hj0
  obtain ⟨N, hN⟩ : ∃ N, N = (putM m).length := ⟨_, rfl⟩
  rw [← hN] at HTC j1 hw0 hb0 ⊢
  have HB0 := Lib.hid hb0
  have hne : g ≠ w.heap.size := by omega
  clear j0 j2 j3 j4 j5 j6 j7 j8 j9 j10 j11 j12 j13 j14 j15 j16 hj0 hb0 hN hlc hat hj hw0
  rcases hst with hs | hs
  all_goals
    rw [hs] at j1
    go_enter Try.func31, Try.ntmps31
    go_wp2
    refine wp_scope_unroll 4 ?_
    go_wp2_with fail
    refine HTC.out.mono ?_
    rintro e w1 ⟨ma', mc', rfl, h1, h2, h3⟩
    have H1 := Lib.hid (And.intro h1 (And.intro h2 (show Kept [g] w w1 from (Kept.of_below HB0.out).trans h3 (by simp))))
    clear h1 h2 h3
    go_wp2_with fail
    refine unroll_ret ?_
    go_ret2
    exact ⟨ma', mc', rfl, H1.out⟩

set_option maxRecDepth 100000 in
set_option maxHeartbeats 8000000 in
theorem take_head {w : World} {g : Nat} {ch : Int} {J : JS} {ma : Option Addr} {mc : Nat} {pv bv : Value} (hj : w.heap[g]? = some (.cells (jC ch J ma mc pv bv) 65 (0, 0))) (hst : J.st = 1) (c : Int) (v : Value) (n : Nat) (hn : n ≤ 65536) (l : List It) (hm : MayT 1 l) (hfit : Fits l) (h3 : (putT l).length ≤ 3000) (hB : B ≤ w.heap.size) (hv : BytesIn B w v (be 8 n ++ putT l)) :
    Calls Try.prog 31 #[.pointer (some ⟨g, 0, none⟩), .agg #[.int .i64 2, .int .i64 c, v]] w fun e w' => ∃ pv', e = .returned (.tuple #[.int .i64 (if n = 0 then 3 else 2), .int .i64 0]) ∧ w'.heap[g]? = some (.cells (jC ch { J with props := putT l, left := n } ma mc pv' bv) 65 (0, 0)) ∧ Buf w' w.heap.size pv' (putT l) ∧ Kept [g] w w' := by
  have hgl : g < w.heap.size := (Array.getElem?_eq_some_iff.1 hj).1
  obtain ⟨a, cap, rfl, hlc, hcm, hat⟩ := hv
  obtain ⟨N, hN⟩ : ∃ N, N = (be 8 n ++ putT l).length := ⟨_, rfl⟩
  have hb0 : Below w.heap.size w (w.alloc (.cells #[.int .i64 2, .int .i64 c, .slice a N cap] 36)) := (Below.refl _ _).alloc (Nat.le_refl _) _
  have hw0 : (w.alloc (.cells #[.int .i64 2, .int .i64 c, .slice a N cap] 36)).heap.size = w.heap.size + 1 := by simp
  have hj0 := (hb0.block g hgl).trans hj
  have htc := takeHeader_any (B := B) hj0 (.slice a (be 8 n ++ putT l).length cap) n hn l hm hfit h3 (by omega) ⟨a, cap, rfl, hlc, hcm, hat.below hb0⟩
  rw [← hN] at htc ⊢
  have HTC := Lib.hid htc
  obtain ⟨j0, j1, j2, j3, j4, j5, j6, j7, j8, j9, j10, j11, j12, j13, j14, j15, j16⟩ := jat_cells hj0
  have HB0 := Lib.hid hb0
  have HW0 := Lib.hid hw0
  have hne : g ≠ w.heap.size := by omega
  rw [hst] at j1
  clear j0 j2 j3 j4 j5 j6 j7 j8 j9 j10 j11 j12 j13 j14 j15 j16 hj0 hb0 hN hlc hat hj hw0 htc hm hfit h3
  go_enter Try.func31, Try.ntmps31
  go_wp2
  refine wp_scope_unroll 4 ?_
  go_wp2_with fail
  go_step3
  refine unroll_goto _ rfl ?_
  go_wp2_with fail
  refine HTC.out.mono ?_
  rintro e w1 ⟨pv', rfl, h1, h2, h3⟩
  have H1 := Lib.hid (And.intro h1 (And.intro (show Buf w1 w.heap.size pv' (putT l) from h2.mono (by rw [HW0.out]; omega)) (show Kept [g] w w1 from (Kept.of_below HB0.out).trans h3 (by simp))))
  obtain ⟨j0, j1, j2, j3, j4, j5, j6, j7, j8, j9, j10, j11, j12, j13, j14, j15, j16⟩ := jat_cells h1
  clear j0 j1 j2 j3 j4 j5 j6 j7 j8 j9 j10 j11 j12 j13 j14 j15 h1 h2 h3
  go_wp2_with fail
  go_step3
  refine unroll_goto _ rfl ?_
  by_cases h0 : n = 0
  · subst h0
    go_wp2_with fail
    refine unroll_ret ?_
    go_ret2
    exact ⟨pv', rfl, H1.out⟩
  · have hnz : ((n : Int) == 0) = false := by rw [beq_eq_false_iff_ne]; omega
    go_wp2_with fail
    refine unroll_ret ?_
    go_ret2
    exact ⟨pv', by rw [if_neg h0]; rfl, H1.out⟩

set_option maxRecDepth 100000 in
set_option maxHeartbeats 8000000 in
theorem take_not {w : World} {g : Nat} {ch : Int} {J : JS} {ma : Option Addr} {mc : Nat} {pv bv : Value} (hj : w.heap[g]? = some (.cells (jC ch J ma mc pv bv) 65 (0, 0))) (k c : Int) (a : Option Addr) (n cap : Nat) (hst : ((J.st = 0 ∨ J.st = 3) ∧ ¬ k = 1) ∨ (J.st = 1 ∧ ¬ k = 2) ∨ (J.st = 2 ∧ ¬ k = 3)) :
    Calls Try.prog 31 #[.pointer (some ⟨g, 0, none⟩), .agg #[.int .i64 k, .int .i64 c, .slice a n cap]] w fun e w' => e = .returned (.tuple #[.int .i64 0, .int .i64 501]) ∧ Below w.heap.size w w' := by
  have hgl : g < w.heap.size := (Array.getElem?_eq_some_iff.1 hj).1
  have hb0 : Below w.heap.size w (w.alloc (.cells #[.int .i64 k, .int .i64 c, .slice a n cap] 36)) := (Below.refl _ _).alloc (Nat.le_refl _) _
  have hj0 := (hb0.block g hgl).trans hj
  obtain ⟨j0, j1, j2, j3, j4, j5, j6, j7, j8, j9, j10, j11, j12, j13, j14, j15, j16⟩ := jat_cells hj0
  have HB0 := Lib.hid hb0
  have hne : g ≠ w.heap.size := by omega
  clear j0 j2 j3 j4 j5 j6 j7 j8 j9 j10 j11 j12 j13 j14 j15 hj0 hb0 hj
  rcases hst with ⟨hs | hs, hk⟩ | ⟨hs, hk⟩ | ⟨hs, hk⟩
  all_goals rw [hs] at j1
  · have hkb : (k != 1) = true := by simpa using hk
    go_enter Try.func31, Try.ntmps31
    go_wp2
    refine wp_scope_unroll 4 ?_
    go_wp2_with fail
    go_step3
    refine unroll_goto _ rfl ?_
    go_wp2_with fail
    refine unroll_ret ?_
    go_ret2
    exact ⟨rfl, HB0.out⟩
  · have hkb : (k != 1) = true := by simpa using hk
    go_enter Try.func31, Try.ntmps31
    go_wp2
    refine wp_scope_unroll 4 ?_
    go_wp2_with fail
    go_step3
    refine unroll_goto _ rfl ?_
    go_wp2_with fail
    refine unroll_ret ?_
    go_ret2
    exact ⟨rfl, HB0.out⟩
  · have hkb : (k != 2) = true := by simpa using hk
    go_enter Try.func31, Try.ntmps31
    go_wp2
    refine wp_scope_unroll 4 ?_
    go_wp2_with fail
    go_step3
    refine unroll_goto _ rfl ?_
    go_wp2_with fail
    go_step3
    refine unroll_goto _ rfl ?_
    go_wp2_with fail
    refine unroll_ret ?_
    go_ret2
    exact ⟨rfl, HB0.out⟩
  · have hkb : (k != 3) = true := by simpa using hk
    go_enter Try.func31, Try.ntmps31
    go_wp2
    refine wp_scope_unroll 4 ?_
    go_wp2_with fail
    go_step3
    refine unroll_goto _ rfl ?_
    go_wp2_with fail
    go_quiet (fail)
    go_wp2_with fail
    go_step3
    refine unroll_goto _ rfl ?_
    go_wp2_with fail
    refine unroll_ret ?_
    go_ret2
    exact ⟨rfl, Below.drewN HB0.out _⟩

end Go.Proofs.Ytjnnpgmgjdhfjaa

namespace Go.Proofs.Ytjnnpgmgjdhfjaa
open Go.RowKit
set_option linter.unusedVariables false
variable {B : Nat}

set_option maxRecDepth 100000 in
/-- what a piece of a body leaves of a join's cells. -/
theorem jat_body {w : World} {g : Nat} {ch : Int} {J : JS} {ma : Option Addr} {mc : Nat} {pv bv : Value} (h : w.heap[g]? = some (.cells (jC ch J ma mc pv bv) 65 (0, 0))) (bv' : Value) (b : List UInt8) :
    (w.setCell ⟨g, 15, none⟩ bv').heap[g]? = some (.cells (jC ch { J with body := b } ma mc pv bv') 65 (0, 0)) := by
  rw [set_heap h 15 _]
  unfold jC
  simp only [List.setIfInBounds_toArray, List.set_cons_zero, List.set_cons_succ]
set_option maxRecDepth 100000 in
theorem jat_left {w : World} {g : Nat} {ch : Int} {J : JS} {ma : Option Addr} {mc : Nat} {pv bv : Value} (h : w.heap[g]? = some (.cells (jC ch J ma mc pv bv) 65 (0, 0))) (n : Nat) (z : Int) (hz : z = n) :
    (w.setCell ⟨g, 16, none⟩ (.int .i64 z)).heap[g]? = some (.cells (jC ch { J with left := n } ma mc pv bv) 65 (0, 0)) := by
  subst hz
  rw [set_heap h 16 _]
  unfold jC
  simp only [List.setIfInBounds_toArray, List.set_cons_zero, List.set_cons_succ]
/-- bytes behind those of the call's own, at a step of a region that draws its order. -/
theorem step_put_bytes {ops : Array Oper} {o : Oper} {a : Act} {K : Act → World → Prop} {Q : Exit → Act → World → Prop} {E : Prop} {w : World} {base B n c : Nat} {v : Value} {l m : List UInt8} {ad : Option Addr} (hgd : o.guard = none) (s x : Operand)
    (ho : o.op = .call { callee := .builtin .append, args := #[s, x], argTypes := #[26, 26] }) (hb : Buf w base v l) (hbase : base ≤ w.heap.size) (hm : BytesAt B w ad m) (hl : l.length + m.length ≤ 1000000) (hn : n = m.length)
    (hs : a.eval s = v) (hx : a.eval x = .slice ad n c)
    (h : ∀ v' w', Buf w' base v' (l ++ m) → Onto w v w' v' → K (a.put o.dst v') w') :
    if Region.wanted o (yielded ops a.tmps) = true then Oper.wp Try.prog o a w K Q else E := by
  have hw : Region.wanted o (yielded ops a.tmps) = true := by simp [Region.wanted, hgd]
  rw [if_pos hw]
  subst hn
  obtain ⟨v', w', hr, h1, h2⟩ := run_bytes o.type hb hbase ad c hm hl
  unfold Oper.wp execOp
  simp only [ho, resolve, invoke, builtin, Sem.run_bind, Sem.run_pure, Result.andThen_ok, List.map_toArray, List.map_cons, List.map_nil, hs, hx, hr]
  exact h v' w' h1 h2
theorem Buf.eqHeap {w w' : World} {base : Nat} {v : Value} {l : List UInt8} (h : Buf w base v l) (hk : w'.heap = w.heap) : Buf w' base v l := h.stay fun k _ => by rw [hk]

/-- a join behind a piece of its body. -/
theorem body_end {w X w2 w4 : World} {g : Nat} {ch : Int} {J : JS} {bs : List Nat} {ma : Option Addr} {mc : Nat} {pv bv v2 : Value} {d : List UInt8} {q : Nat} {z : Int} (hz : z = (q : Nat)) (hgw : g < w.heap.size) (hbd : ∀ b ∈ bs, b < w.heap.size) (hbX : Below w.heap.size w X) (hJ : JAt X g ch J bs ma mc pv bv) (hb2 : Buf w2 0 v2 (J.body ++ d)) (hon : Onto X.drew bv w2 v2)
    (hg2 : w2.heap[g]? = some (.cells (jC ch J ma mc pv bv) 65 (0, 0))) (hw4 : w4 = ((w2.setCell ⟨g, 15, none⟩ v2).setCell ⟨g, 16, none⟩ (.int .i64 z)).drew) :
    ∃ bs', JAt w4 g ch { J with body := J.body ++ d, left := q } bs' ma mc pv v2 ∧ (∀ b ∈ bs', b ∈ bs ∨ w.heap.size ≤ b) ∧ Kept bs w w4 := by
  have hsz : w4.heap.size = w2.heap.size := by
    rw [hw4]
    show ((w2.setCell ⟨g, 15, none⟩ v2).setCell ⟨g, 16, none⟩ (.int .i64 z)).heap.size = _
    simp [World.setCell]
  have hoth : ∀ b, b ≠ g → w4.heap[b]? = w2.heap[b]? := by
    intro b hb
    rw [hw4]
    show ((w2.setCell ⟨g, 15, none⟩ v2).setCell ⟨g, 16, none⟩ (.int .i64 z)).heap[b]? = _
    rw [Below.heap_setCell _ _ _ _ hb, Below.heap_setCell _ _ _ _ hb]
  have hXz := hbX.size
  have hXd : X.drew.heap.size = X.heap.size := rfl
  have hz2 := hon.grew.size
  rw [hXd] at hz2
  have hv2 : ∀ k, v2.ownBlock = some k → bv.ownBlock = some k ∨ X.heap.size ≤ k := by
    intro k e
    rcases hon.own with h | ⟨g', h, hg'⟩
    · exact .inl (h.symm.trans e)
    · rw [h] at e
      cases e
      exact .inr hg'
  have hne : ∀ k, v2.ownBlock = some k → k ≠ g ∧ pv.ownBlock ≠ some k := by
    intro k e
    rcases hv2 k e with h | h
    · exact (hJ.bown k h).2
    · refine ⟨by omega, fun e2 => ?_⟩
      have := Buf.lt hJ.pbuf k e2
      omega
  refine ⟨v2.ownBlock.toList ++ bs, ⟨?_, by simp [hJ.mem], ?_, hJ.args, hJ.cap, ?_, ?_, ?_, ?_⟩, ?_, ?_⟩
  · rw [hw4]
    exact jat_left (jat_body hg2 v2 _) q z hz
  · intro b hb
    rcases List.mem_append.1 hb with hb | hb
    · have := Buf.lt hb2 b (by simpa using hb)
      omega
    · have := hbd b hb
      omega
  · refine hJ.pbuf.stay (fun k e => ?_)
    rw [hoth k (hJ.pown k e).2]
    exact hon.block (by have := Buf.lt hJ.pbuf k e; omega) (fun e2 => (hJ.bown k e2).2.2 e)
  · exact hb2.stay (fun k e => hoth k (hne k e).1)
  · intro k e
    exact ⟨List.mem_append.2 (.inr (hJ.pown k e).1), (hJ.pown k e).2⟩
  · intro k e
    exact ⟨List.mem_append.2 (.inl (by rw [e]; simp)), hne k e⟩
  · intro b hb
    rcases List.mem_append.1 hb with hb | hb
    · rcases hv2 b (by simpa using hb) with h | h
      · exact .inl (hJ.bown b h).1
      · exact .inr (by omega)
    · exact .inl hb
  · have h1 : Kept bs w w2 := ((Kept.of_below hbX).drew).grown hon.grew (fun k e => .inl (hJ.bown k e).1)
    rw [hw4]
    exact ((h1.set hJ.mem 15 v2).set hJ.mem 16 _).drew

set_option maxRecDepth 100000 in
set_option maxHeartbeats 8000000 in
theorem take_body {w : World} {g : Nat} {ch : Int} {J : JS} {bs : List Nat} {ma : Option Addr} {mc : Nat} {pv bv : Value} (hj : JAt w g ch J bs ma mc pv bv) (hst : J.st = 2) (c : Int) (a : Option Addr) (cap : Nat) (d : List UInt8) (hlc : d.length ≤ cap) (hcm : cap ≤ maxLen) (hd0 : 0 < d.length) (hdl : d.length ≤ J.left) (hl6 : J.left ≤ 65536) (hbl : J.body.length ≤ 65536)
    (hB : B ≤ w.heap.size) (hbs : ∀ b ∈ bs, B ≤ b) (hat : BytesAt B w a d) :
    Calls Try.prog 31 #[.pointer (some ⟨g, 0, none⟩), .agg #[.int .i64 3, .int .i64 c, .slice a d.length cap]] w fun e w' => ∃ bv' bs', e = .returned (.tuple #[.int .i64 (if J.left = d.length then 3 else 2), .int .i64 0]) ∧
      JAt w' g ch { J with body := J.body ++ d, left := J.left - d.length } bs' ma mc pv bv' ∧ (∀ b ∈ bs', b ∈ bs ∨ w.heap.size ≤ b) ∧ Kept bs w w' := by
  have hgl : g < w.heap.size := hj.lt
  obtain ⟨N, hN⟩ : ∃ N, N = d.length := ⟨_, rfl⟩
  have hb0 : Below w.heap.size w (w.alloc (.cells #[.int .i64 3, .int .i64 c, .slice a N cap] 36)) := (Below.refl _ _).alloc (Nat.le_refl _) _
  have hf0 : (w.alloc (.cells #[.int .i64 3, .int .i64 c, .slice a N cap] 36)).heap[w.heap.size]? = some (.cells #[.int .i64 3, .int .i64 c, .slice a N cap] 36 (0, 0)) := heap_alloc_new w _
  have hw0 : (w.alloc (.cells #[.int .i64 3, .int .i64 c, .slice a N cap] 36)).heap.size = w.heap.size + 1 := by simp
  have hj0 := hj.below hb0
  have hat0 := hat.below hb0
  rw [← hN] at hlc hd0 hdl ⊢
  have HJ0 := Lib.hid hj0
  have HJW := Lib.hid hj.bnd
  obtain ⟨j0, j1, j2, j3, j4, j5, j6, j7, j8, j9, j10, j11, j12, j13, j14, j15, j16⟩ := jat_cells hj0.at_
  have HB0 := Lib.hid hb0
  have HF0 := Lib.hid hf0
  have HAT0 := Lib.hid hat0
  have HW0 := Lib.hid hw0
  have HN := Lib.hid hN
  have hne : g ≠ w.heap.size := by omega
  rw [hst] at j1
  have hc1 : (N : Int) ≤ (J.left : Int) := by omega
  have hc2 : ¬ (J.left : Int) < (N : Int) := by omega
  have hc3 : ((N : Int) == 0) = false := by rw [beq_eq_false_iff_ne]; omega
  clear j0 j2 j3 j4 j5 j6 j7 j8 j9 j10 j11 j12 j13 j14 j15 hj0 hb0 hN hat hj hw0 hf0 hat0
  go_enter Try.func31, Try.ntmps31
  go_wp2
  refine wp_scope_unroll 4 ?_
  go_wp2_with fail
  go_step3
  refine unroll_goto _ rfl ?_
  go_wp2_with fail
  go_quiet (fail)
  go_wp2_with fail
  obtain ⟨X, hX⟩ : ∃ X, X = (w.alloc (.cells #[.int .i64 3, .int .i64 c, .slice a N cap] 36)).drewN nq := ⟨_, rfl⟩
  rw [← hX]
  have hXh : X.heap = (w.alloc (.cells #[.int .i64 3, .int .i64 c, .slice a N cap] 36)).heap := by rw [hX]; rfl
  have hbX : Below w.heap.size w X := by rw [hX]; exact Below.drewN HB0.out nq
  have hJX : JAt X g ch J bs ma mc pv bv := HJ0.out.keep (fun b _ => by rw [hXh]) (by rw [hXh]; exact Nat.le_refl _)
  have hatX : BytesAt B X.drew a d := HAT0.out.keep (fun b _ => by show X.heap[b]? = _; rw [hXh])
  have hfX : X.heap[w.heap.size]? = some (.cells #[.int .i64 3, .int .i64 c, .slice a N cap] 36 (0, 0)) := by rw [hXh]; exact HF0.out
  have hsX : X.heap.size = w.heap.size + 1 := by rw [hXh]; exact HW0.out
  have hgX : g < X.drew.heap.size := by show g < X.heap.size; omega
  have k15 : X.cell? ⟨g, 15, none⟩ = some bv := (jat_cells hJX.at_).2.2.2.2.2.2.2.2.2.2.2.2.2.2.2.1
  have x2 : X.cell? ⟨w.heap.size, 2, none⟩ = some (.slice a N cap) := by rw [cell_of_row X _ _ _ _ _ hfX]; rfl
  have HX := Lib.hid (And.intro hbX (And.intro hJX (And.intro hfX hsX)))
  have HAX := Lib.hid hatX
  clear hX hXh hbX hJX hatX hfX hsX
  obtain ⟨ba, bn, bc, rfl⟩ : ∃ a n c, bv = .slice a n c := by
    obtain ⟨a, c, h, _⟩ := HX.out.2.1.bbuf.form
    exact ⟨a, _, c, h⟩
  have hl9 : J.body.length + d.length ≤ 1000000 := by have := HN.out; omega
  have hbX := HX.out.2.1.bbuf.eqHeap (w' := X.drew) rfl
  have HBX := Lib.hid hbX
  have HGX := Lib.hid hgX
  clear hbX hgX
  go_region_law (refine step_put_bytes (base := 0) (B := B) (l := J.body) (m := d) rfl (.tmp 56) (.tmp 58) rfl HBX.out (Nat.zero_le _) HAX.out hl9 HN.out rfl rfl ?_; intro v2 w2 hb2 hon2; obtain ⟨N2, a2, c2, hN2, rfl, hl2, hm2⟩ := hb2.form2; have hg2 : w2.heap[g]? = some (.cells (jC ch J ma mc pv (.slice ba bn bc)) 65 (0, 0)) := (hon2.block HGX.out (fun e => (HX.out.2.1.bown g e).2.1 rfl)).trans HX.out.2.1.at_; have y15 : w2.cell? ⟨g, 15, none⟩ = some (.slice ba bn bc) := (jat_cells hg2).2.2.2.2.2.2.2.2.2.2.2.2.2.2.2.1; have z15 := jat_frozen hg2 15; have HR2 := Lib.hid (And.intro hg2 (And.intro hb2 hon2)); have HM2 := Lib.hid (And.intro hN2 (And.intro hl2 hm2)); clear hb2 hon2 hN2 hl2 hm2 hg2)
  all_goals
    obtain ⟨w3, hw3⟩ : ∃ w3, w3 = w2.setCell ⟨g, 15, none⟩ (.slice a2 N2 c2) := ⟨_, rfl⟩
    rw [← hw3]
    have hg3 : w3.heap[g]? = some (.cells (jC ch { J with body := J.body ++ d } ma mc pv (.slice a2 N2 c2)) 65 (0, 0)) := by
      rw [hw3]
      exact jat_body HR2.out.1 _ _
    have hlw : w.heap.size < X.drew.heap.size := by have := HX.out.2.2.2; show w.heap.size < X.heap.size; omega
    have hf3 : w3.heap[w.heap.size]? = some (.cells #[.int .i64 3, .int .i64 c, .slice a N cap] 36 (0, 0)) := by
      rw [hw3, Below.heap_setCell _ _ _ _ (by show w.heap.size ≠ g; omega)]
      refine (HR2.out.2.2.block hlw (fun e => ?_)).trans HX.out.2.2.1
      have h1 := (HX.out.2.1.bown _ e).1
      exact absurd (HJW.out _ h1) (Nat.lt_irrefl _)
    have k16 : w3.cell? ⟨g, 16, none⟩ = some (.int .i64 J.left) := (jat_cells hg3).2.2.2.2.2.2.2.2.2.2.2.2.2.2.2.2
    have z16 := jat_frozen hg3 16
    have x3 : w3.cell? ⟨w.heap.size, 2, none⟩ = some (.slice a N cap) := by rw [cell_of_row w3 _ _ _ _ _ hf3]; rfl
    have HG3 := Lib.hid (And.intro hw3 (And.intro hg3 hf3))
    have hwr : IntKind.i64.wrap ((J.left : Int) - (N : Int)) = (J.left : Int) - (N : Int) := IntWalk.i64_in _ (by omega)
    clear hw3 hg3 hf3 hlw k15 x2 y15 z15
    go_wp2_with fail
    go_region
    obtain ⟨q, hq⟩ : ∃ q : Nat, q = J.left - N := ⟨_, rfl⟩
    obtain ⟨z, hz⟩ : ∃ z : Int, z = (J.left : Int) - (N : Int) := ⟨_, rfl⟩
    have hzq : z = (q : Nat) := by omega
    rw [← hz]
    obtain ⟨w4, hw4⟩ : ∃ w4, w4 = (w3.setCell ⟨g, 16, none⟩ (.int .i64 z)).drew := ⟨_, rfl⟩
    rw [← hw4]
    have hend := body_end (w := w) (w4 := w4) (d := d) hzq hgl HJW.out HX.out.1 HX.out.2.1 HR2.out.2.1 HR2.out.2.2 HR2.out.1 (by rw [hw4, HG3.out.1])
    obtain ⟨bs', hja, hbs', hkp⟩ := hend
    have k16' : w4.cell? ⟨g, 16, none⟩ = some (.int .i64 q) := (jat_cells hja.at_).2.2.2.2.2.2.2.2.2.2.2.2.2.2.2.2
    have HEND := Lib.hid (And.intro hja (And.intro hbs' hkp))
    have HQ := Lib.hid hq
    clear hja hbs' hkp hw4 k16 z16 x3 hwr hz hzq
    by_cases hq0 : q = 0
    · have hqi : (q : Int) = 0 := by omega
      rw [hqi] at k16'
      have HIF := Lib.hid (show J.left = N by omega)
      clear hq hq0 hqi
      go_wp2_with fail
      go_step3
      go_wp2_with fail
      refine unroll_ret ?_
      go_ret2
      have h := HEND.out
      rw [HQ.out] at h
      exact ⟨_, bs', by rw [if_pos HIF.out]; rfl, h⟩
    · have hqi : ((q : Int) == 0) = false := by rw [beq_eq_false_iff_ne]; omega
      have HIF := Lib.hid (show (J.left = N) = False from eq_false (by omega))
      clear hq hq0
      go_wp2_with fail
      go_step3
      go_wp2_with fail
      refine unroll_ret ?_
      go_ret2
      have h := HEND.out
      rw [HQ.out] at h
      exact ⟨_, bs', by rw [if_neg (of_eq_false HIF.out)]; rfl, h⟩

end Go.Proofs.Ytjnnpgmgjdhfjaa

namespace Go.Proofs.Ytjnnpgmgjdhfjaa
open Go.RowKit
set_option linter.unusedVariables false
variable {B : Nat}

set_option maxRecDepth 100000 in
theorem jat_st {w : World} {g : Nat} {ch : Int} {J : JS} {ma : Option Addr} {mc : Nat} {pv bv : Value} (h : w.heap[g]? = some (.cells (jC ch J ma mc pv bv) 65 (0, 0))) (st : Nat) :
    (w.setCell ⟨g, 1, none⟩ (.int .i64 st)).heap[g]? = some (.cells (jC ch { J with st := st } ma mc pv bv) 65 (0, 0)) := by
  rw [set_heap h 1 _]
  unfold jC
  simp only [List.setIfInBounds_toArray, List.set_cons_zero, List.set_cons_succ]
theorem JAt.set {w w' : World} {g : Nat} {ch : Int} {J J' : JS} {bs : List Nat} {ma : Option Addr} {mc : Nat} {pv bv : Value} (h : JAt w g ch J bs ma mc pv bv) (hg : w'.heap[g]? = some (.cells (jC ch J' ma mc pv bv) 65 (0, 0)))
    (hk : ∀ b, b ≠ g → w'.heap[b]? = w.heap[b]?) (hz : w'.heap.size = w.heap.size) (h1 : J'.m.args = []) (h2 : J'.props = J.props) (h3 : J'.body = J.body) : JAt w' g ch J' bs ma mc pv bv :=
  ⟨hg, h.mem, fun b hb => by rw [hz]; exact h.bnd b hb, h1, h.cap, by rw [h2]; exact h.pbuf.stay fun k e => hk k (h.pown k e).2, by rw [h3]; exact h.bbuf.stay fun k e => hk k (h.bown k e).2.1, h.pown, h.bown⟩

theorem add_nil (k c : Int) (a : Option Addr) (n cap : Nat) (w : World) :
    Calls Try.prog 13 #[.pointer none, .agg #[.int .i64 k, .int .i64 c, .slice a n cap]] w fun e w' => e = .returned (.tuple #[.bool false, .int .i64 7]) ∧ Below w.heap.size w w' := by
  have hb0 : Below w.heap.size w (w.alloc (.cells #[.int .i64 k, .int .i64 c, .slice a n cap] 36)) := (Below.refl _ _).alloc (Nat.le_refl _) _
  have HB0 := Lib.hid hb0
  clear hb0
  go_enter Try.func13, Try.ntmps13
  go_wp2_with fail
  go_ret2
  exact ⟨rfl, HB0.out⟩

set_option maxRecDepth 100000 in
set_option maxHeartbeats 8000000 in
/-- what take takes, Add takes. -/
theorem add_ok {w : World} {g : Nat} {ch : Int} {J : JS} {bs : List Nat} {ma : Option Addr} {mc : Nat} {pv bv : Value} (hj : JAt w g ch J bs ma mc pv bv) (k : Int) (hk : ¬ k = 8) (a : Option Addr) (n cap : Nat) (st : Nat) (R : JS → Prop)
    (ht : ∀ W, Below w.heap.size w W → JAt W g ch J bs ma mc pv bv → Calls Try.prog 31 #[.pointer (some ⟨g, 0, none⟩), .agg #[.int .i64 k, .int .i64 ch, .slice a n cap]] W fun e w' =>
      ∃ J' bs' ma' mc' pv' bv', e = .returned (.tuple #[.int .i64 st, .int .i64 0]) ∧ JAt w' g ch J' bs' ma' mc' pv' bv' ∧ R J' ∧ (∀ b ∈ bs', b ∈ bs ∨ W.heap.size ≤ b) ∧ Kept bs W w') :
    Calls Try.prog 13 #[.pointer (some ⟨g, 0, none⟩), .agg #[.int .i64 k, .int .i64 ch, .slice a n cap]] w fun e w' =>
      ∃ J' bs' ma' mc' pv' bv', e = .returned (.tuple #[.bool (decide (st = 3)), .int .i64 0]) ∧ JAt w' g ch { J' with st := st } bs' ma' mc' pv' bv' ∧ R J' ∧ (∀ b ∈ bs', b ∈ bs ∨ w.heap.size ≤ b) ∧ Kept bs w w' := by
  have hgl : g < w.heap.size := hj.lt
  have hb0 : Below w.heap.size w (w.alloc (.cells #[.int .i64 k, .int .i64 ch, .slice a n cap] 36)) := (Below.refl _ _).alloc (Nat.le_refl _) _
  have hf0 : (w.alloc (.cells #[.int .i64 k, .int .i64 ch, .slice a n cap] 36)).heap[w.heap.size]? = some (.cells #[.int .i64 k, .int .i64 ch, .slice a n cap] 36 (0, 0)) := heap_alloc_new w _
  have hj0 := hj.below hb0
  obtain ⟨j0, j1, j2, j3, j4, j5, j6, j7, j8, j9, j10, j11, j12, j13, j14, j15, j16⟩ := jat_cells hj0.at_
  have HB0 := Lib.hid hb0
  have HJ0 := Lib.hid hj0
  have HJ := Lib.hid hj
  have HF0 := Lib.hid hf0
  have HT := Lib.hid ht
  have hkb : (k == 8) = false := by simpa using hk
  clear j1 j2 j3 j4 j5 j6 j7 j8 j9 j10 j11 j12 j13 j14 j15 j16 hj0 hb0 hj hf0 ht hk
  go_enter Try.func13, Try.ntmps13
  go_wp2_with fail
  go_quiet (fail)
  go_wp2_with fail
  obtain ⟨X, hX⟩ : ∃ X, X = (w.alloc (.cells #[.int .i64 k, .int .i64 ch, .slice a n cap] 36)).drewN nq := ⟨_, rfl⟩
  rw [← hX]
  have hXh : X.heap = (w.alloc (.cells #[.int .i64 k, .int .i64 ch, .slice a n cap] 36)).heap := by rw [hX]; rfl
  have hbX : Below w.heap.size w X := by rw [hX]; exact Below.drewN HB0.out nq
  have hJX : JAt X g ch J bs ma mc pv bv := HJ0.out.keep (fun b _ => by rw [hXh]) (by rw [hXh]; exact Nat.le_refl _)
  refine (HT.out X hbX hJX).mono ?_
  rintro e w1 ⟨J', bs', ma', mc', pv', bv', rfl, hja, hR, hbs, hkp⟩
  have k1 := (jat_cells hja.at_).2.1
  have z1 := jat_frozen hja.at_ 1
  have HEND := Lib.hid (And.intro hja (And.intro hR (And.intro hbs (And.intro hkp (And.intro hbX hbX.size)))))
  clear hja hR hbs hkp hbX hJX hXh hX j0
  obtain ⟨p, hp⟩ : ∃ p, p = decide (st = 3) := ⟨_, rfl⟩
  have hst : (((st : Nat) : Int) == 3) = p := by
    rw [hp]
    by_cases h : st = 3
    · subst h; rfl
    · rw [decide_eq_false h, beq_eq_false_iff_ne]; omega
  have HP := Lib.hid hp
  clear hp
  go_wp2_with fail
  go_ret2
  obtain ⟨hja, hR, hbs, hkp, hbX, hsz⟩ := HEND.out
  refine ⟨J', bs', ma', mc', pv', bv', by rw [← HP.out]; first | rfl | (simp [*]; done), hja.set (jat_st hja.at_ st) (fun b hb => Below.heap_setCell _ _ _ _ hb) (by simp [World.setCell]) hja.args rfl rfl, hR, fun b hb => ?_, ?_⟩
  · rcases hbs b hb with h | h
    · exact .inl h
    · exact .inr (by omega)
  · have h1 : Kept bs w w1 := (Kept.of_below hbX).trans hkp (fun x hx => .inl hx)
    exact h1.set HJ.out.mem 1 _

set_option maxRecDepth 100000 in
set_option maxHeartbeats 8000000 in
/-- what is not next is told, and all is forgotten. -/
theorem add_err {w : World} {g : Nat} {ch : Int} {J : JS} {bs : List Nat} {ma : Option Addr} {mc : Nat} {pv bv : Value} (hj : JAt w g ch J bs ma mc pv bv) (k : Int) (hk : ¬ k = 8) (a : Option Addr) (n cap : Nat) (hst : ((J.st = 0 ∨ J.st = 3) ∧ ¬ k = 1) ∨ (J.st = 1 ∧ ¬ k = 2) ∨ (J.st = 2 ∧ ¬ k = 3)) :
    Calls Try.prog 13 #[.pointer (some ⟨g, 0, none⟩), .agg #[.int .i64 k, .int .i64 ch, .slice a n cap]] w fun e w' =>
      e = .returned (.tuple #[.bool false, .int .i64 501]) ∧ JAt w' g ch JS.none bs none 0 (.slice none 0 0) (.slice none 0 0) ∧ Kept bs w w' := by
  have hgl : g < w.heap.size := hj.lt
  have hb0 : Below w.heap.size w (w.alloc (.cells #[.int .i64 k, .int .i64 ch, .slice a n cap] 36)) := (Below.refl _ _).alloc (Nat.le_refl _) _
  have hj0 := hj.below hb0
  obtain ⟨j0, j1, j2, j3, j4, j5, j6, j7, j8, j9, j10, j11, j12, j13, j14, j15, j16⟩ := jat_cells hj0.at_
  have HB0 := Lib.hid hb0
  have HJ0 := Lib.hid hj0
  have HJ := Lib.hid hj
  have HS := Lib.hid hst
  have hkb : (k == 8) = false := by simpa using hk
  clear j1 j2 j3 j4 j5 j6 j7 j8 j9 j10 j11 j12 j13 j14 j15 j16 hj0 hb0 hj hst hk
  go_enter Try.func13, Try.ntmps13
  go_wp2_with fail
  go_quiet (fail)
  go_wp2_with fail
  obtain ⟨X, hX⟩ : ∃ X, X = (w.alloc (.cells #[.int .i64 k, .int .i64 ch, .slice a n cap] 36)).drewN nq := ⟨_, rfl⟩
  rw [← hX]
  have hXh : X.heap = (w.alloc (.cells #[.int .i64 k, .int .i64 ch, .slice a n cap] 36)).heap := by rw [hX]; rfl
  have hbX : Below w.heap.size w X := by rw [hX]; exact Below.drewN HB0.out nq
  have hJX : JAt X g ch J bs ma mc pv bv := HJ0.out.keep (fun b _ => by rw [hXh]) (by rw [hXh]; exact Nat.le_refl _)
  refine (take_not hJX.at_ k ch a n cap HS.out).mono ?_
  rintro e w1 ⟨rfl, hb1⟩
  have hja := hJX.below hb1
  have HB1 := Lib.hid (hbX.trans (hb1.mono hbX.size))
  have HJ1 := Lib.hid hja
  clear hbX hJX hXh hX j0 hb1
  obtain ⟨j0, j1, j2, j3, j4, j5, j6, j7, j8, j9, j10, j11, j12, j13, j14, j15, j16⟩ := jat_cells hja.at_
  have fz := jat_frozen hja.at_
  have f0 := fz 0
  have f1 := fz 1
  have f2 := fz 2
  have f3 := fz 3
  have f4 := fz 4
  have f5 := fz 5
  have f6 := fz 6
  have f7 := fz 7
  have f8 := fz 8
  have f9 := fz 9
  have f10 := fz 10
  have f11 := fz 11
  have f12 := fz 12
  have f13 := fz 13
  have f14 := fz 14
  have f15 := fz 15
  have f16 := fz 16
  clear fz hja
  go_wp2_with fail
  have h17 := set17 HJ1.out.at_ (.int .i64 ch) (.int .i64 0) (.int .i64 0) (.string ⟨#[]⟩) (.string ⟨#[]⟩) (.string ⟨#[]⟩) (.string ⟨#[]⟩) (.string ⟨#[]⟩) (.int .i64 0) (.int .i64 0) (.int .u64 0) (.bool false) (.bool false) (.slice none 0 0) (.slice none 0 0) (.slice none 0 0) (.int .i64 0)
  generalize World.setCell (World.setCell _ _ _) ⟨g, 16, none⟩ (.int .i64 0) = w3 at h17 ⊢
  go_ret2
  refine ⟨rfl, ⟨h17.1, HJ.out.mem, fun b hb => ?_, rfl, by decide, Buf.nil _ _, Buf.nil _ _, (fun k e => by cases e), (fun k e => by cases e)⟩, (Kept.of_below HB1.out).trans h17.2 (by simp [HJ.out.mem])⟩
  have h1 := HJ.out.bnd b hb
  have h2 := HB1.out.size
  have h3 := h17.2.size
  omega

end Go.Proofs.Ytjnnpgmgjdhfjaa

namespace Go.Proofs.Ytjnnpgmgjdhfjaa
open Go.RowKit
set_option linter.unusedVariables false
variable {B : Nat}

theorem Kept.wider {bs cs : List Nat} {w w' : World} (h : Kept bs w w') (hs : ∀ b ∈ bs, b ∈ cs) : Kept cs w w' := ⟨h.os, h.tape, h.output, h.size, fun k hk hn => h.block k hk (fun hb => hn (hs k hb))⟩

/-- what an Add leaves. -/
structure Added (w : World) (g : Nat) (ch : Int) (bs : List Nat) (J' : JS) (w' : World) (bs' : List Nat) (ma' : Option Addr) (mc' : Nat) (pv' bv' : Value) : Prop where
  at_ : JAt w' g ch J' bs' ma' mc' pv' bv'
  new : ∀ b ∈ bs', b ∈ bs ∨ w.heap.size ≤ b
  kept : Kept bs w w'

/-- Add of a call. -/
theorem add_call {w : World} {g : Nat} {ch : Int} {J : JS} {bs : List Nat} {ma : Option Addr} {mc : Nat} {pv bv : Value} (hj : JAt w g ch J bs ma mc pv bv) (hst : J.st = 0 ∨ J.st = 3) (a : Option Addr) (n cap : Nat) (m : Me) (hg : Good m) (hh : Has m.id) (hargs : m.args = [])
    (hn : n = (putM m).length) (hlc : n ≤ cap) (hcm : cap ≤ maxLen) (hB : B ≤ w.heap.size) (hat : BytesAt B w a (putM m)) :
    Calls Try.prog 13 #[.pointer (some ⟨g, 0, none⟩), .agg #[.int .i64 1, .int .i64 ch, .slice a n cap]] w fun e w' => ∃ bs' ma' mc' pv' bv', e = .returned (.tuple #[.bool false, .int .i64 0]) ∧ Added w g ch bs ⟨1, m, [], [], 0⟩ w' bs' ma' mc' pv' bv' := by
  subst hn
  refine (add_ok hj 1 (by decide) a _ cap 1 (fun J' => J' = ⟨0, m, [], [], 0⟩) (fun W hb hJ => ?_)).mono ?_
  · refine (take_call (B := B) hJ.at_ hst ch (.slice a (putM m).length cap) m hg hh hargs (Nat.le_trans hB hb.size) ⟨a, cap, rfl, hlc, hcm, hat.below hb⟩).mono ?_
    rintro e w' ⟨ma', mc', rfl, h1, h2, h3⟩
    refine ⟨⟨0, m, [], [], 0⟩, bs, ma', mc', .slice none 0 0, .slice none 0 0, rfl, ⟨h1, hJ.mem, fun b hb => Nat.lt_of_lt_of_le (hJ.bnd b hb) h3.size, hargs, h2, Buf.nil _ _, Buf.nil _ _, (fun k e => by cases e), (fun k e => by cases e)⟩, rfl, fun b hb => .inl hb, h3.wider (by simp [hJ.mem])⟩
  · rintro e w' ⟨J', bs', ma', mc', pv', bv', rfl, h1, rfl, h2, h3⟩
    exact ⟨bs', ma', mc', pv', bv', rfl, h1, h2, h3⟩

/-- Add of a header. -/
theorem add_head {w : World} {g : Nat} {ch : Int} {J : JS} {bs : List Nat} {ma : Option Addr} {mc : Nat} {pv bv : Value} (hj : JAt w g ch J bs ma mc pv bv) (hst : J.st = 1) (a : Option Addr) (n cap : Nat) (k : Nat) (hk : k ≤ 65536) (l : List It) (hm : MayT 1 l) (hfit : Fits l) (h3 : (putT l).length ≤ 3000)
    (hn : n = (be 8 k ++ putT l).length) (hlc : n ≤ cap) (hcm : cap ≤ maxLen) (hB : B ≤ w.heap.size) (hat : BytesAt B w a (be 8 k ++ putT l)) :
    Calls Try.prog 13 #[.pointer (some ⟨g, 0, none⟩), .agg #[.int .i64 2, .int .i64 ch, .slice a n cap]] w fun e w' => ∃ bs' ma' mc' pv' bv', e = .returned (.tuple #[.bool (decide (k = 0)), .int .i64 0]) ∧
      Added w g ch bs { J with st := (if k = 0 then 3 else 2), props := putT l, left := k } w' bs' ma' mc' pv' bv' := by
  subst hn
  refine (add_ok hj 2 (by decide) a _ cap (if k = 0 then 3 else 2) (fun J' => J' = { J with props := putT l, left := k }) (fun W hb hJ => ?_)).mono ?_
  · refine (take_head (B := B) hJ.at_ hst ch (.slice a (be 8 k ++ putT l).length cap) k hk l hm hfit h3 (Nat.le_trans hB hb.size) ⟨a, cap, rfl, hlc, hcm, hat.below hb⟩).mono ?_
    rintro e w' ⟨pv', rfl, h1, h2, h4⟩
    have hpo : ∀ x, pv'.ownBlock = some x → W.heap.size ≤ x ∧ x < w'.heap.size := fun x e => World.ownsRow.lt h2 x e
    have hgW := hJ.lt
    have hbst : ∀ x, bv.ownBlock = some x → w'.heap[x]? = W.heap[x]? := fun x e => h4.block x (hJ.bnd x (hJ.bown x e).1) (by simpa using (hJ.bown x e).2.1)
    refine ⟨{ J with props := putT l, left := k }, pv'.ownBlock.toList ++ bs, ma, mc, pv', bv, by by_cases h : k = 0 <;> simp [h], ⟨h1, by simp [hJ.mem], fun b hb => ?_, hJ.args, hJ.cap, h2.mono (Nat.zero_le _), hJ.bbuf.stay hbst, fun x e => ⟨by simp [e], ?_⟩, fun x e => ⟨?_, (hJ.bown x e).2.1, fun e2 => ?_⟩⟩, rfl, fun b hb => ?_, h4.wider (by simp [hJ.mem])⟩
    · rcases List.mem_append.1 hb with hb | hb
      · exact (hpo b (by simpa using hb)).2
      · exact Nat.lt_of_lt_of_le (hJ.bnd b hb) h4.size
    · have := (hpo x e).1; omega
    · simp [(hJ.bown x e).1]
    · have := (hpo x e2).1
      have := hJ.bnd x (hJ.bown x e).1
      omega
    · rcases List.mem_append.1 hb with hb | hb
      · exact .inr (hpo b (by simpa using hb)).1
      · exact .inl hb
  · rintro e w' ⟨J', bs', ma', mc', pv', bv', rfl, h1, rfl, h2, h3⟩
    refine ⟨bs', ma', mc', pv', bv', ?_, h1, h2, h3⟩
    by_cases h : k = 0 <;> simp [h]

/-- Add of a piece of a body. -/
theorem add_body {w : World} {g : Nat} {ch : Int} {J : JS} {bs : List Nat} {ma : Option Addr} {mc : Nat} {pv bv : Value} (hj : JAt w g ch J bs ma mc pv bv) (hst : J.st = 2) (a : Option Addr) (n cap : Nat) (d : List UInt8) (hn : n = d.length) (hlc : n ≤ cap) (hcm : cap ≤ maxLen) (hd0 : 0 < d.length) (hdl : d.length ≤ J.left) (hl6 : J.left ≤ 65536) (hbl : J.body.length ≤ 65536)
    (hB : B ≤ w.heap.size) (hbs : ∀ b ∈ bs, B ≤ b) (hat : BytesAt B w a d) :
    Calls Try.prog 13 #[.pointer (some ⟨g, 0, none⟩), .agg #[.int .i64 3, .int .i64 ch, .slice a n cap]] w fun e w' => ∃ bs' ma' mc' pv' bv', e = .returned (.tuple #[.bool (decide (J.left = d.length)), .int .i64 0]) ∧
      Added w g ch bs { J with st := (if J.left = d.length then 3 else 2), body := J.body ++ d, left := J.left - d.length } w' bs' ma' mc' pv' bv' := by
  subst hn
  refine (add_ok hj 3 (by decide) a _ cap (if J.left = d.length then 3 else 2) (fun J' => J' = { J with body := J.body ++ d, left := J.left - d.length }) (fun W hb hJ => ?_)).mono ?_
  · refine (take_body (B := B) hJ hst ch a cap d hlc hcm hd0 hdl hl6 hbl (Nat.le_trans hB hb.size) hbs (hat.below hb)).mono ?_
    rintro e w' ⟨bv', bs', rfl, h1, h2, h3⟩
    exact ⟨_, bs', ma, mc, pv, bv', by by_cases h : J.left = d.length <;> simp [h], h1, rfl, h2, h3⟩
  · rintro e w' ⟨J', bs', ma', mc', pv', bv', rfl, h1, rfl, h2, h3⟩
    refine ⟨bs', ma', mc', pv', bv', ?_, h1, h2, h3⟩
    by_cases h : J.left = d.length <;> simp [h]

end Go.Proofs.Ytjnnpgmgjdhfjaa
