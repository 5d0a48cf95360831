/-
  Law BatchNext, plain: what a transaction of n messages is, and what a shard makes of it.
  Law BatchNext, walked.
-/
import Derived.Test.YthohjcfpobeplaaBtBase
import Derived.Test.YthohjcfpobeplaaShNext
import Derived.Test.YthohjcfpobeplaaShStep
import Derived.Test.YthohjcfpobeplaaBtTold
import Derived.Deep.LoopGhost

namespace Go.Proofs.Ythohjcfpobeplaa.Bt
open Sh
set_option linter.unusedVariables false

def nxM (f : Nat) (nm : List UInt8) (j : Nat) : Mg := ⟨3, (f : Int) + (j : Int), nm, [98], false⟩
def nxL (f : Nat) (nm : List UInt8) (i : Nat) : List Mg := (List.range i).map (nxM f nm)
def nxT (f : Nat) (nm : List UInt8) (i : Nat) : Tx := if i = 0 then tx0 3 else ⟨3, 2, nm, nxL f nm i, []⟩
theorem nxL_len (f : Nat) (nm : List UInt8) (i : Nat) : (nxL f nm i).length = i := by simp [nxL]
theorem nxL_succ (f : Nat) (nm : List UInt8) (i : Nat) : nxL f nm (i + 1) = nxL f nm i ++ [nxM f nm i] := by
  unfold nxL; rw [List.range_succ, List.map_append]; rfl
theorem nxT_put (f : Nat) (nm : List UInt8) (i : Nat) : (nxT f nm i).put = nxL f nm i := by
  unfold nxT
  split
  · rename_i h; subst h; rfl
  · rfl
theorem nxT_tags (f : Nat) (nm : List UInt8) (i : Nat) : (nxT f nm i).tags = [] := by
  unfold nxT
  split <;> rfl
theorem nxT_pub (f : Nat) (nm : List UInt8) (i : Nat) : (nxT f nm i).pub = 3 := by
  unfold nxT
  split <;> rfl
theorem nxT_len (f : Nat) (nm : List UInt8) (i : Nat) : (nxT f nm i).len = i := by
  unfold Tx.len
  rw [nxT_put, nxT_tags, nxL_len]; rfl
theorem nxT_end (f : Nat) (nm : List UInt8) (i : Nat) (h : 0 < i) : (endT (nxT f nm i)).seq + 1 = (f : Int) + (i : Int) := by
  have h1 : 0 < (nxT f nm i).put.length := by rw [nxT_put, nxL_len]; exact h
  rw [end_get h1]
  simp only [nxT_put, nxL_len]
  unfold nxL nxM
  simp
  omega
theorem nxT_els (f : Nat) (nm : List UInt8) (i : Nat) : ¬ Els (nxT f nm i) 2 nm := by
  rintro ⟨h1, h2⟩
  rw [nxT_len] at h1
  unfold nxT at h2
  rw [if_neg (by omega)] at h2
  rcases h2 with h2 | h2 <;> exact h2 rfl
theorem nx_go (f q i : Nat) (hf : 1 ≤ f ∧ f ≤ 1000) (hi : i < 8) : pubC (nxT f (nameF q) i) 2 (nameF q) ((f : Int) + (i : Int)) [98] = 0 ∧ pubT (nxT f (nameF q) i) 2 (nameF q) ((f : Int) + (i : Int)) [98] = nxT f (nameF q) (i + 1) := by
  have h := pub_good (t := nxT f (nameF q) i) (q := 2) (k := nameF q) (s := (f : Int) + (i : Int)) (b := [98]) (by
    unfold pubC
    have h1 : MayBe 2 (nameF q) ∧ MayMg (pubM (nxT f (nameF q) i) (nameF q) ((f : Int) + (i : Int)) [98]) := by
      refine ⟨⟨by decide, by decide, by unfold nameF; simp, by unfold nameF; simp⟩, ⟨?_, ?_, ?_, ?_, ?_, ?_⟩, ?_⟩
      all_goals unfold pubM
      all_goals simp only [nxT_pub]
      · decide
      · decide
      · omega
      · omega
      · unfold nameF; simp
      · unfold nameF; simp
      · simp
    rw [if_neg (fun h => h h1), if_neg (nxT_els f _ i), if_neg (by rw [nxT_put, nxL_len]; omega), if_neg (fun h => h.2 (nxT_end f _ i (by have := h.1; rw [nxT_put, nxL_len] at this; exact this)).symm)])
  refine ⟨h.1, h.2.trans ?_⟩
  unfold pubM
  simp only [nxT_put, nxT_tags, nxT_pub]
  unfold nxT
  rw [if_neg (Nat.succ_ne_zero i), nxL_succ]
  rfl
theorem nx_more (f q k : Nat) (hf : 1 ≤ f ∧ f ≤ 1000) (hk : 1 ≤ k ∧ k ≤ 8) : pubC (nxT f (nameF q) k) 2 (nameF q) ((f : Int) + (k : Int) + 1) [98] = (if k = 8 then 4 else 1) ∧ pubT (nxT f (nameF q) k) 2 (nameF q) ((f : Int) + (k : Int) + 1) [98] = nxT f (nameF q) k := by
  have h1 : MayBe 2 (nameF q) ∧ MayMg (pubM (nxT f (nameF q) k) (nameF q) ((f : Int) + (k : Int) + 1) [98]) := by
    refine ⟨⟨by decide, by decide, by unfold nameF; simp, by unfold nameF; simp⟩, ⟨?_, ?_, ?_, ?_, ?_, ?_⟩, ?_⟩
    all_goals unfold pubM
    all_goals simp only [nxT_pub]
    · decide
    · decide
    · omega
    · omega
    · unfold nameF; simp
    · unfold nameF; simp
    · simp
  have h2 : pubC (nxT f (nameF q) k) 2 (nameF q) ((f : Int) + (k : Int) + 1) [98] = (if k = 8 then 4 else 1) := by
    unfold pubC
    rw [if_neg (fun h => h h1), if_neg (nxT_els f _ k)]
    by_cases h8 : k = 8
    · rw [if_pos (by rw [nxT_put, nxL_len]; exact h8), if_pos h8]
    · rw [if_neg (by rw [nxT_put, nxL_len]; exact h8), if_neg h8, if_pos ⟨by rw [nxT_put, nxL_len]; omega, fun h => by rw [nxT_end f _ k (by omega)] at h; omega⟩]
  exact ⟨h2, (pub_bad h2 (by split <;> decide)).2⟩
theorem nx_other (f q k : Nat) (hf : 1 ≤ f ∧ f ≤ 1000) (hk : 1 ≤ k ∧ k ≤ 8) : pubC (nxT f (nameF q) k) 1 (nameF q) ((f : Int) + (k : Int)) [98] = 540 ∧ pubT (nxT f (nameF q) k) 1 (nameF q) ((f : Int) + (k : Int)) [98] = nxT f (nameF q) k := by
  have h1 : MayBe 1 (nameF q) ∧ MayMg (pubM (nxT f (nameF q) k) (nameF q) ((f : Int) + (k : Int)) [98]) := by
    refine ⟨⟨by decide, by decide, by unfold nameF; simp, by unfold nameF; simp⟩, ⟨?_, ?_, ?_, ?_, ?_, ?_⟩, ?_⟩
    all_goals unfold pubM
    all_goals simp only [nxT_pub]
    · decide
    · decide
    · omega
    · omega
    · unfold nameF; simp
    · unfold nameF; simp
    · simp
  refine pub_bad ?_ (by decide)
  unfold pubC
  rw [if_neg (fun h => h h1), if_pos ⟨by rw [nxT_len]; omega, .inl (by unfold nxT; rw [if_neg (by omega)]; show ¬ (2 : Int) = 1; decide)⟩]
theorem nx_take (f q k : Nat) (hk : 1 ≤ k) : takeQ (nxT f (nameF q) k) = 2 := by
  unfold takeQ
  rw [if_neg (by rw [nxT_len]; omega)]
  unfold nxT
  rw [if_neg (by omega)]
theorem nx_may (f q k : Nat) (hf : 1 ≤ f ∧ f ≤ 1000) (hk : 1 ≤ k ∧ k ≤ 8) : MayB (nxL f (nameF q) k) := by
  refine ⟨by rw [nxL_len]; exact hk.1, by rw [nxL_len]; exact hk.2, fun i hi => ?_⟩
  rw [nxL_len] at hi
  have e : (nxL f (nameF q) k).headD mg0 = nxM f (nameF q) 0 := by
    unfold nxL
    obtain ⟨n, rfl⟩ : ∃ n, k = n + 1 := ⟨k - 1, by omega⟩
    rw [List.range_succ_eq_map]
    rfl
  have e2 : (nxL f (nameF q) k)[i]'(by rw [nxL_len]; exact hi) = nxM f (nameF q) i := by unfold nxL; simp
  rw [e, e2]
  refine ⟨⟨⟨show (0 : Int) ≤ 3 by decide, show (3 : Int) < 4 by decide, ?_, ?_, ?_, ?_⟩, by simp [nxM]⟩, rfl, rfl, rfl, ?_⟩
  all_goals unfold nxM
  all_goals simp only
  · omega
  · omega
  · unfold nameF; simp
  · unfold nameF; simp
  · omega
theorem nx_do (f q k : Nat) (hf : 1 ≤ f ∧ f ≤ 1000) (hk : 1 ≤ k ∧ k ≤ 8) : doC sd1 (nxL f (nameF q) k) [] = 0 ∧ (doS sd1 (nxL f (nameF q) k) []).rd.length = k ∧ lastF (doS sd1 (nxL f (nameF q) k) []).ms 3 (nameF q) = (f : Int) + (k : Int) - 1 := by
  have h0 : nxL f (nameF q) k ≠ [] := fun h => by have := nxL_len f (nameF q) k; rw [h] at this; simp at this; omega
  have hm1 : MaySd sd1 := by decide
  have hb := nx_may f q k hf hk
  have e : firstB (nxL f (nameF q) k) = nxM f (nameF q) 0 := by
    unfold firstB nxL
    obtain ⟨n, rfl⟩ : ∃ n, k = n + 1 := ⟨k - 1, by omega⟩
    rw [List.range_succ_eq_map]
    rfl
  have e2 : endB (nxL f (nameF q) k) = nxM f (nameF q) (k - 1) := by
    unfold endB
    obtain ⟨n, rfl⟩ : ∃ n, k = n + 1 := ⟨k - 1, by omega⟩
    rw [nxL_succ]
    simp
  have hful : ¬ (48 < sd1.rd.length + sd1.hd.length + (nxL f (nameF q) k).length ∨ (sd1.ms.length = 64 ∧ fnd sd1.ms (nxM f (nameF q) 0).pub (nxM f (nameF q) 0).key = none)) := by
    rw [nxL_len]
    rintro (h | h)
    · have : sd1.rd.length + sd1.hd.length = 0 := rfl
      omega
    · exact absurd h.1 (by decide)
  have hp : putC sd1 (nxL f (nameF q) k) = 0 := by
    unfold putC
    rw [if_neg (fun h => h ⟨hm1, hb⟩), e, e2]
    rw [if_neg (by show ¬ (nxM f (nameF q) (k - 1)).seq ≤ 0; unfold nxM; simp only; omega), if_neg (by show ¬ (nxM f (nameF q) 0).seq ≤ 0; unfold nxM; simp only; omega), if_neg (by decide), if_neg hful]
  have hs : doS sd1 (nxL f (nameF q) k) [] = putS sd1 (nxL f (nameF q) k) := by
    unfold doS
    rw [if_neg (fun h => h0 h.1)]
    show (if ¬ (0 : Int) = 0 then sd1 else if nxL f (nameF q) k = [] then sd1 else if putC sd1 (nxL f (nameF q) k) = 0 ∨ putC sd1 (nxL f (nameF q) k) = 8 then putS sd1 (nxL f (nameF q) k) else sd1) = _
    rw [if_neg (by decide), if_neg h0, if_pos (.inl hp)]
  have hc : doC sd1 (nxL f (nameF q) k) [] = 0 := by
    unfold doC
    rw [if_neg (fun h => h0 h.1)]
    show (if ¬ (0 : Int) = 0 then (0 : Int) else if nxL f (nameF q) k = [] then 0 else putC sd1 (nxL f (nameF q) k)) = _
    rw [if_neg (by decide), if_neg h0, hp]
  refine ⟨hc, ?_, ?_⟩
  · rw [hs]
    unfold putS
    rw [if_pos hp]
    show ([] ++ nxL f (nameF q) k).length = k
    rw [List.nil_append, nxL_len]
  · rw [hs]
    unfold putS
    rw [if_pos hp]
    simp only
    rw [last_mark, e, e2]
    rw [if_pos ⟨rfl, rfl⟩]
    unfold nxM
    simp only
    omega

end Go.Proofs.Ythohjcfpobeplaa.Bt

namespace Go.Proofs.Ythohjcfpobeplaa.Bt
open Go.RowKit Rg Sh Go.Sort
set_option linter.unusedVariables false
set_option linter.unusedSimpArgs false

def nextBRel (W : World) (g f k : Nat) (nm : List UInt8) (m : Nat) (v11 : Value) (wr : World) : Prop :=
  ∃ i : Nat, i ≤ k ∧ m = k - i ∧ v11 = .int .i64 i ∧ TxB wr W.heap.size g (nxT f nm i) ∧ Below W.heap.size W wr
set_option maxRecDepth 100000 in
set_option maxHeartbeats 8000000 in
theorem next_law (p0 p1 p2 : Int) (w : World) :
    Calls Try.prog 13 #[.int .i64 p0, .int .i64 p1, .int .i64 p2] w fun e w' => e = .returned (.bool true) ∧ Below w.heap.size w w' := by
  have HT := Lib.hid told_any
  obtain ⟨ha1, ha2⟩ := u64_mod p0 8 (by decide)
  obtain ⟨hb1, hb2⟩ := u64_mod p1 1000 (by decide)
  obtain ⟨hc1, hc2⟩ := u64_mod p2 6 (by decide)
  rw [show ((8 : Nat) : Int) = 8 from rfl] at ha1
  rw [show ((1000 : Nat) : Int) = 1000 from rfl] at hb1
  rw [show ((6 : Nat) : Int) = 6 from rfl] at hc1
  generalize u64m p0 8 = a at *
  generalize u64m p1 1000 = b at *
  generalize u64m p2 6 = c at *
  obtain ⟨k, hk⟩ : ∃ k, k = a + 1 := ⟨_, rfl⟩
  obtain ⟨f, hf⟩ : ∃ f, f = b + 1 := ⟨_, rfl⟩
  have wa : IntKind.i64.wrap (a : Int) = (a : Int) := IntWalk.i64_in _ (by omega)
  have wb : IntKind.i64.wrap (b : Int) = (b : Int) := IntWalk.i64_in _ (by omega)
  have wc : IntKind.i64.wrap (c : Int) = (c : Int) := IntWalk.i64_in _ (by omega)
  have wk : IntKind.i64.wrap (1 + (a : Int)) = (k : Int) := by rw [IntWalk.i64_in _ (by omega)]; omega
  have wf : IntKind.i64.wrap (1 + (b : Int)) = (f : Int) := by rw [IntWalk.i64_in _ (by omega)]; omega
  have HKF : Hid ((1 ≤ f ∧ f ≤ 1000) ∧ (1 ≤ k ∧ k ≤ 8)) := Lib.hid (by omega)
  have HNM := Lib.hid fun wx => name_any c (by omega) wx
  clear hk hf
  go_enter Try.func13, Try.ntmps13
  have hh := newsB 3 (by decide) w
  go_wp2_with (first | (go_at_call 46; refine hh.mono ?_; clear hh; rintro e w1 ⟨rfl, ht1, hb1⟩; have HT1 := Lib.hid ht1; have HB1 := Lib.hid hb1; clear ht1 hb1) | (go_at_call 42; refine (HNM.out _).mono ?_; rintro e w2 ⟨rfl, rfl⟩))
  clear wa wb wc wk wf ha1 hb1 hc1
  go_loopg [11] k (nextBRel w w.heap.size f k (nameF c))
  case atStart => exact ⟨0, Nat.zero_le _, rfl, rfl, HT1.out, HB1.out⟩
  case round =>
    obtain ⟨i, hi, rfl, rfl, ht, hb⟩ := hrel
    have HTx := Lib.hid ht
    have HB := Lib.hid hb
    clear ht hb HT1 HB1
    by_cases hlt : i < k
    · have hlti : (i : Int) < (k : Int) := by omega
      have q1 : IntKind.i64.wrap ((f : Int) + (i : Int)) = (f : Int) + (i : Int) := IntWalk.i64_in _ (by have := HKF.out; omega)
      have q2 : IntKind.i64.wrap ((i : Int) + 1) = (i : Int) + 1 := IntWalk.i64_in _ (by have := HKF.out; omega)
      obtain ⟨e1, e2⟩ := nx_go f c i HKF.out.1 (by have := HKF.out; omega)
      have hp := pubB _ _ (nxT f (nameF c) i) 2 ((f : Int) + (i : Int)) (nameF c) [98] wr HTx.out HB.out.size
      rw [e1, e2] at hp
      have q3 : (((i + 1 : Nat) : Int) != (i : Int) + 1) = false := by simp
      have q4 : (((i + 1 : Nat) : Int) == (i : Int) + 1) = true := by simp
      clear e1 e2
      go_wp2_with (first | (go_at_call 48; refine hp.mono ?_; clear hp; rintro e w3 ⟨rfl, ht3, hb3⟩; have HL := Lib.hid (lenB _ _ _ w3 ht3); have HT3 := Lib.hid ht3; have HB3 := Lib.hid (HB.out.trans hb3); clear ht3 hb3) | (go_at_call 54; refine HL.out.mono ?_; rintro e w4 ⟨rfl, n4, rfl⟩; rw [nxT_len]))
      go_roundg (k - (i + 1))
      case measure => omega
      case rel => exact ⟨i + 1, by omega, rfl, by simp, HT3.out.below (Rg.Below.drewN (Below.refl _ _) _), Rg.Below.drewN HB3.out _⟩
    · obtain rfl : i = k := by omega
      have hlti : ¬ (i : Int) < (i : Int) := by omega
      have q1 : IntKind.i64.wrap ((f : Int) + (i : Int)) = (f : Int) + (i : Int) := IntWalk.i64_in _ (by have := HKF.out; omega)
      have q2 : IntKind.i64.wrap ((f : Int) + (i : Int) + 1) = (f : Int) + (i : Int) + 1 := IntWalk.i64_in _ (by have := HKF.out; omega)
      obtain ⟨e1, e2⟩ := nx_more f c i HKF.out.1 HKF.out.2
      by_cases hk8 : i = 8
      case pos =>
        have q8 : ((i : Int) == 8) = true := by rw [beq_iff_eq]; omega
        have e1' : pubC (nxT f (nameF c) i) 2 (nameF c) ((f : Int) + (i : Int) + 1) [98] = 4 := by rw [e1, if_pos hk8]
        have hp := pubB _ _ (nxT f (nameF c) i) 2 ((f : Int) + (i : Int) + 1) (nameF c) [98] wr HTx.out HB.out.size
        rw [e1', e2] at hp
        clear e1 e1' e2 hk8
        go_upto_region 12 with (first | (go_at_call 48; (with_reducible refine hp.mono ?_); clear hp; rintro e w3 ⟨rfl, ht3, hb3⟩; have HB3 := Lib.hid (HB.out.trans hb3); have hp2 := pubB _ _ (nxT f (nameF c) i) 1 ((f : Int) + (i : Int)) (nameF c) [98] w3 ht3 HB3.out.size; rw [nx_other f c i HKF.out.1 HKF.out.2 |>.1, nx_other f c i HKF.out.1 HKF.out.2 |>.2] at hp2; have HP2 := Lib.hid hp2; clear ht3 hb3 hp2) | (go_at_call 48; (with_reducible refine HP2.out.mono ?_); rintro e w4 ⟨rfl, ht4, hb4⟩; have HT4 := Lib.hid ht4; have HB4 := Lib.hid (HB3.out.trans hb4); clear ht4 hb4) | fail)
        have hk := takeB _ _ _ w4 HT4.out HB4.out.size
        unfold TakeB at hk
        rw [nx_take f c i HKF.out.2.1, nxT_put, nxT_tags, nxL_len] at hk
        clear HP2 HB3 HTx
        go_upto_region 13 with (go_at_call 52; refine hk.mono ?_; clear hk; rintro e w5 ⟨pa, pc, ta, tc, rfl, hm5, hn5, hi5, hj5, -, hb5⟩; have HM5 := Lib.hid (And.intro hm5 (And.intro hn5 (And.intro hi5 hj5))); have HB5 := Lib.hid (HB4.out.trans hb5); clear hm5 hn5 hi5 hj5 hb5)
        have hd := nx_do f c i HKF.out.1 HKF.out.2
        have HD := Lib.hid hd
        clear hd HT4 HB4 HB
        go_upto_region 14 with (first | (go_at_call 38; refine (new_any w5).mono ?_; rintro e w6 ⟨rfl, hb6⟩; have hdo := bdo_any sd1 none 0 none 0 none 0 pa pc (nxL f (nameF c) i) (by rw [nxL_len]; have := HKF.out; omega) ta tc [] w6 (sd_nil w6) (HM5.out.1.below hb6) HM5.out.2.1 (HM5.out.2.2.1.below hb6) HM5.out.2.2.2; rw [HD.out.1, nxL_len] at hdo; have HDO := Lib.hid hdo; have HB6 := Lib.hid (HB5.out.trans (hb6.mono HB5.out.size)); clear hdo hb6) | (go_at_call 55; refine HDO.out.mono ?_; rintro e w7 ⟨ra7, rc7, ha7, hc7, ma7, mc7, rfl, hs7, hb7⟩; have HS7 := Lib.hid hs7; have HB7 := Lib.hid (HB6.out.trans (hb7.mono HB6.out.size)); clear hs7 hb7))
        obtain ⟨S, hS⟩ : ∃ S, S = doS sd1 (nxL f (nameF c) i) [] := ⟨_, rfl⟩
        rw [← hS] at HS7 HD ⊢
        have HX := Lib.hid (show Bx (w7.alloc (.cells #[.bool S.fr, .int .i64 S.nx, .slice ra7 S.rd.length rc7, .slice ha7 S.hd.length hc7, .slice ma7 S.ms.length mc7] 26)) w7.heap.size ra7 rc7 ha7 hc7 ma7 mc7 S from ⟨heap_alloc_new _ _, sd_al _ _ _ _ _ _ HS7.out _⟩)
        have HB8 := Lib.hid (low_al HB7.out (Nat.le_refl _) (.cells #[.bool S.fr, .int .i64 S.nx, .slice ra7 S.rd.length rc7, .slice ha7 S.hd.length hc7, .slice ma7 S.ms.length mc7] 26))
        clear HDO HB5 HB6 HB7 HM5 hS HS7
        generalize w7.alloc (.cells #[.bool S.fr, .int .i64 S.nx, .slice ra7 S.rd.length rc7, .slice ha7 S.hd.length hc7, .slice ma7 S.ms.length mc7] 26) = W8 at *
        generalize w7.heap.size = g8 at *
        have v1 : IntKind.i64.wrap ((f : Int) + (i : Int) - 1) = (f : Int) + (i : Int) - 1 := IntWalk.i64_in _ (by have := HKF.out; omega)
        have v2 : ((f : Int) + (i : Int) - 1 == (f : Int) + (i : Int) - 1) = true := by simp
        have v3 : ((i : Int) == (i : Int)) = true := by simp
        go_wp2_with (first | (go_at_call 47; refine (HT.out W8).mono ?_; rintro e w9 ⟨rfl, hb9⟩; have hx9 := HX.out.below _ _ _ _ _ _ hb9; obtain ⟨⟨x0, x1, x2, x3, x4⟩, -⟩ := box5 hx9.bx; rw [HD.out.2.1] at x2; have hl := last_any S ra7 rc7 ha7 hc7 ma7 mc7 3 (nameF c) w9 hx9.sd; rw [HD.out.2.2, HD.out.2.1] at hl; have HL := Lib.hid hl; have HB9 := Lib.hid (HB8.out.trans (hb9.mono HB8.out.size)); clear hb9 hx9 hl) | (go_at_call 56; refine HL.out.mono ?_; rintro e w10 ⟨rfl, hg⟩; have HB10 := Lib.hid (HB9.out.trans (hg.below.mono HB9.out.size)); clear hg))
        go_ret
        exact ⟨rfl, HB10.out⟩
      case neg =>
        have q8 : ((i : Int) == 8) = false := by rw [beq_eq_false_iff_ne]; omega
        have e1' : pubC (nxT f (nameF c) i) 2 (nameF c) ((f : Int) + (i : Int) + 1) [98] = 1 := by rw [e1, if_neg hk8]
        have hp := pubB _ _ (nxT f (nameF c) i) 2 ((f : Int) + (i : Int) + 1) (nameF c) [98] wr HTx.out HB.out.size
        rw [e1', e2] at hp
        clear e1 e1' e2 hk8
        go_upto_region 12 with (first | (go_at_call 48; (with_reducible refine hp.mono ?_); clear hp; rintro e w3 ⟨rfl, ht3, hb3⟩; have HB3 := Lib.hid (HB.out.trans hb3); have hp2 := pubB _ _ (nxT f (nameF c) i) 1 ((f : Int) + (i : Int)) (nameF c) [98] w3 ht3 HB3.out.size; rw [nx_other f c i HKF.out.1 HKF.out.2 |>.1, nx_other f c i HKF.out.1 HKF.out.2 |>.2] at hp2; have HP2 := Lib.hid hp2; clear ht3 hb3 hp2) | (go_at_call 48; (with_reducible refine HP2.out.mono ?_); rintro e w4 ⟨rfl, ht4, hb4⟩; have HT4 := Lib.hid ht4; have HB4 := Lib.hid (HB3.out.trans hb4); clear ht4 hb4) | fail)
        have hk := takeB _ _ _ w4 HT4.out HB4.out.size
        unfold TakeB at hk
        rw [nx_take f c i HKF.out.2.1, nxT_put, nxT_tags, nxL_len] at hk
        clear HP2 HB3 HTx
        go_upto_region 13 with (go_at_call 52; refine hk.mono ?_; clear hk; rintro e w5 ⟨pa, pc, ta, tc, rfl, hm5, hn5, hi5, hj5, -, hb5⟩; have HM5 := Lib.hid (And.intro hm5 (And.intro hn5 (And.intro hi5 hj5))); have HB5 := Lib.hid (HB4.out.trans hb5); clear hm5 hn5 hi5 hj5 hb5)
        have hd := nx_do f c i HKF.out.1 HKF.out.2
        have HD := Lib.hid hd
        clear hd HT4 HB4 HB
        go_upto_region 14 with (first | (go_at_call 38; refine (new_any w5).mono ?_; rintro e w6 ⟨rfl, hb6⟩; have hdo := bdo_any sd1 none 0 none 0 none 0 pa pc (nxL f (nameF c) i) (by rw [nxL_len]; have := HKF.out; omega) ta tc [] w6 (sd_nil w6) (HM5.out.1.below hb6) HM5.out.2.1 (HM5.out.2.2.1.below hb6) HM5.out.2.2.2; rw [HD.out.1, nxL_len] at hdo; have HDO := Lib.hid hdo; have HB6 := Lib.hid (HB5.out.trans (hb6.mono HB5.out.size)); clear hdo hb6) | (go_at_call 55; refine HDO.out.mono ?_; rintro e w7 ⟨ra7, rc7, ha7, hc7, ma7, mc7, rfl, hs7, hb7⟩; have HS7 := Lib.hid hs7; have HB7 := Lib.hid (HB6.out.trans (hb7.mono HB6.out.size)); clear hs7 hb7))
        obtain ⟨S, hS⟩ : ∃ S, S = doS sd1 (nxL f (nameF c) i) [] := ⟨_, rfl⟩
        rw [← hS] at HS7 HD ⊢
        have HX := Lib.hid (show Bx (w7.alloc (.cells #[.bool S.fr, .int .i64 S.nx, .slice ra7 S.rd.length rc7, .slice ha7 S.hd.length hc7, .slice ma7 S.ms.length mc7] 26)) w7.heap.size ra7 rc7 ha7 hc7 ma7 mc7 S from ⟨heap_alloc_new _ _, sd_al _ _ _ _ _ _ HS7.out _⟩)
        have HB8 := Lib.hid (low_al HB7.out (Nat.le_refl _) (.cells #[.bool S.fr, .int .i64 S.nx, .slice ra7 S.rd.length rc7, .slice ha7 S.hd.length hc7, .slice ma7 S.ms.length mc7] 26))
        clear HDO HB5 HB6 HB7 HM5 hS HS7
        generalize w7.alloc (.cells #[.bool S.fr, .int .i64 S.nx, .slice ra7 S.rd.length rc7, .slice ha7 S.hd.length hc7, .slice ma7 S.ms.length mc7] 26) = W8 at *
        generalize w7.heap.size = g8 at *
        have v1 : IntKind.i64.wrap ((f : Int) + (i : Int) - 1) = (f : Int) + (i : Int) - 1 := IntWalk.i64_in _ (by have := HKF.out; omega)
        have v2 : ((f : Int) + (i : Int) - 1 == (f : Int) + (i : Int) - 1) = true := by simp
        have v3 : ((i : Int) == (i : Int)) = true := by simp
        go_wp2_with (first | (go_at_call 47; refine (HT.out W8).mono ?_; rintro e w9 ⟨rfl, hb9⟩; have hx9 := HX.out.below _ _ _ _ _ _ hb9; obtain ⟨⟨x0, x1, x2, x3, x4⟩, -⟩ := box5 hx9.bx; rw [HD.out.2.1] at x2; have hl := last_any S ra7 rc7 ha7 hc7 ma7 mc7 3 (nameF c) w9 hx9.sd; rw [HD.out.2.2, HD.out.2.1] at hl; have HL := Lib.hid hl; have HB9 := Lib.hid (HB8.out.trans (hb9.mono HB8.out.size)); clear hb9 hx9 hl) | (go_at_call 56; refine HL.out.mono ?_; rintro e w10 ⟨rfl, hg⟩; have HB10 := Lib.hid (HB9.out.trans (hg.below.mono HB9.out.size)); clear hg))
        go_ret
        exact ⟨rfl, HB10.out⟩

end Go.Proofs.Ythohjcfpobeplaa.Bt
