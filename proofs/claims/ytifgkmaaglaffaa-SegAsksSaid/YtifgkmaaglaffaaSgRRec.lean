/-
  The document's own answer: Record, Read, walked.
-/
import Derived.Test.YtifgkmaaglaffaaSgRead
import Derived.Test.YtifgkmaaglaffaaRRd
import Derived.Test.YtifgkmaaglaffaaRBig
import Derived.Test.YtifgkmaaglaffaaTMem
namespace Go.Proofs.Ytifgkmaaglaffaa.Sg
open Go.RowKit
set_option linter.unusedVariables false
variable {B C : Nat}

theorem rmayl_any (l : List UInt8) (hl : l.length ≤ maxLen) (w : World) : Calls Try.prog 12 #[.string ⟨l.toArray⟩] w fun e w' => e = .returned (.bool (decide (MayL l.length))) ∧ w = w' := rmay_any ⟨l.toArray⟩ hl w
theorem rsuml_any (l : List UInt8) (hl : l.length ≤ maxLen) (w : World) : Calls Try.prog 18 #[.string ⟨l.toArray⟩] w fun e w' => e = .returned (.int .u32 (sumF l : Nat)) ∧ w = w' := rsum_any ⟨l.toArray⟩ hl w

set_option maxRecDepth 100000 in
set_option maxHeartbeats 1000000 in
theorem rrec_any (l : List UInt8) (hl : l.length ≤ 1000000) (w : World) :
    Calls Try.prog 13 #[.string ⟨l.toArray⟩] w fun e w' => e = .returned (.string ⟨(recF l).toArray⟩) ∧ Below w.heap.size w w' := by
  have hs : (⟨l.toArray⟩ : ByteArray).size = l.length := rfl
  have hm : l.length ≤ maxLen := by unfold maxLen; omega
  have hw1 : IntKind.u64.wrap (l.length : Int) = (l.length : Int) := by rw [IntKind.wrap_u64]; omega
  have hsf := sumF_lt l
  have HSU := Lib.hid fun wx => rsuml_any l hm wx
  have HRE : Hid (be 2 l.length ++ be 4 (sumF l) ++ l = recF l) := Lib.hid (by unfold recF; simp)
  obtain ⟨s, hs'⟩ : ∃ s, s = sumF l := ⟨_, rfl⟩
  rw [← hs'] at HSU HRE hsf
  have hw2 : IntKind.u64.wrap (s : Int) = (s : Int) := by rw [IntKind.wrap_u64]; omega
  clear hm hs'
  go_enter Try.func13, Try.ntmps13
  go_wp2_with fail
  refine (big2 l.length (by omega) w).mono ?_
  rintro e w1 ⟨rfl, hb1⟩
  have HB1 := Lib.hid hb1
  clear hb1
  go_wp2_with fail
  refine (HSU.out w1).mono ?_
  rintro e wx ⟨rfl, rfl⟩
  go_wp2_with fail
  refine (big4 s (by omega) w1).mono ?_
  rintro e w2 ⟨rfl, hb2⟩
  have HB2 := Lib.hid (HB1.out.trans (hb2.mono HB1.out.size))
  clear hb2
  go_wp2_with fail
  go_ret
  refine ⟨?_, HB2.out⟩
  rw [← HRE.out, ← cat_list, ← cat_list]
  rfl

theorem take_long {n : Nat} {l : List UInt8} (h : n ≤ l.length) : takeP n l = (l.take n, l.drop n, false) := by unfold takeP; rw [if_neg (by omega)]
theorem data_bad {b : List UInt8} (h : (takeP (numP 2 b).1 (numP 4 (numP 2 b).2.1).2.1).2.2 = true) : dataP b = [] := by
  unfold dataP takeP at *
  split at h
  · rename_i hc; rw [if_pos hc]
  · cases h
def RReadR (l : List UInt8) (w : World) (e : Ending) (w' : World) : Prop :=
  ∃ a c, e = .returned (.tuple #[.slice a (rdL l).length c, .int .i64 (rdN l)]) ∧ c ≤ maxLen ∧ Top.StrsAt w' a c (rdL l) ∧ Below w.heap.size w w'
def rrRel (W : World) (l : List UInt8) (m : Nat) (u v : Value) (wr : World) : Prop :=
  ∃ (r : Nat) (got : List (List UInt8)), r ≤ l.length ∧ v = .int .i64 r ∧ m = l.length - r ∧ got ++ rdL (l.drop r) = rdL l ∧ r + rdN (l.drop r) = rdN l ∧ got.length ≤ r ∧ Top.Own wr W.heap.size u got ∧ Below W.heap.size W wr

set_option maxRecDepth 100000 in
set_option maxHeartbeats 1000000 in
theorem rread_any (l : List UInt8) (hl : l.length ≤ 1000000) (w : World) :
    Calls Try.prog 15 #[.string ⟨l.toArray⟩] w (RReadR l w) := by
  have hs : (⟨l.toArray⟩ : ByteArray).size = l.length := rfl
  go_enter Try.func15, Try.ntmps15
  go_wp2_with fail
  go_loopg [4, 5] l.length (rrRel w l)
  case atStart => exact ⟨0, [], Nat.zero_le _, rfl, rfl, by simp, by simp, by simp, Top.Own.nil _ _, Below.refl _ _⟩
  case round =>
    obtain ⟨r, got, hr, rfl, rfl, hgot, hnum, hfew, hown, hb⟩ := hrel
    have HGOT := Lib.hid hgot
    have HNUM := Lib.hid hnum
    have HOWN := Lib.hid hown
    have HB := Lib.hid hb
    clear hgot hnum hown hb
    by_cases h6 : r + 6 ≤ l.length
    · have hi6 : (r : Int) + 6 ≤ (l.length : Int) := by omega
      have hfr := str_from l r (by omega)
      obtain ⟨b, hbb⟩ : ∃ b, b = l.drop r := ⟨_, rfl⟩
      have HBB := Lib.hid hbb
      have hbl : b.length = l.length - r := by rw [hbb, List.length_drop]
      have HBL := Lib.hid hbl
      rw [← hbb] at hfr
      obtain ⟨ua, uc, rfl⟩ := HOWN.out.form
      obtain ⟨g, hg⟩ : ∃ g, g = wr.heap.size := ⟨_, rfl⟩
      have hgW : w.heap.size ≤ g := by rw [hg]; exact HB.out.size
      have hog : ∀ k, (Value.slice ua got.length uc).ownBlock = some k → some g ≠ some k := fun k e e2 => by
        have := Top.Own.lt HOWN.out k e
        injection e2 with e2
        omega
      obtain ⟨w1, hw1⟩ : ∃ w1, w1 = wr.alloc (.cells #[.string ⟨b.toArray⟩, .bool false] 70) := ⟨_, rfl⟩
      have hrb : RB w1 g b false := by rw [hw1, hg]; exact heap_alloc_new _ _
      have hb1 : Below w.heap.size w w1 := HB.out.trans (by rw [hw1]; exact ((Below.refl _ _).alloc (Nat.le_refl _) _).mono HB.out.size)
      have hown1 : Top.Own w1 w.heap.size (.slice ua got.length uc) got := World.ownsRow.below1 HOWN.out (by rw [hw1]; exact (Below.refl _ _).alloc (Nat.le_refl _) _)
      have hbm : b.length ≤ maxLen := by unfold maxLen; omega
      have h2b : takeP 2 b = (b.take 2, b.drop 2, false) := take_long (by omega)
      have h4b : takeP 4 (b.drop 2) = ((b.drop 2).take 4, (b.drop 2).drop 4, false) := take_long (by rw [List.length_drop]; omega)
      have hn1 : (numP 2 b).2 = (b.drop 2, false) := by unfold numP; rw [h2b]
      have hn2 : (numP 4 (b.drop 2)).2 = ((b.drop 2).drop 4, false) := by unfold numP; rw [h4b]
      have hI := rint_any g b 2 (by decide) hbm w1 hrb
      rw [hn1] at hI
      have HI := Lib.hid hI
      obtain ⟨n, hn⟩ : ∃ n, n = (numP 2 b).1 := ⟨_, rfl⟩
      obtain ⟨s, hs'⟩ : ∃ s, s = sumP b := ⟨_, rfl⟩
      have hsP : sumP b = (numP 4 (b.drop 2)).1 := by unfold sumP; rw [hn1]
      have hs4 : s < 4294967296 := by rw [hs', hsP]; exact num_lt 4 _
      have hn6 : n < 65536 := by rw [hn]; exact num_lt 2 b
      have hdP : dataP b = (takeP n ((b.drop 2).drop 4)).1 := by unfold dataP; rw [hn1, ← hn]; simp only []; rw [hn2]
      rw [← hn] at HI
      have HDP := Lib.hid hdP
      have HSP := Lib.hid (hs'.trans hsP)
      have HSS := Lib.hid hs'
      have HNN := Lib.hid hn
      have HN2 := Lib.hid hn2
      have hws : IntKind.u32.wrap (s : Int) = (s : Int) := by rw [IntKind.wrap_u32]; omega
      have HO1 := Lib.hid hown1
      have HB1 := Lib.hid hb1
      have HG := Lib.hid hog
      have HGW := Lib.hid hgW
      have hd2 : (b.drop 2).length ≤ maxLen := by rw [List.length_drop]; omega
      have hd6 : ((b.drop 2).drop 4).length ≤ maxLen := by rw [List.length_drop, List.length_drop]; omega
      have HD2 := Lib.hid hd2
      have HD6 := Lib.hid hd6
      have HW1 := Lib.hid hw1
      have HGE := Lib.hid hg
      clear hbb hbl hgW hog hrb hb1 hown1 hbm h2b h4b hn1 hn2 hI hn hs' hsP hdP hd2 hd6 hw1 hg
      go_wp2_with fail
      rw [← HGE.out, ← HW1.out]
      refine HI.out.mono ?_
      rintro e w2 ⟨rfl, hr2, hg2⟩
      have HO2 := Lib.hid (Top.Own.other HO1.out hg2 HG.out)
      have HB2 := Lib.hid (HB1.out.grown hg2 HB1.out.size (fun k e => by cases e; exact HGW.out))
      have hI2 := rnum_any g (b.drop 2) 4 (by decide) HD2.out w2 hr2
      unfold BigR at hI2
      rw [HN2.out, ← HSP.out] at hI2
      have HI2 := Lib.hid hI2
      clear hr2 hg2 hI2
      go_wp2_with fail
      refine HI2.out.mono ?_
      rintro e w3 ⟨rfl, hr3, hg3⟩
      have HO3 := Lib.hid (Top.Own.other HO2.out hg3 HG.out)
      have HB3 := Lib.hid (HB2.out.grown hg3 HB2.out.size (fun k e => by cases e; exact HGW.out))
      have hI3 := some_any g ((b.drop 2).drop 4) n HD6.out w3 hr3
      unfold SomeR at hI3
      rw [← HDP.out] at hI3
      have HI3 := Lib.hid hI3
      clear hr3 hg3 hI3
      go_wp2_with fail
      refine HI3.out.mono ?_
      rintro e w4 ⟨rfl, hr4, hg4⟩
      have HO4 := Lib.hid (Top.Own.other HO3.out hg4 HG.out)
      have HB4 := Lib.hid (HB3.out.grown hg4 HB3.out.size (fun k e => by cases e; exact HGW.out))
      obtain ⟨-, x1, -, -⟩ := rb_cells hr4
      have htb : (takeP n ((b.drop 2).drop 4)).2.2 = true → dataP b = [] := fun h => by
        rw [HDP.out]
        unfold takeP at h ⊢
        split at h
        · rename_i hc; rw [if_pos hc]
        · cases h
      have htg : (takeP n ((b.drop 2).drop 4)).2.2 = false → (dataP b).length = n := fun h => by
        rw [HDP.out]
        exact (takeP_ok h).2
      obtain ⟨q, hq⟩ : ∃ q, q = (takeP n ((b.drop 2).drop 4)).2.2 := ⟨_, rfl⟩
      have HFI : Hid (firstF b = if MayL (dataP b).length ∧ sumF (dataP b) = s then dataP b else []) := Lib.hid (by rw [HSS.out]; rfl)
      have hdm : (dataP b).length ≤ maxLen := by
        cases hq9 : (takeP n ((b.drop 2).drop 4)).2.2 with
        | true => rw [htb hq9]; exact Nat.zero_le _
        | false => rw [htg hq9]; unfold maxLen; omega
      obtain ⟨d, hd⟩ : ∃ d, d = dataP b := ⟨_, rfl⟩
      rw [← hq] at x1 htb htg
      rw [← hd] at htb htg HFI hdm ⊢
      have HRM := Lib.hid (rmayl_any d hdm w4)
      have HRS := Lib.hid (rsuml_any d hdm w4)
      have HTB := Lib.hid htb
      have HTG := Lib.hid htg
      clear hr4 hg4 hq hd htb htg hdm
      cases q with
      | true =>
        have HSTOP : Hid (rdL (l.drop r) = []) := Lib.hid (rdL_nil (by rw [← HBB.out]; exact by rw [HFI.out, if_neg (fun h => by have := h.1.1; rw [HTB.out rfl] at this; simp at this)]))
        have hall : got = rdL l := by
          have := HGOT.out
          rw [HSTOP.out, List.append_nil] at this
          exact this
        have hrn : r = rdN l := by
          have := HNUM.out
          unfold rdN at this ⊢
          rw [HSTOP.out] at this
          simpa [catR] using this
        have HALL := Lib.hid hall
        have HRN := Lib.hid hrn
        obtain ⟨va, vc, he, hm9, hst⟩ := HO4.out.strs
        have HE := Lib.hid he
        have HST := Lib.hid (And.intro hm9 hst)
        clear hall hrn he hm9 hst
        go_wp2_with fail
        go_ret2
        exact ⟨va, vc, by rw [← HALL.out, ← HRN.out, ← HE.out]; rfl, HST.out.1, by rw [← HALL.out]; exact HST.out.2, HB4.out⟩
      | false =>
        have hdn := HTG.out rfl
        have HDN := Lib.hid hdn
        clear hdn
        by_cases hm : MayL d.length
        case neg =>
          rw [decide_eq_false hm] at HRM
          have HSTOP : Hid (rdL (l.drop r) = []) := Lib.hid (rdL_nil (by rw [← HBB.out]; exact by rw [HFI.out, if_neg (fun h => hm h.1)]))
          have hall : got = rdL l := by
            have := HGOT.out
            rw [HSTOP.out, List.append_nil] at this
            exact this
          have hrn : r = rdN l := by
            have := HNUM.out
            unfold rdN at this ⊢
            rw [HSTOP.out] at this
            simpa [catR] using this
          have HALL := Lib.hid hall
          have HRN := Lib.hid hrn
          obtain ⟨va, vc, he, hm9, hst⟩ := HO4.out.strs
          have HE := Lib.hid he
          have HST := Lib.hid (And.intro hm9 hst)
          clear hall hrn he hm9 hst
          clear hm
          go_wp2_with fail
          refine HRM.out.mono ?_
          rintro e wx ⟨rfl, rfl⟩
          go_wp2_with fail
          go_ret2
          exact ⟨va, vc, by rw [← HALL.out, ← HRN.out, ← HE.out]; rfl, HST.out.1, by rw [← HALL.out]; exact HST.out.2, HB4.out⟩
        rw [decide_eq_true hm] at HRM
        have HM := Lib.hid hm
        clear hm
        obtain ⟨z, hz⟩ : ∃ z, z = sumF d := ⟨_, rfl⟩
        have HZ := Lib.hid hz
        rw [← hz] at HRS
        clear hz
        by_cases hzs : z = s
        case neg =>
          have hne : ((z : Int) != (s : Int)) = true := by simp; omega
          have HSTOP : Hid (rdL (l.drop r) = []) := Lib.hid (rdL_nil (by rw [← HBB.out]; exact by rw [HFI.out, if_neg (fun h => hzs (by rw [HZ.out]; exact h.2))]))
          have hall : got = rdL l := by
            have := HGOT.out
            rw [HSTOP.out, List.append_nil] at this
            exact this
          have hrn : r = rdN l := by
            have := HNUM.out
            unfold rdN at this ⊢
            rw [HSTOP.out] at this
            simpa [catR] using this
          have HALL := Lib.hid hall
          have HRN := Lib.hid hrn
          obtain ⟨va, vc, he, hm9, hst⟩ := HO4.out.strs
          have HE := Lib.hid he
          have HST := Lib.hid (And.intro hm9 hst)
          clear hall hrn he hm9 hst
          clear hzs
          go_wp2_with fail
          refine HRM.out.mono ?_
          rintro e wx ⟨rfl, rfl⟩
          go_wp2_with fail
          refine HRS.out.mono ?_
          rintro e wx ⟨rfl, rfl⟩
          go_wp2_with fail
          go_ret2
          exact ⟨va, vc, by rw [← HALL.out, ← HRN.out, ← HE.out]; rfl, HST.out.1, by rw [← HALL.out]; exact HST.out.2, HB4.out⟩
        have hne : ((z : Int) != (s : Int)) = false := by simp [hzs]
        have HFD : Hid (firstF b = d) := Lib.hid (by rw [HFI.out, if_pos ⟨HM.out, by rw [← HZ.out]; exact hzs⟩])
        have hgl : got.length ≤ 1000000000 := by omega
        clear hzs
        go_wp2_with fail
        refine HRM.out.mono ?_
        rintro e wx ⟨rfl, rfl⟩
        go_wp2_with fail
        refine HRS.out.mono ?_
        rintro e wx ⟨rfl, rfl⟩
        clear x1
        go_wp2_with (at_builtin; refine Top.put_str d rfl (.tmp 43) (.tmp 45) rfl HO4.out HB4.out.size hgl rfl _ rfl rfl ?_; intro g5 cap5 w5 hown5 hg5 hat5; have HO5 := Lib.hid hown5; have HB5 := Lib.hid (Top.Own.grown HB4.out HO4.out hg5 HB4.out.size); clear hown5 hg5 hat5)
        have hfn : firstF (l.drop r) ≠ [] := by
          rw [← HBB.out, HFD.out]
          intro e0
          have := HM.out.1
          rw [e0] at this
          simp at this
        have hle2 := first_le hfn
        have HC : Hid (rdL (l.drop r) = d :: rdL (l.drop (r + (d.length + 6)))) := Lib.hid (by
          rw [rdL_cons hfn, ← HBB.out, HFD.out, HBB.out, List.drop_drop])
        rw [← HBB.out, HFD.out, HBL.out] at hle2
        have HLE := Lib.hid hle2
        clear hfn hle2
        go_roundg (l.length - (r + (d.length + 6)))
        case measure => have := HLE.out; omega
        case rel =>
          refine ⟨r + (d.length + 6), got ++ [d], by have := HLE.out; omega, ?_, rfl, ?_, ?_, by simp; omega, by simpa using HO5.out, HB5.out⟩
          · rw [← HDN.out]
            go_num
          · have := HGOT.out
            rw [HC.out] at this
            rw [← this]
            simp
          · have := HNUM.out
            unfold rdN at this ⊢
            rw [HC.out, catR_cons, List.length_append, recF_length] at this
            omega
    · have hi6 : ¬ (r : Int) + 6 ≤ (l.length : Int) := by omega
      have HSTOP : Hid (rdL (l.drop r) = []) := Lib.hid (rdL_nil (first_nil_of (by rw [List.length_drop]; omega)))
      have hall : got = rdL l := by
        have := HGOT.out
        rw [HSTOP.out, List.append_nil] at this
        exact this
      have hrn : r = rdN l := by
        have := HNUM.out
        unfold rdN at this ⊢
        rw [HSTOP.out] at this
        simpa [catR] using this
      have HALL := Lib.hid hall
      have HRN := Lib.hid hrn
      clear hall hrn
      obtain ⟨ua, uc, he, hm, hst⟩ := HOWN.out.strs
      subst he
      have HST := Lib.hid (And.intro hm hst)
      clear hm hst
      go_wp2_with fail
      go_ret2
      exact ⟨_, _, by rw [← HALL.out, ← HRN.out]; rfl, HST.out.1, by rw [← HALL.out]; exact HST.out.2, HB.out⟩

end Go.Proofs.Ytifgkmaaglaffaa.Sg
