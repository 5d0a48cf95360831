/-
  RingHalves, walked.
-/
import Derived.Test.YtphamgnafhmelaaDoorR9Few
namespace Go.Proofs.YtphamgnafhmelaaDoor.Rg
open Go.RowKit
set_option linter.unusedVariables false

/-- a number taken round the shards. -/
theorem mod16 (x : Int) : ∃ k : Nat, (IntKind.u64.wrap x).tmod 16 = (k : Int) ∧ k < 16 := by
  have h : 0 ≤ IntKind.u64.wrap x := by rw [IntKind.wrap_u64]; omega
  rw [Int.tmod_eq_emod_of_nonneg h]
  exact ⟨(IntKind.u64.wrap x % 16).toNat, by omega, by omega⟩
def cntK (l : List Ar) (s : Int) (i : Nat) : Int := ((l.take i).countP fun a => decide (a.s = s) : Nat)
theorem cntK_succ (l : List Ar) (s : Int) (i : Nat) (h : i < l.length) : cntK l s (i + 1) = cntK l s i + if l[i].s = s then 1 else 0 := by
  unfold cntK
  rw [List.take_succ_eq_append_getElem h, List.countP_append]
  by_cases hs : l[i].s = s <;> simp [hs]
theorem cntK_in (l : List Ar) (s : Int) (i : Nat) : 0 ≤ cntK l s i ∧ cntK l s i ≤ i := by
  unfold cntK
  have h1 := List.countP_le_length (p := fun a : Ar => decide (a.s = s)) (l := l.take i)
  have h2 : (l.take i).length ≤ i := List.length_take_le _ _
  omega
def halvRel (w : World) (l : List Ar) (s : Int) (m : Nat) (u v : Value) (wr : World) : Prop :=
  ∃ i : Nat, i ≤ l.length ∧ u = .int .u64 (cntK l s i) ∧ v = .int .i64 i ∧ m = l.length - i ∧ wr = w

set_option maxRecDepth 100000 in
set_option maxHeartbeats 4000000 in
theorem halves_any (a : Option Addr) (cap : Nat) (l : List Ar) (p1 p2 p : Int) (w : World) (h0 : AArg w a cap l) (h3 : (Lit.int .u32 p).wf = true) :
    Calls Tryd.prog 6 #[.slice a l.length cap, .int .i64 p1, .int .i64 p2, .int .u32 p] w fun e w' => e = .returned (.bool true) ∧ Below w.heap.size w w' := by
  have hp := in_u32 h3
  have hf := h0.at'
  have hw := h0.wf
  have hcap := hf.max
  have hlen := hf.len
  unfold maxLen at hcap
  have HT := Lib.hid told_any
  have hfe := fun wx => few_any a cap l.length wx
  clear h0 h3
  obtain ⟨s, hs, hs16⟩ := mod16 p1
  obtain ⟨o, ho, ho16⟩ := mod16 p2
  obtain ⟨q1, hq1⟩ : ∃ q, IntKind.u64.wrap p1 = q := ⟨_, rfl⟩
  obtain ⟨q2, hq2⟩ : ∃ q, IntKind.u64.wrap p2 = q := ⟨_, rfl⟩
  rw [hq1] at hs
  rw [hq2] at ho
  have hsi : (s : Int) < 16 := by omega
  have hs0 : (0 : Int) ≤ (s : Int) := by omega
  have hoi : (o : Int) < 16 := by omega
  have ho0 : (0 : Int) ≤ (o : Int) := by omega
  by_cases h60 : l.length ≤ 60
  case neg =>
    rw [decide_eq_false h60] at hfe
    clear hf hw
    go_enter Tryd.func6, Tryd.ntmps6
    go_wp2_with (first | (go_at_call 10; refine (hfe _).mono ?_; rintro e w1 ⟨rfl, rfl⟩) | (go_at_call 11; refine (HT.out _).mono ?_; rintro e w2 ⟨rfl, hb2⟩; have HB2 := Lib.hid hb2; clear hb2))
    go_ret
    exact ⟨rfl, HB2.out⟩
  rw [decide_eq_true h60] at hfe
  have hma := may_any a cap l w hf
  by_cases hm : May l
  case neg =>
    rw [decide_eq_false hm] at hma
    clear hf hw hm
    go_enter Tryd.func6, Tryd.ntmps6
    go_wp2_with (first | (go_at_call 10; refine (hfe _).mono ?_; rintro e w1 ⟨rfl, rfl⟩) | (go_at_call 12; refine hma.mono ?_; rintro e w1 ⟨rfl, hd⟩; have HD1 := Lib.hid hd; clear hd) | (go_at_call 11; refine (HT.out _).mono ?_; rintro e w2 ⟨rfl, hb2⟩; have HB2 := Lib.hid (HD1.out.below.trans (hb2.mono HD1.out.below.size)); clear hb2))
    go_ret
    exact ⟨rfl, HB2.out⟩
  rw [decide_eq_true hm] at hma
  by_cases hso : s = o
  · subst hso
    clear hf hw hm
    go_enter Tryd.func6, Tryd.ntmps6
    go_wp2_with (first | (go_at_call 10; refine (hfe _).mono ?_; rintro e w1 ⟨rfl, rfl⟩) | (go_at_call 12; refine hma.mono ?_; rintro e w1 ⟨rfl, hd⟩; have HD1 := Lib.hid hd; clear hd) | (go_at_call 11; refine (HT.out _).mono ?_; rintro e w2 ⟨rfl, hb2⟩; have HB2 := Lib.hid (HD1.out.below.trans (hb2.mono HD1.out.below.size)); clear hb2))
    go_ret
    exact ⟨rfl, HB2.out⟩
  have hso1 : ((s : Int) == (o : Int)) = false := by rw [beq_eq_false_iff_ne]; omega
  have hsoi : (s : Int) ≠ (o : Int) := by omega
  have HF := Lib.hid hf
  have HM := Lib.hid hm
  have HWF := Lib.hid hw
  have hsh : ∀ x : Int, shareA l x = shareF l x := fun x => by unfold shareA; rw [if_pos hm]
  have HSH := Lib.hid fun (x : Int) (wx : World) (hx : AsAt wx a cap l) => (show Calls Tryd.prog 18 #[.slice a l.length cap, .int .i64 x] wx fun e w' => e = .returned (.int .u64 (shareF l x)) ∧ Drew wx w' by
    have := share_any a cap l x wx hx hw
    rwa [hsh] at this)
  have hle := fun x => share_le hw hm.up hm.1 x
  by_cases h0o : 0 < shareF l o
  · have HSO := Lib.hid (HSH.out o)
    generalize shareF l o = Z at *
    clear hf hw hm hsh hle hsoi
    go_enter Tryd.func6, Tryd.ntmps6
    go_wp2_with (first | (go_at_call 10; refine (hfe _).mono ?_; rintro e w1 ⟨rfl, rfl⟩) | (go_at_call 12; refine hma.mono ?_; rintro e w1 ⟨rfl, hd⟩; have HD1 := Lib.hid hd; clear hd) | (go_at_call 18; refine (HSO.out _ (HF.out.below HD1.out.below)).mono ?_; rintro e w3 ⟨rfl, hd⟩; have HD3 := Lib.hid (HD1.out.trans hd); clear hd) | (go_at_call 11; refine (HT.out _).mono ?_; rintro e w2 ⟨rfl, hb2⟩; have HB2 := Lib.hid (HD3.out.below.trans (hb2.mono HD3.out.below.size)); clear hb2))
    go_ret
    exact ⟨rfl, HB2.out⟩
  have hz : shareF l (o : Int) = 0 := by have := hle (o : Int); omega
  have h0o' : ¬ (0 : Int) < 0 := by omega
  obtain ⟨sh1, sh2, sh3⟩ := halve_share hw hm.up hsoi hz
  have how := halve_owner hw hm.up hm.1 (s : Int) (o : Int) hp
  have hhl := halve_length l s o
  have hmh : May (halveF l s o) := halve_may hw hm (by omega) s o ⟨ho0, hoi⟩
  have hwh : Wf (halveF l s o) := halve_wf hw s o
  have hhA : halveA l s o = halveF l s o := by
    unfold halveA
    rw [if_pos ⟨hm, by unfold okS; simp; omega, by unfold halveF at hhl; rw [srt_length] at hhl; omega⟩]
  have HHA := Lib.hid fun (wx : World) (hx : AsAt wx a cap l) => halve_any a cap l s o wx hx hw
  rw [hhA] at HHA
  have HOW := Lib.hid fun (wx : World) (hx : AsAt wx a cap l) => (show Calls Tryd.prog 14 #[.slice a l.length cap, .int .u32 p] wx fun e w' => e = .returned (.int .i64 (ownerF l p)) ∧ Drew wx w' by
    have := owner_any a cap l p wx hx
    rwa [show ownerA l p = ownerF l p by unfold ownerA; rw [if_pos hm]] at this)
  have hlh1 := share_le hwh hmh.up hmh.1 s
  have hlh2 := share_le hwh hmh.up hmh.1 o
  have hl1 := hle s
  generalize halveF l s o = H at *
  have HMH := Lib.hid fun (ha : Option Addr) (hc : Nat) (wx : World) (hx : AsAt wx ha hc H) => may_any ha hc H wx hx
  rw [decide_eq_true hmh] at HMH
  have HOH := Lib.hid fun (ha : Option Addr) (hc : Nat) (wx : World) (hx : AsAt wx ha hc H) => (show Calls Tryd.prog 14 #[.slice ha H.length hc, .int .u32 p] wx fun e w' => e = .returned (.int .i64 (ownerF H p)) ∧ Drew wx w' by
    have := owner_any ha hc H p wx hx
    rwa [show ownerA H p = ownerF H p by unfold ownerA; rw [if_pos hmh]] at this)
  have HSHH := Lib.hid fun (x : Int) (ha : Option Addr) (hc : Nat) (wx : World) (hx : AsAt wx ha hc H) => (show Calls Tryd.prog 18 #[.slice ha H.length hc, .int .i64 x] wx fun e w' => e = .returned (.int .u64 (shareF H x)) ∧ Drew wx w' by
    have := share_any ha hc H x wx hx hwh
    rwa [show shareA H x = shareF H x by unfold shareA; rw [if_pos hmh]] at this)
  have HSO := Lib.hid (HSH.out o)
  rw [hz] at HSO
  have HSS := Lib.hid (HSH.out s)
  have HS1 := Lib.hid (HSHH.out s)
  have HS2 := Lib.hid (HSHH.out o)
  clear hhA hmh hwh hhl hle hsh hz h0o HSH HSHH
  have hcnt : cntK l s l.length = (l.countP fun a => decide (a.s = (s : Int)) : Nat) := by unfold cntK; rw [List.take_length]
  rw [← hcnt] at sh2 sh3
  clear hcnt
  generalize shareF l (s : Int) = was at *
  generalize shareF H (s : Int) = now at *
  generalize shareF H (o : Int) = got at *
  generalize ownerF l p = oa at *
  generalize ownerF H p = ob at *
  have HOWN := Lib.hid how
  have HSUM := Lib.hid (And.intro sh1 (And.intro sh2 sh3))
  clear how sh1 sh2 sh3 hf hw hm
  go_enter Tryd.func6, Tryd.ntmps6
  go_wp2_with fail
  refine (hfe _).mono ?_
  rintro e w1 ⟨rfl, rfl⟩
  go_wp2_with fail
  refine hma.mono ?_
  rintro e w1 ⟨rfl, hd⟩
  have HD1 := Lib.hid hd
  clear hd hma hfe
  go_wp2_with fail
  refine (HSO.out _ (HF.out.below HD1.out.below)).mono ?_
  rintro e w3 ⟨rfl, hd⟩
  have HD3 := Lib.hid (HD1.out.trans hd)
  clear hd
  go_wp2_with fail
  refine (HHA.out _ (HF.out.below HD3.out.below)).mono ?_
  rintro e w4 ⟨ha, hc, rfl, hath, hnh, hbh⟩
  have HATH := Lib.hid hath
  have HB4 := Lib.hid (HD3.out.below.trans (hbh.mono HD3.out.below.size))
  clear hath hnh hbh
  go_wp2_with fail
  refine (HMH.out ha hc _ HATH.out).mono ?_
  rintro e w5 ⟨rfl, hd⟩
  have HB5 := Lib.hid (HB4.out.trans (hd.below.mono HB4.out.size))
  have HATH5 := Lib.hid (HATH.out.below hd.below)
  clear hd
  go_wp2_with fail
  refine (HOW.out _ (HF.out.below HB5.out)).mono ?_
  rintro e w6 ⟨rfl, hd⟩
  have HB6 := Lib.hid (HB5.out.trans (hd.below.mono HB5.out.size))
  have HATH6 := Lib.hid (HATH5.out.below hd.below)
  clear hd
  go_wp2_with fail
  refine (HOH.out ha hc _ HATH6.out).mono ?_
  rintro e w7 ⟨rfl, hd⟩
  have HB7 := Lib.hid (HB6.out.trans (hd.below.mono HB6.out.size))
  have HATH7 := Lib.hid (HATH6.out.below hd.below)
  clear hd
  go_wp2_with fail
  refine (HSS.out _ (HF.out.below HB7.out)).mono ?_
  rintro e w8 ⟨rfl, hd⟩
  have HB8 := Lib.hid (HB7.out.trans (hd.below.mono HB7.out.size))
  have HATH8 := Lib.hid (HATH7.out.below hd.below)
  clear hd
  go_wp2_with fail
  refine (HS1.out ha hc _ HATH8.out).mono ?_
  rintro e w9 ⟨rfl, hd⟩
  have HB9 := Lib.hid (HB8.out.trans (hd.below.mono HB8.out.size))
  have HATH9 := Lib.hid (HATH8.out.below hd.below)
  clear hd
  go_wp2_with fail
  refine (HS2.out ha hc _ HATH9.out).mono ?_
  rintro e w10 ⟨rfl, hd⟩
  have HB10 := Lib.hid (HB9.out.trans (hd.below.mono HB9.out.size))
  clear hd
  go_wp2_with fail
  go_loopg [17, 18] l.length (halvRel w10 l s)
  case atStart => exact ⟨0, Nat.zero_le _, rfl, rfl, rfl, rfl⟩
  case round =>
    obtain ⟨i, hi, rfl, rfl, rfl, rfl⟩ := hrel
    have hci := cntK_in l s i
    by_cases hlt : i < l.length
    · have hlti : (i : Int) < (l.length : Int) := by omega
      have h0i : (0 : Int) ≤ (i : Int) := by omega
      have HS := Lib.hid (cntK_succ l s i hlt)
      obtain ⟨b, oo, rfl, c0, c1⟩ := AsAt.get (HF.out.below HB10.out) i hlt
      by_cases hq : l[i].s = (s : Int)
      · have es : (l[i].s == (s : Int)) = true := by rw [beq_iff_eq]; exact hq
        have HQ := Lib.hid (show cntK l s (i + 1) = cntK l s i + 1 by rw [HS.out, if_pos hq])
        clear hq
        generalize l[i].s = y at *
        generalize cntK l s i = z at *
        go_wp2_with fail
        go_roundg (l.length - (i + 1))
        case measure => omega
        case rel => exact ⟨i + 1, by omega, by rw [HQ.out], by go_num, by simp, rfl⟩
      · have es : (l[i].s == (s : Int)) = false := by rw [beq_eq_false_iff_ne]; exact hq
        have HQ := Lib.hid (show cntK l s (i + 1) = cntK l s i by rw [HS.out, if_neg hq, Int.add_zero])
        clear hq
        generalize l[i].s = y at *
        generalize cntK l s i = z at *
        go_wp2_with fail
        go_roundg (l.length - (i + 1))
        case measure => omega
        case rel => exact ⟨i + 1, by omega, by rw [HQ.out], by go_num, by simp, rfl⟩
    · obtain rfl : i = l.length := by omega
      generalize cntK l s l.length = n at *
      obtain ⟨t1, t2, t3⟩ := HSUM.out
      have e1 : (now + got == was) = true := by rw [beq_iff_eq]; exact t1
      clear t1
      rcases HOWN.out with g | ⟨g1, g2⟩
      · have e2 : (ob == oa) = true := by rw [beq_iff_eq]; exact g
        clear g
        go_wp2_with (go_at_call 11; refine (HT.out _).mono ?_; rintro e w12 ⟨rfl, hb⟩; have HB12 := Lib.hid (HB10.out.trans (hb.mono HB10.out.size)); clear hb)
        go_ret
        exact ⟨rfl, HB12.out⟩
      · have e3 : (oa == (s : Int)) = true := by rw [beq_iff_eq]; exact g1
        have e4 : (ob == (o : Int)) = true := by rw [beq_iff_eq]; exact g2
        have e2 : (ob == oa) = false := by rw [beq_eq_false_iff_ne]; omega
        clear g1 g2
        go_wp2_with (go_at_call 11; refine (HT.out _).mono ?_; rintro e w12 ⟨rfl, hb⟩; have HB12 := Lib.hid (HB10.out.trans (hb.mono HB10.out.size)); clear hb)
        go_ret
        exact ⟨rfl, HB12.out⟩

end Go.Proofs.YtphamgnafhmelaaDoor.Rg
