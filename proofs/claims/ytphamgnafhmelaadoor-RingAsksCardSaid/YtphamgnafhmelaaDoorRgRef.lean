/-
  The document's answers: which arcs may be, owners, widths, shares, walked.
-/
import Derived.Test.YtphamgnafhmelaaDoorRgRMay
import Derived.Deep.LoopGhost
namespace Go.Proofs.YtphamgnafhmelaaDoor.Rg
open Go.RowKit
set_option linter.unusedVariables false

def placeRel (w : World) (l : List Ar) (p : Int) (m : Nat) (u v : Value) (wr : World) : Prop :=
  ∃ i : Nat, i ≤ l.length ∧ v = .int .i64 i ∧ m = l.length - i ∧ u = .int .i64 (if min i (cntF l p) = 0 then l.length - 1 else min i (cntF l p) - 1 : Nat) ∧ wr = w
set_option maxHeartbeats 1000000 in
theorem place_any (a : Option Addr) (cap : Nat) (l : List Ar) (p : Int) (w : World) (hf : AsAt w a cap l) (hm : May l) :
    Calls Tryd.prog 27 #[.slice a l.length cap, .int .u32 p] w fun e w' => e = .returned (.int .i64 (placeF l p : Nat)) ∧ w' = w := by
  have hcap := hf.max
  have hlen := hf.len
  unfold maxLen at hcap
  have HF := Lib.hid hf
  have HC := Lib.hid (cnt_iff hm.up p)
  have hl1 := hm.1
  have hcl := cnt_le l p
  have s1 : IntKind.i64.wrap ((l.length : Int) - 1) = ((l.length - 1 : Nat) : Int) := by rw [IntWalk.i64_in _ (by omega)]; omega
  have hpl : placeF l p = if min l.length (cntF l p) = 0 then l.length - 1 else min l.length (cntF l p) - 1 := by
    unfold placeF
    rw [Nat.min_eq_right hcl]
  have HPL := Lib.hid hpl
  clear hf hm hpl
  go_enter Tryd.func27, Tryd.ntmps27
  go_wp2_with fail
  clear s1
  go_loopg [5, 6] l.length (placeRel w l p)
  case atStart => exact ⟨0, Nat.zero_le _, rfl, rfl, by simp, rfl⟩
  case round =>
    obtain ⟨i, hi, rfl, rfl, rfl, rfl⟩ := hrel
    by_cases hlt : i < l.length
    · have hlti : (i : Int) < (l.length : Int) := by omega
      have h0i : (0 : Int) ≤ (i : Int) := by omega
      obtain ⟨b, o, rfl, c0, c1⟩ := AsAt.get HF.out i hlt
      by_cases g1 : l[i].f ≤ p
      · have hc := (HC.out i hlt).1 g1
        generalize hq : (if min i (cntF l p) = 0 then l.length - 1 else min i (cntF l p) - 1) = q
        clear hq
        go_wp2_with fail
        go_roundg (l.length - (i + 1))
        case measure => omega
        case rel => exact ⟨i + 1, by omega, by go_num, by simp, by rw [Nat.min_eq_left (by omega), if_neg (by omega), Nat.add_sub_cancel], rfl⟩
      · have hc : ¬ i < cntF l p := fun h => g1 ((HC.out i hlt).2 h)
        have hq : (if min i (cntF l p) = 0 then l.length - 1 else min i (cntF l p) - 1) = (if min (i + 1) (cntF l p) = 0 then l.length - 1 else min (i + 1) (cntF l p) - 1) := by
          rw [Nat.min_eq_right (by omega), Nat.min_eq_right (by omega)]
        have HQ := Lib.hid hq
        clear hq
        generalize (if min i (cntF l p) = 0 then l.length - 1 else min i (cntF l p) - 1) = q at HQ
        go_wp2_with fail
        go_roundg (l.length - (i + 1))
        case measure => omega
        case rel => exact ⟨i + 1, by omega, by go_num, by simp, by rw [HQ.out], rfl⟩
    · obtain rfl : i = l.length := by omega
      rw [← HPL.out]
      go_wp2_with fail
      go_ret
      exact ⟨rfl, rfl⟩

set_option maxHeartbeats 1000000 in
theorem rowner_any (a : Option Addr) (cap : Nat) (l : List Ar) (p : Int) (w : World) (hf : AsAt w a cap l) :
    Calls Tryd.prog 15 #[.slice a l.length cap, .int .u32 p] w fun e w' => e = .returned (.int .i64 (ownerA l p)) ∧ Drew w w' := by
  have hm := rmay_any a cap l w hf
  by_cases h1 : May l
  case neg =>
    rw [decide_eq_false h1] at hm
    rw [show ownerA l p = -1 from if_neg h1]
    clear hf h1
    go_enter Tryd.func15, Tryd.ntmps15
    go_wp2_with (go_at_call 13; refine hm.mono ?_; rintro e w1 ⟨rfl, hd⟩; have HD := Lib.hid hd; clear hd)
    go_ret
    exact ⟨rfl, HD.out⟩
  rw [decide_eq_true h1] at hm
  have hlt := place_lt h1.1 p
  rw [show ownerA l p = (l[placeF l p]'hlt).s by unfold ownerA; rw [if_pos h1, owner_in h1.1]]
  have hlti : ((placeF l p : Nat) : Int) < (l.length : Int) := by omega
  have h0i : (0 : Int) ≤ ((placeF l p : Nat) : Int) := by omega
  have HF := Lib.hid hf
  have HP := Lib.hid fun (wx : World) (hx : AsAt wx a cap l) => place_any a cap l p wx hx h1
  clear hf h1
  go_enter Tryd.func15, Tryd.ntmps15
  go_wp2_with (first | (go_at_call 13; refine hm.mono ?_; rintro e w1 ⟨rfl, hd⟩; have HD := Lib.hid hd; have HF1 := Lib.hid (HF.out.below hd.below); clear hd) | (go_at_call 27; refine (HP.out w1 HF1.out).mono ?_; rintro e w2 ⟨rfl, rfl⟩; obtain ⟨b, o, rfl, c0, c1⟩ := AsAt.get HF1.out (placeF l p) hlt))
  go_ret
  exact ⟨rfl, HD.out⟩

set_option maxHeartbeats 1000000 in
theorem rwidth_any (a : Option Addr) (cap : Nat) (l : List Ar) (k : Int) (w : World) (hf : AsAt w a cap l) (hw : Wf l) :
    Calls Tryd.prog 17 #[.slice a l.length cap, .int .i64 k] w fun e w' => e = .returned (.int .u64 (widthA l k)) ∧ Drew w w' := by
  have hm := rmay_any a cap l w hf
  have hcap := hf.max
  have hlen := hf.len
  unfold maxLen at hcap
  by_cases h1 : May l
  case neg =>
    rw [decide_eq_false h1] at hm
    rw [show widthA l k = 0 from if_neg fun h => h1 h.1]
    clear hf hw h1
    go_enter Tryd.func17, Tryd.ntmps17
    go_wp2_with (go_at_call 13; refine hm.mono ?_; rintro e w1 ⟨rfl, hd⟩; have HD := Lib.hid hd; clear hd)
    go_ret
    exact ⟨rfl, HD.out⟩
  rw [decide_eq_true h1] at hm
  by_cases h2 : 0 ≤ k
  case neg =>
    rw [show widthA l k = 0 from if_neg fun h => h2 h.2.1]
    have h3 : k < 0 := by omega
    clear hf hw h1
    go_enter Tryd.func17, Tryd.ntmps17
    go_wp2_with (go_at_call 13; refine hm.mono ?_; rintro e w1 ⟨rfl, hd⟩; have HD := Lib.hid hd; clear hd)
    go_ret
    exact ⟨rfl, HD.out⟩
  have h2' : ¬ k < 0 := by omega
  by_cases h3 : k < l.length
  case neg =>
    rw [show widthA l k = 0 from if_neg fun h => h3 h.2.2]
    clear hf hw h1
    go_enter Tryd.func17, Tryd.ntmps17
    go_wp2_with (go_at_call 13; refine hm.mono ?_; rintro e w1 ⟨rfl, hd⟩; have HD := Lib.hid hd; clear hd)
    go_ret
    exact ⟨rfl, HD.out⟩
  rw [show widthA l k = widthF l k.toNat from if_pos ⟨h1, h2, h3⟩]
  obtain ⟨k, rfl⟩ : ∃ n : Nat, k = n := ⟨k.toNat, by omega⟩
  have hk : k < l.length := by omega
  have hu := h1.up
  rw [Int.toNat_natCast]
  by_cases ho : l.length = 1
  · rw [show widthF l k = 4294967296 by rw [show k = 0 by omega]; exact width_one ho]
    have e1 : ((l.length : Int) == 1) = true := by rw [ho]; rfl
    have hki : (k : Int) < (l.length : Int) := by omega
    have hki' : ¬ (l.length : Int) ≤ (k : Int) := by omega
    clear hf hw hu ho h1
    go_enter Tryd.func17, Tryd.ntmps17
    go_wp2_with (go_at_call 13; refine hm.mono ?_; rintro e w1 ⟨rfl, hd⟩; have HD := Lib.hid hd; clear hd)
    go_ret
    exact ⟨rfl, HD.out⟩
  · have e1 : ((l.length : Int) == 1) = false := by rw [beq_eq_false_iff_ne]; omega
    have hmo := Nat.mod_lt (k + 1) (show l.length > 0 by omega)
    rw [width_more hw hu ho k hk]
    have hki : (k : Int) < (l.length : Int) := by omega
    have s5 : ((l.length : Int) == 0) = false := by rw [beq_eq_false_iff_ne]; omega
    have s1 : IntKind.i64.wrap ((k : Int) + 1) = (k : Int) + 1 := IntWalk.i64_in _ (by omega)
    have s2 : ((k : Int) + 1).tmod (l.length : Int) = ((k + 1) % l.length : Nat) := by
      rw [Int.tmod_eq_emod_of_nonneg (by omega)]; rfl
    have s3 : (((k + 1) % l.length : Nat) : Int) < (l.length : Int) := Int.ofNat_lt.2 hmo
    have s4 : (0 : Int) ≤ (((k + 1) % l.length : Nat) : Int) := Int.natCast_nonneg _
    have HC := Lib.hid fun (wx : World) (hx : AsAt wx a cap l) => And.intro (AsAt.get hx k hk) (AsAt.get hx _ hmo)
    have HF := Lib.hid hf
    generalize (l[(k + 1) % l.length]'hmo).f = y at *
    generalize l[k].f = x at *
    generalize (k + 1) % l.length = q at *
    clear hf hw hu h1
    go_enter Tryd.func17, Tryd.ntmps17
    go_wp2_with (go_at_call 13; refine hm.mono ?_; rintro e w1 ⟨rfl, hd⟩; have HD := Lib.hid hd; obtain ⟨⟨b, o, rfl, c0, _⟩, b', o', he, c1, _⟩ := HC.out w1 (HF.out.below hd.below); injection he with he; injection he with e2 e3; subst e2 e3; clear hd)
    go_quiet (fail)
    go_wp2_with fail
    go_ret
    exact ⟨rfl, HD.out.more _⟩

def rshareRel (w : World) (l : List Ar) (x : Int) (m : Nat) (u v : Value) (wr : World) : Prop :=
  ∃ i : Nat, i ≤ l.length ∧ v = .int .i64 i ∧ m = l.length - i ∧ u = .int .u64 (if May l then shareK l x i else 0) ∧ (i = 0 ∨ May l) ∧ Drew w wr
set_option maxRecDepth 100000 in
set_option maxHeartbeats 1000000 in
theorem rshare_any (a : Option Addr) (cap : Nat) (l : List Ar) (x : Int) (w : World) (hf : AsAt w a cap l) (hw : Wf l) :
    Calls Tryd.prog 19 #[.slice a l.length cap, .int .i64 x] w fun e w' => e = .returned (.int .u64 (shareA l x)) ∧ Drew w w' := by
  have hcap := hf.max
  have hlen := hf.len
  unfold maxLen at hcap
  have HF := Lib.hid hf
  have HMA := Lib.hid fun (wx : World) (hx : AsAt wx a cap l) => rmay_any a cap l wx hx
  clear hf
  go_enter Tryd.func19, Tryd.ntmps19
  go_wp2_with fail
  go_loopg [5, 6] l.length (rshareRel w l x)
  case atStart => exact ⟨0, Nat.zero_le _, rfl, rfl, by rw [shareK_zero]; simp, .inl rfl, Drew.refl _⟩
  case round =>
    obtain ⟨i, hi, rfl, rfl, rfl, hi0, hd⟩ := hrel
    have HD := Lib.hid hd
    have HF1 := Lib.hid (HF.out.below hd.below)
    have hm := HMA.out _ HF1.out
    clear hd
    by_cases hlt : i < l.length
    · have hlti : (i : Int) < (l.length : Int) := by omega
      have h0i : (0 : Int) ≤ (i : Int) := by omega
      by_cases h1 : May l
      case neg =>
        rw [decide_eq_false h1] at hm
        have HR : Hid (shareA l x = 0) := Lib.hid (if_neg h1)
        rw [if_neg h1]
        clear h1 hi0
        go_wp2_with (go_at_call 13; refine hm.mono ?_; rintro e w1 ⟨rfl, hd⟩; have HD1 := Lib.hid hd; clear hd)
        go_ret
        exact ⟨by rw [HR.out]; rfl, HD.out.trans HD1.out⟩
      rw [decide_eq_true h1] at hm
      rw [if_pos h1]
      have hb := shareK_le hw h1.up h1.1 x i
      have hsu := shareK_succ l x i hlt
      have hwa : widthA l (i : Int) = widthF l i := by unfold widthA; rw [if_pos ⟨h1, by omega, by omega⟩, Int.toNat_natCast]
      have hwd : 0 ≤ widthF l i ∧ widthF l i ≤ 4294967296 := by
        unfold widthF
        rw [dif_pos hlt]
        have := wd_in l[i].f (nx l i)
        omega
      have HWD := Lib.hid fun (wx : World) (hx : AsAt wx a cap l) => rwidth_any a cap l i wx hx hw
      rw [hwa] at HWD
      have HM := Lib.hid h1
      have HGET := Lib.hid fun (wx : World) (hx : AsAt wx a cap l) => AsAt.get hx i hlt
      clear hwa h1 hi0
      by_cases hs : l[i].s = x
      · rw [if_pos hs] at hsu
        have HS := Lib.hid hsu
        have es : (l[i].s == x) = true := by rw [beq_iff_eq]; exact hs
        clear hsu hs
        go_wp2_with (first | (go_at_call 13; refine hm.mono ?_; rintro e w1 ⟨rfl, hd⟩; have HD1 := Lib.hid hd; have HF2 := Lib.hid (HF1.out.below hd.below); obtain ⟨b, o, rfl, c0, c1⟩ := HGET.out _ HF2.out; clear hd) | (go_at_call 17; refine (HWD.out _ HF2.out).mono ?_; rintro e w2 ⟨rfl, hd⟩; have HD2 := Lib.hid hd; clear hd))
        go_roundg (l.length - (i + 1))
        case measure => omega
        case rel => exact ⟨i + 1, by omega, by go_num, by simp, by rw [if_pos HM.out, HS.out], .inr HM.out, (HD.out.trans HD1.out).trans HD2.out⟩
      · rw [if_neg hs, Int.add_zero] at hsu
        have HS := Lib.hid hsu
        have es : (l[i].s == x) = false := by rw [beq_eq_false_iff_ne]; exact hs
        clear hsu hs
        go_wp2_with (first | (go_at_call 13; refine hm.mono ?_; rintro e w1 ⟨rfl, hd⟩; have HD1 := Lib.hid hd; have HF2 := Lib.hid (HF1.out.below hd.below); obtain ⟨b, o, rfl, c0, c1⟩ := HGET.out _ HF2.out; clear hd))
        go_roundg (l.length - (i + 1))
        case measure => omega
        case rel => exact ⟨i + 1, by omega, by go_num, by simp, by rw [if_pos HM.out, HS.out], .inr HM.out, HD.out.trans HD1.out⟩
    · obtain rfl : i = l.length := by omega
      have HR : Hid ((if May l then shareK l x l.length else 0) = shareA l x) := Lib.hid (by unfold shareA; rw [shareK_all])
      rw [HR.out]
      clear hm hi0
      go_wp2_with fail
      go_ret
      exact ⟨rfl, HD.out⟩

end Go.Proofs.YtphamgnafhmelaaDoor.Rg
