/-
  The program's shards compared: slices.Equal of messages, held ones, marks; shard.Same, walked.
-/
import Derived.Test.YthohjcfpobeplaaShEq
import Derived.Test.YthohjcfpobeplaaRgMemG
import Derived.Test.YthohjcfpobeplaaShTold
import Derived.Deep.LoopGhost
namespace Go.Proofs.Ythohjcfpobeplaa.Sh
open Go.RowKit Rg
set_option linter.unusedVariables false
set_option linter.unusedSimpArgs false

def eqRel {α : Type} (w : World) (l m : List α) (n : Nat) (v : Value) (wr : World) : Prop :=
  ∃ i : Nat, i ≤ l.length ∧ l.take i = m.take i ∧ v = .int .i64 i ∧ n = l.length - i ∧ Drew w wr
theorem eq_more {α : Type} {l m : List α} {i : Nat} (h : l.take i = m.take i) (hi : i < l.length) (hj : i < m.length) (he : l[i] = m[i]) : l.take (i + 1) = m.take (i + 1) := by
  rw [List.take_succ_eq_append_getElem hi, List.take_succ_eq_append_getElem hj, h, he]
theorem eq_not {α : Type} [DecidableEq α] {l m : List α} {i : Nat} (hi : i < l.length) (hj : i < m.length) (he : ¬ l[i] = m[i]) : decide (l = m) = false := by
  rw [decide_eq_false_iff_not]
  intro h
  subst h
  exact he rfl
theorem eq_all {α : Type} [DecidableEq α] {l m : List α} (hlen : l.length = m.length) (h : l.take l.length = m.take l.length) : decide (l = m) = true := by
  rw [decide_eq_true_eq]
  rw [List.take_length, hlen, List.take_length] at h
  exact h

set_option maxHeartbeats 1000000 in
theorem mg_eqs (a b : Option Addr) (ca cb : Nat) (l m : List Mg) (w : World) (hl : MgsAt w a ca l) (hm : MgsAt w b cb m) :
    Calls Try.prog 85 #[.slice a l.length ca, .slice b m.length cb] w fun e w' => e = .returned (.bool (decide (l = m))) ∧ Drew w w' := by
  have hcap := hl.max
  have hlen := hl.len
  unfold maxLen at hcap
  by_cases he : l.length = m.length
  case neg =>
    have HR : Hid (decide (l = m) = false) := Lib.hid (by rw [decide_eq_false_iff_not]; intro h; subst h; exact he rfl)
    have e1 : ((l.length : Int) != (m.length : Int)) = true := by rw [bne_iff_ne]; omega
    clear hl hm he
    go_enter Try.func85, Try.ntmps85
    go_wp2_with fail
    go_ret
    exact ⟨by rw [HR.out]; rfl, Drew.refl _⟩
  have e1 : ((l.length : Int) != (m.length : Int)) = false := by rw [bne_eq_false_iff_eq]; omega
  have HL := Lib.hid hl
  have HM := Lib.hid hm
  have HE := Lib.hid he
  clear hl hm he
  go_enter Try.func85, Try.ntmps85
  go_wp2_with fail
  go_loopg [13] l.length (eqRel w l m)
  case atStart => exact ⟨0, Nat.zero_le _, rfl, rfl, rfl, Drew.refl _⟩
  case round =>
    obtain ⟨i, hi, ht, rfl, rfl, hd⟩ := hrel
    have HT := Lib.hid ht
    have HD := Lib.hid hd
    have HL1 := Lib.hid (HL.out.below hd.below)
    have HM1 := Lib.hid (HM.out.below hd.below)
    clear ht hd
    by_cases hlt : i < l.length
    · have hltm : i < m.length := by have := HE.out; omega
      have hlti : (i : Int) < (l.length : Int) := by omega
      have hltj : (i : Int) < (m.length : Int) := by omega
      have h0i : (0 : Int) ≤ (i : Int) := by omega
      obtain ⟨b1, o1, rfl, c0, c1, c2, c3, c4⟩ := MgsAt.get HL1.out i hlt
      obtain ⟨b2, o2, rfl, d0, d1, d2, d3, d4⟩ := MgsAt.get HM1.out i hltm
      by_cases hq : l[i] = m[i]
      · have hn := fun wx => mg_neq l[i] m[i] true (decide_eq_true hq) wx
        have HT2 := Lib.hid (eq_more HT.out hlt hltm hq)
        clear hq
        go_wp2_with fail
        go_quiet (fail)
        go_wp2_with fail
        go_roundg (l.length - (i + 1))
        case measure => omega
        case rel => exact ⟨i + 1, by omega, HT2.out, by go_num, by simp, HD.out.more _⟩
      · have hn := fun wx => mg_neq l[i] m[i] false (decide_eq_false hq) wx
        have HR := Lib.hid (eq_not hlt hltm hq)
        clear hq
        go_wp2_with fail
        go_quiet (fail)
        go_wp2_with fail
        go_ret
        exact ⟨by rw [HR.out]; rfl, HD.out.more _⟩
    · obtain rfl : i = l.length := by omega
      have HR := Lib.hid (eq_all HE.out HT.out)
      go_wp2_with fail
      go_ret
      exact ⟨by rw [HR.out]; rfl, HD.out⟩

set_option maxHeartbeats 1000000 in
theorem hd_eqs (a b : Option Addr) (ca cb : Nat) (l m : List Hd) (w : World) (hl : HdsAt w a ca l) (hm : HdsAt w b cb m) :
    Calls Try.prog 86 #[.slice a l.length ca, .slice b m.length cb] w fun e w' => e = .returned (.bool (decide (l = m))) ∧ Drew w w' := by
  have hcap := hl.max
  have hlen := hl.len
  unfold maxLen at hcap
  by_cases he : l.length = m.length
  case neg =>
    have HR : Hid (decide (l = m) = false) := Lib.hid (by rw [decide_eq_false_iff_not]; intro h; subst h; exact he rfl)
    have e1 : ((l.length : Int) != (m.length : Int)) = true := by rw [bne_iff_ne]; omega
    clear hl hm he
    go_enter Try.func86, Try.ntmps86
    go_wp2_with fail
    go_ret
    exact ⟨by rw [HR.out]; rfl, Drew.refl _⟩
  have e1 : ((l.length : Int) != (m.length : Int)) = false := by rw [bne_eq_false_iff_eq]; omega
  have HL := Lib.hid hl
  have HM := Lib.hid hm
  have HE := Lib.hid he
  clear hl hm he
  go_enter Try.func86, Try.ntmps86
  go_wp2_with fail
  go_loopg [13] l.length (eqRel w l m)
  case atStart => exact ⟨0, Nat.zero_le _, rfl, rfl, rfl, Drew.refl _⟩
  case round =>
    obtain ⟨i, hi, ht, rfl, rfl, hd⟩ := hrel
    have HT := Lib.hid ht
    have HD := Lib.hid hd
    have HL1 := Lib.hid (HL.out.below hd.below)
    have HM1 := Lib.hid (HM.out.below hd.below)
    clear ht hd
    by_cases hlt : i < l.length
    · have hltm : i < m.length := by have := HE.out; omega
      have hlti : (i : Int) < (l.length : Int) := by omega
      have hltj : (i : Int) < (m.length : Int) := by omega
      have h0i : (0 : Int) ≤ (i : Int) := by omega
      obtain ⟨b1, o1, rfl, c0, c1, c2, c3, c4, c5⟩ := HdsAt.get HL1.out i hlt
      obtain ⟨b2, o2, rfl, d0, d1, d2, d3, d4, d5⟩ := HdsAt.get HM1.out i hltm
      by_cases hq : l[i] = m[i]
      · have hn := fun wx => hd_neq l[i] m[i] true (decide_eq_true hq) wx
        have HT2 := Lib.hid (eq_more HT.out hlt hltm hq)
        clear hq
        go_wp2_with fail
        go_quiet (fail)
        go_wp2_with fail
        go_roundg (l.length - (i + 1))
        case measure => omega
        case rel => exact ⟨i + 1, by omega, HT2.out, by go_num, by simp, HD.out.more _⟩
      · have hn := fun wx => hd_neq l[i] m[i] false (decide_eq_false hq) wx
        have HR := Lib.hid (eq_not hlt hltm hq)
        clear hq
        go_wp2_with fail
        go_quiet (fail)
        go_wp2_with fail
        go_ret
        exact ⟨by rw [HR.out]; rfl, HD.out.more _⟩
    · obtain rfl : i = l.length := by omega
      have HR := Lib.hid (eq_all HE.out HT.out)
      go_wp2_with fail
      go_ret
      exact ⟨by rw [HR.out]; rfl, HD.out⟩

set_option maxHeartbeats 1000000 in
theorem mk_eqs (a b : Option Addr) (ca cb : Nat) (l m : List Mk) (w : World) (hl : MksAt w a ca l) (hm : MksAt w b cb m) :
    Calls Try.prog 87 #[.slice a l.length ca, .slice b m.length cb] w fun e w' => e = .returned (.bool (decide (l = m))) ∧ Drew w w' := by
  have hcap := hl.max
  have hlen := hl.len
  unfold maxLen at hcap
  by_cases he : l.length = m.length
  case neg =>
    have HR : Hid (decide (l = m) = false) := Lib.hid (by rw [decide_eq_false_iff_not]; intro h; subst h; exact he rfl)
    have e1 : ((l.length : Int) != (m.length : Int)) = true := by rw [bne_iff_ne]; omega
    clear hl hm he
    go_enter Try.func87, Try.ntmps87
    go_wp2_with fail
    go_ret
    exact ⟨by rw [HR.out]; rfl, Drew.refl _⟩
  have e1 : ((l.length : Int) != (m.length : Int)) = false := by rw [bne_eq_false_iff_eq]; omega
  have HL := Lib.hid hl
  have HM := Lib.hid hm
  have HE := Lib.hid he
  clear hl hm he
  go_enter Try.func87, Try.ntmps87
  go_wp2_with fail
  go_loopg [13] l.length (eqRel w l m)
  case atStart => exact ⟨0, Nat.zero_le _, rfl, rfl, rfl, Drew.refl _⟩
  case round =>
    obtain ⟨i, hi, ht, rfl, rfl, hd⟩ := hrel
    have HT := Lib.hid ht
    have HD := Lib.hid hd
    have HL1 := Lib.hid (HL.out.below hd.below)
    have HM1 := Lib.hid (HM.out.below hd.below)
    clear ht hd
    by_cases hlt : i < l.length
    · have hltm : i < m.length := by have := HE.out; omega
      have hlti : (i : Int) < (l.length : Int) := by omega
      have hltj : (i : Int) < (m.length : Int) := by omega
      have h0i : (0 : Int) ≤ (i : Int) := by omega
      obtain ⟨b1, o1, rfl, c0, c1, c2⟩ := MksAt.get HL1.out i hlt
      obtain ⟨b2, o2, rfl, d0, d1, d2⟩ := MksAt.get HM1.out i hltm
      by_cases hq : l[i] = m[i]
      · have hn := fun wx => mk_neq l[i] m[i] true (decide_eq_true hq) wx
        have HT2 := Lib.hid (eq_more HT.out hlt hltm hq)
        clear hq
        go_wp2_with fail
        go_quiet (fail)
        go_wp2_with fail
        go_roundg (l.length - (i + 1))
        case measure => omega
        case rel => exact ⟨i + 1, by omega, HT2.out, by go_num, by simp, HD.out.more _⟩
      · have hn := fun wx => mk_neq l[i] m[i] false (decide_eq_false hq) wx
        have HR := Lib.hid (eq_not hlt hltm hq)
        clear hq
        go_wp2_with fail
        go_quiet (fail)
        go_wp2_with fail
        go_ret
        exact ⟨by rw [HR.out]; rfl, HD.out.more _⟩
    · obtain rfl : i = l.length := by omega
      have HR := Lib.hid (eq_all HE.out HT.out)
      go_wp2_with fail
      go_ret
      exact ⟨by rw [HR.out]; rfl, HD.out⟩

theorem sd_ne {s t : Sd} (h : ¬ (s.fr = t.fr ∧ s.nx = t.nx ∧ s.rd = t.rd ∧ s.hd = t.hd ∧ s.ms = t.ms)) : decide (s = t) = false := by
  rw [decide_eq_false_iff_not]
  rintro rfl
  exact h ⟨rfl, rfl, rfl, rfl, rfl⟩
theorem sd_eq {s t : Sd} (h1 : s.fr = t.fr) (h2 : s.nx = t.nx) (h3 : s.rd = t.rd) (h4 : s.hd = t.hd) (h5 : s.ms = t.ms) : decide (s = t) = true := by
  rw [decide_eq_true_eq]
  cases s; cases t
  simp_all

set_option maxHeartbeats 2000000 in
theorem psame_any (s t : Sd) (ra : Option Addr) (rc : Nat) (ha : Option Addr) (hc : Nat) (ma : Option Addr) (mc : Nat) (ra2 : Option Addr) (rc2 : Nat) (ha2 : Option Addr) (hc2 : Nat) (ma2 : Option Addr) (mc2 : Nat) (w : World) (hs : SdAt w ra rc ha hc ma mc s) (ht : SdAt w ra2 rc2 ha2 hc2 ma2 mc2 t) :
    Calls Try.prog 37 #[.agg #[.bool s.fr, .int .i64 s.nx, .slice ra s.rd.length rc, .slice ha s.hd.length hc, .slice ma s.ms.length mc], .agg #[.bool t.fr, .int .i64 t.nx, .slice ra2 t.rd.length rc2, .slice ha2 t.hd.length hc2, .slice ma2 t.ms.length mc2]] w fun e w' => e = .returned (.bool (decide (s = t))) ∧ Below w.heap.size w w' := by
  obtain ⟨hx, hy, hb0, hWs⟩ := two_box (w := w) (.cells #[.bool s.fr, .int .i64 s.nx, .slice ra s.rd.length rc, .slice ha s.hd.length hc, .slice ma s.ms.length mc] 26) (.cells #[.bool t.fr, .int .i64 t.nx, .slice ra2 t.rd.length rc2, .slice ha2 t.hd.length hc2, .slice ma2 t.ms.length mc2] 26)
  obtain ⟨W, hW⟩ : ∃ W, W = (w.alloc (.cells #[.bool s.fr, .int .i64 s.nx, .slice ra s.rd.length rc, .slice ha s.hd.length hc, .slice ma s.ms.length mc] 26)).alloc (.cells #[.bool t.fr, .int .i64 t.nx, .slice ra2 t.rd.length rc2, .slice ha2 t.hd.length hc2, .slice ma2 t.ms.length mc2] 26) := ⟨_, rfl⟩
  rw [← hW] at hx hy hb0 hWs
  have HS1 := Lib.hid (hs.below ra rc ha hc ma mc hb0)
  have HT1 := Lib.hid (ht.below ra2 rc2 ha2 hc2 ma2 mc2 hb0)
  have HBX := Lib.hid (fun (wx : World) (h : Below W.heap.size W wx) => And.intro (box5 (box_bl hx h)).1 (box5 (box_bl hy h)).1)
  have HB0 := Lib.hid hb0
  have HW := Lib.hid hW
  clear hs ht hx hy hb0 hW
  have HM := Lib.hid fun wx (h : Below W.heap.size W wx) => mg_eqs ra ra2 rc rc2 s.rd t.rd wx (HS1.out.below _ _ _ _ _ _ h).rd (HT1.out.below _ _ _ _ _ _ h).rd
  have HH := Lib.hid fun wx (h : Below W.heap.size W wx) => hd_eqs ha ha2 hc hc2 s.hd t.hd wx (HS1.out.below _ _ _ _ _ _ h).hd (HT1.out.below _ _ _ _ _ _ h).hd
  have HK := Lib.hid fun wx (h : Below W.heap.size W wx) => mk_eqs ma ma2 mc mc2 s.ms t.ms wx (HS1.out.below _ _ _ _ _ _ h).ms (HT1.out.below _ _ _ _ _ _ h).ms
  obtain ⟨⟨x0, x1, x2, x3, x4⟩, ⟨y0, y1, y2, y3, y4⟩⟩ := HBX.out W (Below.refl _ _)
  rw [HW.out] at x0 x1 x2 x3 x4 y0 y1 y2 y3 y4
  by_cases q1 : s.fr = t.fr
  case neg =>
    have b0 : (s.fr == t.fr) = false := by rw [beq_eq_false_iff_ne]; exact q1
    have HR := Lib.hid (sd_ne (s := s) (t := t) (fun h => q1 h.1))
    have HD0 : Hid (Below W.heap.size W ((w.alloc (.cells #[.bool s.fr, .int .i64 s.nx, .slice ra s.rd.length rc, .slice ha s.hd.length hc, .slice ma s.ms.length mc] 26)).alloc (.cells #[.bool t.fr, .int .i64 t.nx, .slice ra2 t.rd.length rc2, .slice ha2 t.hd.length hc2, .slice ma2 t.ms.length mc2] 26))) := Lib.hid (by rw [← HW.out]; exact Below.refl _ _)
    clear q1
    go_enter Try.func37, Try.ntmps37
    go_wp2_with fail
    go_ret
    exact ⟨by rw [HR.out]; rfl, HB0.out.trans (HD0.out.mono HB0.out.size)⟩
  by_cases q2 : s.nx = t.nx
  case neg =>
    have b0 : (s.fr == t.fr) = true := by rw [beq_iff_eq]; exact q1
    have b1 : (s.nx == t.nx) = false := by rw [beq_eq_false_iff_ne]; exact q2
    have HR := Lib.hid (sd_ne (s := s) (t := t) (fun h => q2 h.2.1))
    have HD0 : Hid (Below W.heap.size W ((w.alloc (.cells #[.bool s.fr, .int .i64 s.nx, .slice ra s.rd.length rc, .slice ha s.hd.length hc, .slice ma s.ms.length mc] 26)).alloc (.cells #[.bool t.fr, .int .i64 t.nx, .slice ra2 t.rd.length rc2, .slice ha2 t.hd.length hc2, .slice ma2 t.ms.length mc2] 26))) := Lib.hid (by rw [← HW.out]; exact Below.refl _ _)
    clear q1 q2
    go_enter Try.func37, Try.ntmps37
    go_wp2_with fail
    go_ret
    exact ⟨by rw [HR.out]; rfl, HB0.out.trans (HD0.out.mono HB0.out.size)⟩
  by_cases q3 : s.rd = t.rd
  case neg =>
    have b0 : (s.fr == t.fr) = true := by rw [beq_iff_eq]; exact q1
    have b1 : (s.nx == t.nx) = true := by rw [beq_iff_eq]; exact q2
    have D2 : Hid (decide (s.rd = t.rd) = false) := Lib.hid (decide_eq_false q3)
    have HR := Lib.hid (sd_ne (s := s) (t := t) (fun h => q3 h.2.2.1))
    have HD0 : Hid (Below W.heap.size W ((w.alloc (.cells #[.bool s.fr, .int .i64 s.nx, .slice ra s.rd.length rc, .slice ha s.hd.length hc, .slice ma s.ms.length mc] 26)).alloc (.cells #[.bool t.fr, .int .i64 t.nx, .slice ra2 t.rd.length rc2, .slice ha2 t.hd.length hc2, .slice ma2 t.ms.length mc2] 26))) := Lib.hid (by rw [← HW.out]; exact Below.refl _ _)
    clear q1 q2 q3
    go_enter Try.func37, Try.ntmps37
    go_wp2_with (first | (go_at_call 85; refine (HM.out _ HD0.out).mono ?_; rintro e w1 ⟨rfl, hd⟩; have HD1 := Lib.hid (HD0.out.trans (hd.below.mono HD0.out.size)); clear hd; rw [D2.out]; obtain ⟨⟨x0, x1, x2, x3, x4⟩, ⟨y0, y1, y2, y3, y4⟩⟩ := HBX.out _ HD1.out))
    go_ret
    exact ⟨by rw [HR.out]; rfl, HB0.out.trans (HD1.out.mono HB0.out.size)⟩
  by_cases q4 : s.hd = t.hd
  case neg =>
    have b0 : (s.fr == t.fr) = true := by rw [beq_iff_eq]; exact q1
    have b1 : (s.nx == t.nx) = true := by rw [beq_iff_eq]; exact q2
    have D2 : Hid (decide (s.rd = t.rd) = true) := Lib.hid (decide_eq_true q3)
    have D3 : Hid (decide (s.hd = t.hd) = false) := Lib.hid (decide_eq_false q4)
    have HR := Lib.hid (sd_ne (s := s) (t := t) (fun h => q4 h.2.2.2.1))
    have HD0 : Hid (Below W.heap.size W ((w.alloc (.cells #[.bool s.fr, .int .i64 s.nx, .slice ra s.rd.length rc, .slice ha s.hd.length hc, .slice ma s.ms.length mc] 26)).alloc (.cells #[.bool t.fr, .int .i64 t.nx, .slice ra2 t.rd.length rc2, .slice ha2 t.hd.length hc2, .slice ma2 t.ms.length mc2] 26))) := Lib.hid (by rw [← HW.out]; exact Below.refl _ _)
    clear q1 q2 q3 q4
    go_enter Try.func37, Try.ntmps37
    go_wp2_with (first | (go_at_call 85; refine (HM.out _ HD0.out).mono ?_; rintro e w1 ⟨rfl, hd⟩; have HD1 := Lib.hid (HD0.out.trans (hd.below.mono HD0.out.size)); clear hd; rw [D2.out]; obtain ⟨⟨x0, x1, x2, x3, x4⟩, ⟨y0, y1, y2, y3, y4⟩⟩ := HBX.out _ HD1.out) | (go_at_call 86; refine (HH.out _ HD1.out).mono ?_; rintro e w2 ⟨rfl, hd⟩; have HD2 := Lib.hid (HD1.out.trans (hd.below.mono HD1.out.size)); clear hd; rw [D3.out]; obtain ⟨⟨x0, x1, x2, x3, x4⟩, ⟨y0, y1, y2, y3, y4⟩⟩ := HBX.out _ HD2.out))
    go_ret
    exact ⟨by rw [HR.out]; rfl, HB0.out.trans (HD2.out.mono HB0.out.size)⟩
  by_cases q5 : s.ms = t.ms
  case neg =>
    have b0 : (s.fr == t.fr) = true := by rw [beq_iff_eq]; exact q1
    have b1 : (s.nx == t.nx) = true := by rw [beq_iff_eq]; exact q2
    have D2 : Hid (decide (s.rd = t.rd) = true) := Lib.hid (decide_eq_true q3)
    have D3 : Hid (decide (s.hd = t.hd) = true) := Lib.hid (decide_eq_true q4)
    have D4 : Hid (decide (s.ms = t.ms) = false) := Lib.hid (decide_eq_false q5)
    have HR := Lib.hid (sd_ne (s := s) (t := t) (fun h => q5 h.2.2.2.2))
    have HD0 : Hid (Below W.heap.size W ((w.alloc (.cells #[.bool s.fr, .int .i64 s.nx, .slice ra s.rd.length rc, .slice ha s.hd.length hc, .slice ma s.ms.length mc] 26)).alloc (.cells #[.bool t.fr, .int .i64 t.nx, .slice ra2 t.rd.length rc2, .slice ha2 t.hd.length hc2, .slice ma2 t.ms.length mc2] 26))) := Lib.hid (by rw [← HW.out]; exact Below.refl _ _)
    clear q1 q2 q3 q4 q5
    go_enter Try.func37, Try.ntmps37
    go_wp2_with (first | (go_at_call 85; refine (HM.out _ HD0.out).mono ?_; rintro e w1 ⟨rfl, hd⟩; have HD1 := Lib.hid (HD0.out.trans (hd.below.mono HD0.out.size)); clear hd; rw [D2.out]; obtain ⟨⟨x0, x1, x2, x3, x4⟩, ⟨y0, y1, y2, y3, y4⟩⟩ := HBX.out _ HD1.out) | (go_at_call 86; refine (HH.out _ HD1.out).mono ?_; rintro e w2 ⟨rfl, hd⟩; have HD2 := Lib.hid (HD1.out.trans (hd.below.mono HD1.out.size)); clear hd; rw [D3.out]; obtain ⟨⟨x0, x1, x2, x3, x4⟩, ⟨y0, y1, y2, y3, y4⟩⟩ := HBX.out _ HD2.out) | (go_at_call 87; refine (HK.out _ HD2.out).mono ?_; rintro e w3 ⟨rfl, hd⟩; have HD3 := Lib.hid (HD2.out.trans (hd.below.mono HD2.out.size)); clear hd; rw [D4.out]; obtain ⟨⟨x0, x1, x2, x3, x4⟩, ⟨y0, y1, y2, y3, y4⟩⟩ := HBX.out _ HD3.out))
    go_ret
    exact ⟨by rw [HR.out]; rfl, HB0.out.trans (HD3.out.mono HB0.out.size)⟩
  have b0 : (s.fr == t.fr) = true := by rw [beq_iff_eq]; exact q1
  have b1 : (s.nx == t.nx) = true := by rw [beq_iff_eq]; exact q2
  have D2 : Hid (decide (s.rd = t.rd) = true) := Lib.hid (decide_eq_true q3)
  have D3 : Hid (decide (s.hd = t.hd) = true) := Lib.hid (decide_eq_true q4)
  have D4 : Hid (decide (s.ms = t.ms) = true) := Lib.hid (decide_eq_true q5)
  have HR := Lib.hid (sd_eq q1 q2 q3 q4 q5)
  have HD0 : Hid (Below W.heap.size W ((w.alloc (.cells #[.bool s.fr, .int .i64 s.nx, .slice ra s.rd.length rc, .slice ha s.hd.length hc, .slice ma s.ms.length mc] 26)).alloc (.cells #[.bool t.fr, .int .i64 t.nx, .slice ra2 t.rd.length rc2, .slice ha2 t.hd.length hc2, .slice ma2 t.ms.length mc2] 26))) := Lib.hid (by rw [← HW.out]; exact Below.refl _ _)
  clear q1 q2 q3 q4 q5
  go_enter Try.func37, Try.ntmps37
  go_wp2_with (first | (go_at_call 85; refine (HM.out _ HD0.out).mono ?_; rintro e w1 ⟨rfl, hd⟩; have HD1 := Lib.hid (HD0.out.trans (hd.below.mono HD0.out.size)); clear hd; rw [D2.out]; obtain ⟨⟨x0, x1, x2, x3, x4⟩, ⟨y0, y1, y2, y3, y4⟩⟩ := HBX.out _ HD1.out) | (go_at_call 86; refine (HH.out _ HD1.out).mono ?_; rintro e w2 ⟨rfl, hd⟩; have HD2 := Lib.hid (HD1.out.trans (hd.below.mono HD1.out.size)); clear hd; rw [D3.out]; obtain ⟨⟨x0, x1, x2, x3, x4⟩, ⟨y0, y1, y2, y3, y4⟩⟩ := HBX.out _ HD2.out) | (go_at_call 87; refine (HK.out _ HD2.out).mono ?_; rintro e w3 ⟨rfl, hd⟩; have HD3 := Lib.hid (HD2.out.trans (hd.below.mono HD2.out.size)); clear hd; rw [D4.out]; obtain ⟨⟨x0, x1, x2, x3, x4⟩, ⟨y0, y1, y2, y3, y4⟩⟩ := HBX.out _ HD3.out))
  go_ret
  exact ⟨by rw [HR.out]; rfl, HB0.out.trans (HD3.out.mono HB0.out.size)⟩

end Go.Proofs.Ythohjcfpobeplaa.Sh
