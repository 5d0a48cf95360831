/-
  mayTable, MayTable, May.
-/
import Derived.Test.YtpibbgencojbgaaMay
import Derived.Deep.RegionHeld3
import Derived.Deep.QuietTactic
import Derived.BigQuiet
import Derived.IntWalk
namespace Go.Proofs.Ytpibbgencojbgaa
open Go.RowKit
set_option linter.unusedVariables false

theorem name_yes {a : Option Addr} {cap : Nat} {l : List It} {k : Nat} (hk : k ≤ l.length) (nm : ByteArray) (hs : nm.size ≤ maxLen) (w : World) (hl : Tb w a cap l) (hy : NameOk (l.take k) nm) :
    Calls Try.prog 70 #[.string nm, .slice a k cap] w fun e w' => e = .returned (.bool true) ∧ w = w' := by
  have h := name_any nm hs w (hl.take hk)
  rw [List.length_take, Nat.min_eq_left hk] at h
  refine h.mono ?_
  rintro e w' ⟨r, hr, rfl, rfl⟩
  exact ⟨by rw [hr.2 hy], rfl⟩
theorem name_no {a : Option Addr} {cap : Nat} {l : List It} {k : Nat} (hk : k ≤ l.length) (nm : ByteArray) (hs : nm.size ≤ maxLen) (w : World) (hl : Tb w a cap l) (hy : ¬ NameOk (l.take k) nm) :
    Calls Try.prog 70 #[.string nm, .slice a k cap] w fun e w' => e = .returned (.bool false) ∧ w' = w := by
  have h := name_any nm hs w (hl.take hk)
  rw [List.length_take, Nat.min_eq_left hk] at h
  refine h.mono ?_
  rintro e w' ⟨r, hr, rfl, rfl⟩
  cases r
  · exact ⟨rfl, rfl⟩
  · exact absurd (hr.1 rfl) hy

theorem Below.drewN {B : Nat} {a w : World} (h : Below B a w) (n : Nat) : Below B a (w.drewN n) := ⟨h.os, h.tape, h.output, h.size, h.block⟩

def mayRel (a : Option Addr) (cap : Nat) (l : List It) (d : Nat) (w : World) (n : Nat) (a' : Act) (w' : World) : Prop :=
  Below w.heap.size w w' ∧ ∃ (k : Nat) (u6 u7 u8 u9 u10 u11 u12 u13 u14 u15 u16 u17 u18 u19 u20 u21 u22 u23 u24 u25 u26 u27 u28 u29 u30 u31 u32 u33 u34 u35 u36 u37 u38 u39 : Value), a' = { tmps := #[.slice a l.length cap, .int .i64 d, undef, undef, .bool false, .int .i64 k, u6, u7, u8, u9, u10, u11, u12, u13, u14, u15, u16, u17, u18, u19, u20, u21, u22, u23, u24, u25, u26, u27, u28, u29, u30, u31, u32, u33, u34, u35, u36, u37, u38, u39], defers := [] } ∧ k ≤ l.length ∧ n = l.length - k ∧ Upto (d + 1) k l

set_option maxRecDepth 100000 in
set_option maxHeartbeats 4000000 in
theorem mayTab_any : ∀ (n : Nat) {a : Option Addr} {cap : Nat} {l : List It} (_ : weigh l ≤ n) (d : Nat) (_ : d ≤ 5) (w : World) (_ : Tb w a cap l),
    Calls Try.prog 48 #[.slice a l.length cap, .int .i64 d] w (SaysB (MayT d l) w)
  | 0, a, cap, l, h, _, _, _, _ => by have := weigh_pos l; omega
  | n + 1, a, cap, l, hn, d, hd, w, hl => by
    have hlen := hl.len
    unfold maxLen at hlen
    by_cases h4 : 4 < d
    · go_enter Try.func48, Try.ntmps48
      go_wp2
      go_step3
      go_wp2
      go_ret
      exact ⟨false, ⟨(fun h => by cases h), fun h => absurd h.1 (by omega)⟩, rfl, Below.refl _ _⟩
    by_cases h32 : 32 < (l.length : Int)
    · go_enter Try.func48, Try.ntmps48
      go_wp2
      go_step3
      go_wp2
      go_ret
      exact ⟨false, ⟨(fun h => by cases h), fun h => absurd h.2.1 (by omega)⟩, rfl, Below.refl _ _⟩
    go_enter Try.func48, Try.ntmps48
    go_wp2
    refine wp_scope_ghost 0 (mayRel a cap l d w) rfl ?_ ?_
    · intro H hb
      go_wp2
      go_step3
      rename_i hK
      refine hK _ _ (hb l.length _ _ ⟨Below.refl _ _, 0, ?_⟩)
      repeat apply Exists.intro
      exact ⟨rfl, Nat.zero_le _, rfl, upto_zero _ _⟩
    · rintro m a' w' ⟨hbel, k, u6, u7, u8, u9, u10, u11, u12, u13, u14, u15, u16, u17, u18, u19, u20, u21, u22, u23, u24, u25, u26, u27, u28, u29, u30, u31, u32, u33, u34, u35, u36, u37, u38, u39, rfl, hk, rfl, hup⟩ H hH
      by_cases hlt : k < l.length
      · obtain ⟨b, o, a1, cap1, rfl, _, hi, ht⟩ := (hl.below hbel).get hlt
        have hb := hi.c0
        have hc1 := hi.c1
        have hc2 := hi.c2
        have hc3 := hi.c3
        have hc4 := hi.c4
        have k0 : (0 : Int) ≤ (k : Int) := by omega
        have k1 : (k : Int) < (l.length : Int) := by omega
        have k2 : (k : Int) ≤ (cap : Int) := by omega
        by_cases hno : NameOk (l.take k) l[k].name
        · have HN := Lib.hid hno
          clear hno
          have HT := Lib.hid ht
          have HW := Lib.hid (weigh_mem (List.getElem_mem hlt))
          have hs1 : IntKind.i64.wrap ((d : Int) + 1) = ((d + 1 : Nat) : Int) := by rw [IntWalk.i64_in _ (by omega)]; omega
          clear ht
          have KS : ∀ wx, Below w'.heap.size w' wx → wx.cell? ⟨b, o + k * 5, none⟩ = some (.string l[k].name) ∧ wx.cell? ⟨b, o + k * 5 + 1, none⟩ = some (.int .i64 l[k].kind) ∧ wx.cell? ⟨b, o + k * 5 + 2, none⟩ = some (.int .i64 l[k].n) ∧ wx.cell? ⟨b, o + k * 5 + 3, none⟩ = some (.string l[k].s) ∧ wx.cell? ⟨b, o + k * 5 + 4, none⟩ = some (.slice a1 l[k].sub.length cap1) ∧ Below w'.heap.size w' wx := by
            intro wx hx
            have hbk := lt_of_cell hb
            exact ⟨(hx.cell hbk).trans hb, (hx.cell hbk).trans hc1, (hx.cell hbk).trans hc2, (hx.cell hbk).trans hc3, (hx.cell hbk).trans hc4, hx⟩
          have KH := Lib.hid KS
          have HI := Lib.hid hi
          have HL := Lib.hid (hl.below hbel)
          clear KS hi
          go_wp2_with fail
          go_region_held3 (fun wx => wx.cell? ⟨b, o + k * 5, none⟩ = some (.string l[k].name) ∧ wx.cell? ⟨b, o + k * 5 + 1, none⟩ = some (.int .i64 l[k].kind) ∧ wx.cell? ⟨b, o + k * 5 + 2, none⟩ = some (.int .i64 l[k].n) ∧ wx.cell? ⟨b, o + k * 5 + 3, none⟩ = some (.string l[k].s) ∧ wx.cell? ⟨b, o + k * 5 + 4, none⟩ = some (.slice a1 l[k].sub.length cap1) ∧ Below w'.heap.size w' wx)
            (first | exact KH.out _ (Below.refl _ _).drew | exact KH.out _ (by assumption))
            (first
              | (go_at_call 70; have hbx := (by assumption : _ ∧ _ ∧ _ ∧ _ ∧ _ ∧ Below _ _ _).2.2.2.2.2; refine (name_yes (by omega) _ HI.out.m0 _ (HL.out.below hbx) HN.out).mono ?_; rintro e w2 ⟨rfl, rfl⟩)
              | (go_at_call 49; have hbx := (by assumption : _ ∧ _ ∧ _ ∧ _ ∧ _ ∧ Below _ _ _).2.2.2.2.2; refine (may_any (d + 1) l[k] HI.out.k2 a1 cap1 HI.out.m3 (Nat.le_trans (HT.out.len.1) HT.out.len.2) _ (fun w1 hw1 => mayTab_any n (by have := HW.out; omega) (d + 1) (by omega) w1 ((HT.out.below hbx).below hw1))).mono ?_; rintro e w2 ⟨r, hr, rfl, hb2⟩; have hbz := hbx.trans (hb2.mono hbx.size); clear hb2 hbx))
          clear hs1
          have HM := Lib.hid (hbel.trans (hbz.mono hbel.size))
          rename_i hHeld
          clear hHeld hbz hbx
          cases r
          · replace hr : ¬ It.May (d + 1) l[k] := by simpa using hr
            go_wp2_with fail
            simp only [Exit.jump]
            go_ret
            refine ⟨false, ⟨(fun h => by cases h), fun h => ?_⟩, rfl, HM.out⟩
            rw [mayT_upto] at h
            exact absurd ((upto_succ hlt).1 (upto_mono h.2.2 (by omega))).2.2 hr
          · replace hr : It.May (d + 1) l[k] := by simpa using hr
            have HR := Lib.hid hr
            clear hr
            go_wp2_with fail
            go_step3
            refine ⟨rfl, hH (l.length - (k + 1)) _ _ (by omega) ⟨HM.out, k + 1, ?_⟩⟩
            repeat apply Exists.intro
            exact ⟨rfl, by omega, rfl, (upto_succ hlt).2 ⟨hup, HN.out, HR.out⟩⟩
        · have HN := Lib.hid hno
          clear hno
          go_wp2_with fail
          go_quiet ((go_at_call 70; exact Calls.quiet_of_same (name_no (by omega) _ hi.m0 _ ((hl.below hbel).drewN _) HN.out)))
          go_wp2_with fail
          simp only [Exit.jump]
          go_ret
          refine ⟨false, ⟨(fun h => by cases h), fun h => ?_⟩, rfl, ?_⟩
          · rw [mayT_upto] at h
            exact absurd ((upto_succ hlt).1 (upto_mono h.2.2 (by omega))).2.1 HN.out
          · exact hbel.trans (Below.drewN (Below.refl _ _) _)
      · have hke : k = l.length := by omega
        go_wp2
        simp only [Exit.jump]
        go_ret
        refine ⟨true, ⟨fun _ => ?_, fun _ => rfl⟩, rfl, hbel⟩
        rw [mayT_upto, ← hke]
        exact ⟨by omega, by omega, hup⟩

set_option maxHeartbeats 1000000 in
theorem mayTable_any {a : Option Addr} {cap : Nat} {l : List It} (w : World) (hl : Tb w a cap l) :
    Calls Try.prog 22 #[.slice a l.length cap] w (SaysB (MayT 1 l) w) := by
  go_enter Try.func22, Try.ntmps22
  go_wp2_with fail
  refine (mayTab_any _ (Nat.le_refl _) 1 (by omega) _ hl).mono ?_
  rintro e w' ⟨r, hr, rfl, hb⟩
  have HR := Lib.hid hr
  clear hr
  go_wp2_with fail
  go_ret
  exact ⟨r, HR.out, rfl, hb⟩

end Go.Proofs.Ytpibbgencojbgaa
