/-
  Law BatchPlays, walked (printed by tools/gen_bplays.py).
-/
import Derived.Test.YthohjcfpobeplaaBtTwo
import Derived.Test.YthohjcfpobeplaaBtTold
import Derived.Test.YthohjcfpobeplaaShNext
import Derived.Test.YthohjcfpobeplaaShEq
import Derived.Deep.RegionHeld3
import Derived.Deep.LoopGhost
namespace Go.Proofs.Ythohjcfpobeplaa.Bt
open Go.RowKit Rg Sh Go.Sort
set_option linter.unusedVariables false
set_option linter.unusedSimpArgs false

theorem four (k : Int) : ∃ q : Nat, (k.tmod 4 + 4).tmod 4 = (q : Int) ∧ q < 4 ∧ -4 < k.tmod 4 ∧ k.tmod 4 < 4 := by
  have h1 : -4 < k.tmod 4 ∧ k.tmod 4 < 4 := by
    rcases Int.le_total 0 k with h | h
    · rw [Int.tmod_eq_emod_of_nonneg h]
      have := Int.emod_nonneg k (show (4 : Int) ≠ 0 by decide)
      have := Int.emod_lt_of_pos k (show (0 : Int) < 4 by decide)
      omega
    · obtain ⟨m, rfl⟩ : ∃ m, k = -m := ⟨-k, by omega⟩
      rw [Int.neg_tmod, Int.tmod_eq_emod_of_nonneg (by omega)]
      have := Int.emod_nonneg m (show (4 : Int) ≠ 0 by decide)
      have := Int.emod_lt_of_pos m (show (0 : Int) < 4 by decide)
      omega
  generalize k.tmod 4 = t at *
  have h2 : (t + 4).tmod 4 = (t + 4) % 4 := Int.tmod_eq_emod_of_nonneg (by omega)
  have := Int.emod_nonneg (t + 4) (show (4 : Int) ≠ 0 by decide)
  have := Int.emod_lt_of_pos (t + 4) (show (0 : Int) < 4 by decide)
  exact ⟨((t + 4) % 4).toNat, by omega, by omega, h1.1, h1.2⟩
def playsBRel (W : World) (g h : Nat) (l : List Cl) (m : Nat) (v7 : Value) (wr : World) : Prop :=
  ∃ (i : Nat) (t : Tx), i ≤ l.length ∧ m = l.length - i ∧ v7 = .int .i64 i ∧ PTw W wr g h t t
def cmpRel (V : World) (n : Nat) (m : Nat) (v : Value) (wr : World) : Prop := ∃ j : Nat, j ≤ n ∧ m = n - j ∧ v = .int .i64 j ∧ Drew V wr
theorem start_two (p : Int) {w w1 : World} {g : Nat} (h1 : TxAt w1 g (tx0 p) (.slice none 0 0) (.slice none 0 0)) (hb : Below w.heap.size w w1) (hg : w.heap.size ≤ g) :
    PTw w (w1.alloc (.cells #[.int .i64 p, .int .i64 0, .string ⟨#[]⟩, .bool false, .slice none 0 0, .slice none 0 0] 71)) g w1.heap.size (tx0 p) (tx0 p) :=
  ⟨⟨_, _, _, _, h1.below ((Below.refl _ _).alloc (Nat.le_refl _) _), ⟨heap_alloc_new _ _, OwnE.nil _ _ _ _ _, OwnE.nil _ _ _ _ _⟩, (fun j h => by cases h), (fun j h => by cases h)⟩, hb.alloc hb.size _, ⟨hg, hb.size⟩, ⟨may_tx0 p, may_tx0 p⟩⟩
set_option maxRecDepth 100000 in
set_option maxHeartbeats 16000000 in
theorem plays_law (p : Int) (a : Option Addr) (cap : Nat) (l : List Cl) (w : World) (hf : ClsAt w a cap l) :
    Calls Try.prog 11 #[.int .i64 p, .slice a l.length cap] w fun e w' => e = .returned (.bool true) ∧ Below w.heap.size w w' := by
  have HT := Lib.hid told_any
  have HF := Lib.hid hf
  have hcap := hf.max
  have hlen := hf.len
  unfold maxLen at hcap
  clear hf
  by_cases hc : 0 ≤ p ∧ p < 4
  case neg =>
    have HN := Lib.hid (news_bad p hc w)
    have hc2 : p < 0 ∨ (¬ p < 0 ∧ 4 ≤ p) := by omega
    clear hc
    rcases hc2 with hc2 | ⟨hc2, hc3⟩
    all_goals
      go_enter Try.func11, Try.ntmps11
      go_wp2_with (first | (go_at_call 46; refine HN.out.mono ?_; rintro e w1 ⟨rfl, rfl⟩) | (go_at_call 47; refine (HT.out _).mono ?_; rintro e w9 ⟨rfl, hb9⟩))
      go_ret
      exact ⟨rfl, hb9⟩
  have HN := Lib.hid (news_any p hc w)
  have hc2 : ¬ p < 0 := by omega
  have hc3 : ¬ 4 ≤ p := by omega
  clear hc
  go_enter Try.func11, Try.ntmps11
  by_cases hl : 60 < l.length
  case pos =>
    have hl2 : (60 : Int) < (l.length : Int) := by omega
    go_wp2_with (first | (go_at_call 46; refine HN.out.mono ?_; rintro e w1 ⟨rfl, -, hb1, -⟩) | (go_at_call 47; refine (HT.out _).mono ?_; rintro e w9 ⟨rfl, hb9⟩))
    go_ret
    exact ⟨rfl, hb1.trans (hb9.mono hb1.size)⟩
  have hl2 : ¬ (60 : Int) < (l.length : Int) := by omega
  go_wp2_with (go_at_call 46; refine HN.out.mono ?_; rintro e w1 ⟨rfl, ht1, hb1, -⟩; have HS := Lib.hid (start_two p ht1 hb1 (Nat.le_refl _)); clear ht1 hb1)
  obtain ⟨h, hh⟩ : ∃ h, h = w1.heap.size := ⟨_, rfl⟩
  obtain ⟨g, hg⟩ : ∃ g, g = w.heap.size := ⟨_, rfl⟩
  rw [← hh, ← hg] at HS
  rw [← hh, ← hg]
  go_loopg [7] l.length (playsBRel w g h l)
  case atStart => exact ⟨0, tx0 p, Nat.zero_le _, rfl, rfl, HS.out⟩
  case round =>
    obtain ⟨i, t, hi, rfl, rfl, hp⟩ := hrel
    have HP := Lib.hid hp
    clear hp HS
    by_cases hlt : i < l.length
    · have hlti : (i : Int) < (l.length : Int) := by omega
      have h0i : (0 : Int) ≤ (i : Int) := by omega
      have wi : IntKind.i64.wrap ((i : Int) + 1) = (i : Int) + 1 := IntWalk.i64_in _ (by omega)
      obtain ⟨b, o, rfl, c0, c1, c2, c3, c4, c5⟩ := ClsAt.get (HF.out.below HP.out.bel) i hlt
      generalize l[i] = c at *
      have hsz : (⟨c.body.toArray⟩ : ByteArray).size = c.body.length := rfl
      by_cases hb : 300 < c.body.length
      case pos =>
        have hb2 : (300 : Int) < (c.body.length : Int) := by omega
        have HB := Lib.hid (low_al HP.out.bel (Nat.le_refl _) (.cells #[.int .i64 c.kind, .int .i64 c.qu, .int .i64 c.key, .int .i64 c.seq, .int .i64 c.tag, .string ⟨c.body.toArray⟩] 73))
        clear hg hh
        go_wp2_with (go_at_call 47; refine (HT.out _).mono ?_; rintro e w9 ⟨rfl, hb9⟩)
        go_ret
        exact ⟨rfl, HB.out.trans (hb9.mono HB.out.size)⟩
      have hb2 : ¬ (300 : Int) < (c.body.length : Int) := by omega
      obtain ⟨q, hq, hq4, ht1, ht2⟩ := four c.kind
      have hwt : IntKind.i64.wrap (c.kind.tmod 4 + 4) = c.kind.tmod 4 + 4 := IntWalk.i64_in _ (by omega)
      obtain ⟨hk1, hk2⟩ := u64_mod c.key 4 (by decide)
      rw [show ((4 : Nat) : Int) = 4 from rfl] at hk1
      generalize u64m c.key 4 = k at *
      have wk : IntKind.i64.wrap (k : Int) = (k : Int) := IntWalk.i64_in _ (by omega)
      by_cases hk0 : 0 < k
      case pos =>
        have hk3 : (0 : Int) < (k : Int) := by omega
        have HNM := Lib.hid fun wx => name_any k (by omega) wx
        clear hg hh
        go_upto_region 19 with (go_at_call 42; refine (HNM.out _).mono ?_; rintro e w2 ⟨rfl, rfl⟩)
        rcases q with _ | _ | _ | _ | q
        · have hq0 : (c.kind.tmod 4 + 4).tmod 4 = 0 := by rw [hq]; rfl
          clear hq
          go_upto_region 36 with fail
          have HS := Lib.hid (fun (wx : World) (hk : KeepC (wr.alloc (.cells #[.int .i64 c.kind, .int .i64 c.qu, .int .i64 c.key, .int .i64 c.seq, .int .i64 c.tag, .string ⟨c.body.toArray⟩] 73)) wx) => show wx.cell? ⟨wr.heap.size, 1, none⟩ = some (.int .i64 c.qu) ∧ wx.cell? ⟨wr.heap.size, 3, none⟩ = some (.int .i64 c.seq) ∧ wx.cell? ⟨wr.heap.size, 5, none⟩ = some (.string ⟨c.body.toArray⟩) from by
            obtain ⟨⟨z0, z1, z2, z3, z4, z5⟩, -⟩ := box6d (hk _ _ _ (heap_alloc_new wr (.cells #[.int .i64 c.kind, .int .i64 c.qu, .int .i64 c.key, .int .i64 c.seq, .int .i64 c.tag, .string ⟨c.body.toArray⟩] 73)))
            exact ⟨z1, z3, z5⟩)
          have hp0 : PTw w (wr.alloc (.cells #[.int .i64 c.kind, .int .i64 c.qu, .int .i64 c.key, .int .i64 c.seq, .int .i64 c.tag, .string ⟨c.body.toArray⟩] 73)) g h t t := HP.out.below ((Below.refl _ _).alloc (Nat.le_refl _) _)
          have HP0 := Lib.hid (hp0.below (Below.refl _ _).drew)
          have HK0 : Hid (KeepC (wr.alloc (.cells #[.int .i64 c.kind, .int .i64 c.qu, .int .i64 c.key, .int .i64 c.seq, .int .i64 c.tag, .string ⟨c.body.toArray⟩] 73)) (wr.alloc (.cells #[.int .i64 c.kind, .int .i64 c.qu, .int .i64 c.key, .int .i64 c.seq, .int .i64 c.tag, .string ⟨c.body.toArray⟩] 73)).drew) := Lib.hid (KeepC.below (Below.refl _ _).drew)
          have HKR : Hid (KeepC (wr.alloc (.cells #[.int .i64 c.kind, .int .i64 c.qu, .int .i64 c.key, .int .i64 c.seq, .int .i64 c.tag, .string ⟨c.body.toArray⟩] 73)) (wr.alloc (.cells #[.int .i64 c.kind, .int .i64 c.qu, .int .i64 c.key, .int .i64 c.seq, .int .i64 c.tag, .string ⟨c.body.toArray⟩] 73))) := Lib.hid (KeepC.below (Below.refl _ _))
          have hSS := HS.out _ HKR.out
          clear hp0
          generalize wr.alloc (.cells #[.int .i64 c.kind, .int .i64 c.qu, .int .i64 c.key, .int .i64 c.seq, .int .i64 c.tag, .string ⟨c.body.toArray⟩] 73) = V at *
          generalize wr.heap.size = cb at *
          have HCC : Hid ((pubC t c.qu (nameF k) c.seq c.body != pubC t c.qu (nameF k) c.seq c.body) = false ∧ (pubC t c.qu (nameF k) c.seq c.body == pubC t c.qu (nameF k) c.seq c.body) = true) := Lib.hid (by simp)
          obtain ⟨cc, hcc⟩ : ∃ cc, cc = pubC t c.qu (nameF k) c.seq c.body := ⟨_, rfl⟩
          rw [← hcc] at HCC
          have HCD := Lib.hid hcc
          clear hcc
          obtain ⟨hc1, hc2⟩ := HCC.out
          go_region_held3 (fun wx => wx.cell? ⟨cb, 1, none⟩ = some (.int .i64 c.qu) ∧ wx.cell? ⟨cb, 3, none⟩ = some (.int .i64 c.seq) ∧ wx.cell? ⟨cb, 5, none⟩ = some (.string ⟨c.body.toArray⟩))
            (first | exact HS.out _ HK2.out | exact HS.out _ HK1.out | exact HS.out _ HK0.out | exact HS.out _ HKR.out | assumption)
            (first
              | (go_at_call 48; refine (ptw_pub HP0.out c.qu c.seq (nameF k) c.body).mono ?_; rintro e w13 ⟨rfl, hp1, hk1⟩; rw [← HCD.out]; have HP1 := Lib.hid hp1; have HK1 := Lib.hid (HK0.out.trans hk1); clear hp1 hk1)
              | (go_at_call 49; refine (ptw_rpub HP1.out c.qu c.seq (nameF k) c.body).mono ?_; rintro e w14 ⟨rfl, hp2, hk2⟩; rw [← HCD.out]; have HP2 := Lib.hid hp2; have HK2 := Lib.hid (HK1.out.trans hk2); clear hp2 hk2))
          all_goals
            rename_i hHeld
            clear hHeld
            obtain ⟨T2, hT2⟩ : ∃ T2, T2 = pubT t c.qu (nameF k) c.seq c.body := ⟨_, rfl⟩
            have HPF := HP2
            rw [← hT2] at HPF
            clear hT2
            obtain ⟨pvf, tvf, pv2f, tv2f, hf1, hf2, -, -⟩ := HPF.out.ex
            obtain ⟨paf, pcf, taf, tcf, rfl, rfl, -, -, -, -⟩ := rx_form hf2
            obtain ⟨⟨-, -, -, -, y4, y5⟩, -⟩ := box6d hf2.bx
            have qw : IntKind.i64.wrap ((T2.put.length : Int) + (T2.tags.length : Int)) = (T2.len : Int) := by
              have hm := HPF.out.may.1
              rw [IntWalk.i64_in _ (by have := hm.1; have := hm.2.1; omega)]
              unfold Tx.len; omega
            have HLF := Lib.hid fun n => Calls.quiet_of (n := n) ((len_any g T2 pvf tvf (w14.drewN n) HPF.out.may.1 (hf1.below (Rg.Below.drewN (Below.refl _ _) n))).mono fun e w' (h : e = .returned (.int .i64 T2.len) ∧ Drew (w14.drewN n) w') => And.intro h.1 (by obtain ⟨m, hm⟩ := h.2; exact ⟨m, hm.symm⟩))
            have qn : ((T2.len : Int) != (T2.len : Int)) = false := by simp
            have qe : ((T2.len : Int) == (T2.len : Int)) = true := by simp
            clear hf1 hf2
            go_wp2_with fail
            go_quiet ((go_at_call 54; exact HLF.out _))
            go_wp2_with fail
            go_roundg (l.length - (i + 1))
            case measure => omega
            case rel => exact ⟨i + 1, T2, by omega, rfl, by simp, HPF.out.below (Rg.Below.drewN (Below.refl _ _) _)⟩
        · have hq0 : (c.kind.tmod 4 + 4).tmod 4 = 1 := by rw [hq]; rfl
          clear hq
          go_upto_region 36 with fail
          have HS := Lib.hid (fun (wx : World) (hk : KeepC (wr.alloc (.cells #[.int .i64 c.kind, .int .i64 c.qu, .int .i64 c.key, .int .i64 c.seq, .int .i64 c.tag, .string ⟨c.body.toArray⟩] 73)) wx) => show wx.cell? ⟨wr.heap.size, 1, none⟩ = some (.int .i64 c.qu) ∧ wx.cell? ⟨wr.heap.size, 3, none⟩ = some (.int .i64 c.seq) ∧ wx.cell? ⟨wr.heap.size, 5, none⟩ = some (.string ⟨c.body.toArray⟩) from by
            obtain ⟨⟨z0, z1, z2, z3, z4, z5⟩, -⟩ := box6d (hk _ _ _ (heap_alloc_new wr (.cells #[.int .i64 c.kind, .int .i64 c.qu, .int .i64 c.key, .int .i64 c.seq, .int .i64 c.tag, .string ⟨c.body.toArray⟩] 73)))
            exact ⟨z1, z3, z5⟩)
          have hp0 : PTw w (wr.alloc (.cells #[.int .i64 c.kind, .int .i64 c.qu, .int .i64 c.key, .int .i64 c.seq, .int .i64 c.tag, .string ⟨c.body.toArray⟩] 73)) g h t t := HP.out.below ((Below.refl _ _).alloc (Nat.le_refl _) _)
          have HP0 := Lib.hid (hp0.below (Below.refl _ _).drew)
          have HK0 : Hid (KeepC (wr.alloc (.cells #[.int .i64 c.kind, .int .i64 c.qu, .int .i64 c.key, .int .i64 c.seq, .int .i64 c.tag, .string ⟨c.body.toArray⟩] 73)) (wr.alloc (.cells #[.int .i64 c.kind, .int .i64 c.qu, .int .i64 c.key, .int .i64 c.seq, .int .i64 c.tag, .string ⟨c.body.toArray⟩] 73)).drew) := Lib.hid (KeepC.below (Below.refl _ _).drew)
          have HKR : Hid (KeepC (wr.alloc (.cells #[.int .i64 c.kind, .int .i64 c.qu, .int .i64 c.key, .int .i64 c.seq, .int .i64 c.tag, .string ⟨c.body.toArray⟩] 73)) (wr.alloc (.cells #[.int .i64 c.kind, .int .i64 c.qu, .int .i64 c.key, .int .i64 c.seq, .int .i64 c.tag, .string ⟨c.body.toArray⟩] 73))) := Lib.hid (KeepC.below (Below.refl _ _))
          have hSS := HS.out _ HKR.out
          clear hp0
          generalize wr.alloc (.cells #[.int .i64 c.kind, .int .i64 c.qu, .int .i64 c.key, .int .i64 c.seq, .int .i64 c.tag, .string ⟨c.body.toArray⟩] 73) = V at *
          generalize wr.heap.size = cb at *
          have HCC : Hid ((pubC t c.qu (nameF k) c.seq c.body != pubC t c.qu (nameF k) c.seq c.body) = false ∧ (pubC t c.qu (nameF k) c.seq c.body == pubC t c.qu (nameF k) c.seq c.body) = true) := Lib.hid (by simp)
          obtain ⟨cc, hcc⟩ : ∃ cc, cc = pubC t c.qu (nameF k) c.seq c.body := ⟨_, rfl⟩
          rw [← hcc] at HCC
          have HCD := Lib.hid hcc
          clear hcc
          obtain ⟨hc1, hc2⟩ := HCC.out
          go_region_held3 (fun wx => wx.cell? ⟨cb, 1, none⟩ = some (.int .i64 c.qu) ∧ wx.cell? ⟨cb, 3, none⟩ = some (.int .i64 c.seq) ∧ wx.cell? ⟨cb, 5, none⟩ = some (.string ⟨c.body.toArray⟩))
            (first | exact HS.out _ HK2.out | exact HS.out _ HK1.out | exact HS.out _ HK0.out | exact HS.out _ HKR.out | assumption)
            (first
              | (go_at_call 48; refine (ptw_pub HP0.out c.qu c.seq (nameF k) c.body).mono ?_; rintro e w13 ⟨rfl, hp1, hk1⟩; rw [← HCD.out]; have HP1 := Lib.hid hp1; have HK1 := Lib.hid (HK0.out.trans hk1); clear hp1 hk1)
              | (go_at_call 49; refine (ptw_rpub HP1.out c.qu c.seq (nameF k) c.body).mono ?_; rintro e w14 ⟨rfl, hp2, hk2⟩; rw [← HCD.out]; have HP2 := Lib.hid hp2; have HK2 := Lib.hid (HK1.out.trans hk2); clear hp2 hk2))
          all_goals
            rename_i hHeld
            clear hHeld
            obtain ⟨T2, hT2⟩ : ∃ T2, T2 = pubT t c.qu (nameF k) c.seq c.body := ⟨_, rfl⟩
            have HPF := HP2
            rw [← hT2] at HPF
            clear hT2
            obtain ⟨pvf, tvf, pv2f, tv2f, hf1, hf2, -, -⟩ := HPF.out.ex
            obtain ⟨paf, pcf, taf, tcf, rfl, rfl, -, -, -, -⟩ := rx_form hf2
            obtain ⟨⟨-, -, -, -, y4, y5⟩, -⟩ := box6d hf2.bx
            have qw : IntKind.i64.wrap ((T2.put.length : Int) + (T2.tags.length : Int)) = (T2.len : Int) := by
              have hm := HPF.out.may.1
              rw [IntWalk.i64_in _ (by have := hm.1; have := hm.2.1; omega)]
              unfold Tx.len; omega
            have HLF := Lib.hid fun n => Calls.quiet_of (n := n) ((len_any g T2 pvf tvf (w14.drewN n) HPF.out.may.1 (hf1.below (Rg.Below.drewN (Below.refl _ _) n))).mono fun e w' (h : e = .returned (.int .i64 T2.len) ∧ Drew (w14.drewN n) w') => And.intro h.1 (by obtain ⟨m, hm⟩ := h.2; exact ⟨m, hm.symm⟩))
            have qn : ((T2.len : Int) != (T2.len : Int)) = false := by simp
            have qe : ((T2.len : Int) == (T2.len : Int)) = true := by simp
            clear hf1 hf2
            go_wp2_with fail
            go_quiet ((go_at_call 54; exact HLF.out _))
            go_wp2_with fail
            go_roundg (l.length - (i + 1))
            case measure => omega
            case rel => exact ⟨i + 1, T2, by omega, rfl, by simp, HPF.out.below (Rg.Below.drewN (Below.refl _ _) _)⟩
        · have hq0 : (c.kind.tmod 4 + 4).tmod 4 = 2 := by rw [hq]; rfl
          clear hq
          go_upto_region 39 with fail
          have HS := Lib.hid (fun (wx : World) (hk : KeepC (wr.alloc (.cells #[.int .i64 c.kind, .int .i64 c.qu, .int .i64 c.key, .int .i64 c.seq, .int .i64 c.tag, .string ⟨c.body.toArray⟩] 73)) wx) => show wx.cell? ⟨wr.heap.size, 1, none⟩ = some (.int .i64 c.qu) ∧ wx.cell? ⟨wr.heap.size, 4, none⟩ = some (.int .i64 c.tag) from by
            obtain ⟨⟨z0, z1, z2, z3, z4, z5⟩, -⟩ := box6d (hk _ _ _ (heap_alloc_new wr (.cells #[.int .i64 c.kind, .int .i64 c.qu, .int .i64 c.key, .int .i64 c.seq, .int .i64 c.tag, .string ⟨c.body.toArray⟩] 73)))
            exact ⟨z1, z4⟩)
          have hp0 : PTw w (wr.alloc (.cells #[.int .i64 c.kind, .int .i64 c.qu, .int .i64 c.key, .int .i64 c.seq, .int .i64 c.tag, .string ⟨c.body.toArray⟩] 73)) g h t t := HP.out.below ((Below.refl _ _).alloc (Nat.le_refl _) _)
          have HP0 := Lib.hid (hp0.below (Below.refl _ _).drew)
          have HK0 : Hid (KeepC (wr.alloc (.cells #[.int .i64 c.kind, .int .i64 c.qu, .int .i64 c.key, .int .i64 c.seq, .int .i64 c.tag, .string ⟨c.body.toArray⟩] 73)) (wr.alloc (.cells #[.int .i64 c.kind, .int .i64 c.qu, .int .i64 c.key, .int .i64 c.seq, .int .i64 c.tag, .string ⟨c.body.toArray⟩] 73)).drew) := Lib.hid (KeepC.below (Below.refl _ _).drew)
          have HKR : Hid (KeepC (wr.alloc (.cells #[.int .i64 c.kind, .int .i64 c.qu, .int .i64 c.key, .int .i64 c.seq, .int .i64 c.tag, .string ⟨c.body.toArray⟩] 73)) (wr.alloc (.cells #[.int .i64 c.kind, .int .i64 c.qu, .int .i64 c.key, .int .i64 c.seq, .int .i64 c.tag, .string ⟨c.body.toArray⟩] 73))) := Lib.hid (KeepC.below (Below.refl _ _))
          have hSS := HS.out _ HKR.out
          clear hp0
          generalize wr.alloc (.cells #[.int .i64 c.kind, .int .i64 c.qu, .int .i64 c.key, .int .i64 c.seq, .int .i64 c.tag, .string ⟨c.body.toArray⟩] 73) = V at *
          generalize wr.heap.size = cb at *
          have HCC : Hid ((ackC t c.qu (nameF k) c.tag != ackC t c.qu (nameF k) c.tag) = false ∧ (ackC t c.qu (nameF k) c.tag == ackC t c.qu (nameF k) c.tag) = true) := Lib.hid (by simp)
          obtain ⟨cc, hcc⟩ : ∃ cc, cc = ackC t c.qu (nameF k) c.tag := ⟨_, rfl⟩
          rw [← hcc] at HCC
          have HCD := Lib.hid hcc
          clear hcc
          obtain ⟨hc1, hc2⟩ := HCC.out
          go_region_held3 (fun wx => wx.cell? ⟨cb, 1, none⟩ = some (.int .i64 c.qu) ∧ wx.cell? ⟨cb, 4, none⟩ = some (.int .i64 c.tag))
            (first | exact HS.out _ HK2.out | exact HS.out _ HK1.out | exact HS.out _ HK0.out | exact HS.out _ HKR.out | assumption)
            (first
              | (go_at_call 50; refine (ptw_ack HP0.out c.qu c.tag (nameF k)).mono ?_; rintro e w13 ⟨rfl, hp1, hk1⟩; rw [← HCD.out]; have HP1 := Lib.hid hp1; have HK1 := Lib.hid (HK0.out.trans hk1); clear hp1 hk1)
              | (go_at_call 51; refine (ptw_rack HP1.out c.qu c.tag (nameF k)).mono ?_; rintro e w14 ⟨rfl, hp2, hk2⟩; rw [← HCD.out]; have HP2 := Lib.hid hp2; have HK2 := Lib.hid (HK1.out.trans hk2); clear hp2 hk2))
          all_goals
            rename_i hHeld
            clear hHeld
            obtain ⟨T2, hT2⟩ : ∃ T2, T2 = ackT t c.qu (nameF k) c.tag := ⟨_, rfl⟩
            have HPF := HP2
            rw [← hT2] at HPF
            clear hT2
            obtain ⟨pvf, tvf, pv2f, tv2f, hf1, hf2, -, -⟩ := HPF.out.ex
            obtain ⟨paf, pcf, taf, tcf, rfl, rfl, -, -, -, -⟩ := rx_form hf2
            obtain ⟨⟨-, -, -, -, y4, y5⟩, -⟩ := box6d hf2.bx
            have qw : IntKind.i64.wrap ((T2.put.length : Int) + (T2.tags.length : Int)) = (T2.len : Int) := by
              have hm := HPF.out.may.1
              rw [IntWalk.i64_in _ (by have := hm.1; have := hm.2.1; omega)]
              unfold Tx.len; omega
            have HLF := Lib.hid fun n => Calls.quiet_of (n := n) ((len_any g T2 pvf tvf (w14.drewN n) HPF.out.may.1 (hf1.below (Rg.Below.drewN (Below.refl _ _) n))).mono fun e w' (h : e = .returned (.int .i64 T2.len) ∧ Drew (w14.drewN n) w') => And.intro h.1 (by obtain ⟨m, hm⟩ := h.2; exact ⟨m, hm.symm⟩))
            have qn : ((T2.len : Int) != (T2.len : Int)) = false := by simp
            have qe : ((T2.len : Int) == (T2.len : Int)) = true := by simp
            clear hf1 hf2
            go_wp2_with fail
            go_quiet ((go_at_call 54; exact HLF.out _))
            go_wp2_with fail
            go_roundg (l.length - (i + 1))
            case measure => omega
            case rel => exact ⟨i + 1, T2, by omega, rfl, by simp, HPF.out.below (Rg.Below.drewN (Below.refl _ _) _)⟩
        · have hq0 : (c.kind.tmod 4 + 4).tmod 4 = 3 := by rw [hq]; rfl
          clear hq
          have hp0 : PTw w (wr.alloc (.cells #[.int .i64 c.kind, .int .i64 c.qu, .int .i64 c.key, .int .i64 c.seq, .int .i64 c.tag, .string ⟨c.body.toArray⟩] 73)) g h t t := HP.out.below ((Below.refl _ _).alloc (Nat.le_refl _) _)
          have HP0 := Lib.hid hp0
          clear hp0
          go_upto_region 22 with (first | (go_at_call 52; refine (ptw_take HP0.out).mono ?_; rintro e w13 ⟨pa, pc, ta, tc, rfl, ho1, ho2, hp1⟩; have HO := Lib.hid (And.intro ho1 ho2); have HP1 := Lib.hid hp1; clear ho1 ho2 hp1) | (go_at_call 53; refine (ptw_rtake HP1.out).mono ?_; rintro e w14 ⟨pb, pd, tb, td, rfl, ho1, ho2, hp1, hk1, hk2⟩; have HO2 := Lib.hid (And.intro ho1 ho2); have HO1 := Lib.hid (And.intro (hk1 _ _ HO.out.1) (hk2 _ _ HO.out.2)); have HP2 := Lib.hid hp1; clear ho1 ho2 hp1 hk1 hk2))
          obtain ⟨a1, b1, e1, hr1, -⟩ := OwnE.at mgE HO1.out.1
          obtain ⟨rfl, -, rfl⟩ := Value.slice.inj e1
          obtain ⟨a2, b2, e2, hr2, -⟩ := OwnE.at mgE HO2.out.1
          obtain ⟨rfl, -, rfl⟩ := Value.slice.inj e2
          obtain ⟨a3, b3, e3, hr3, -⟩ := OwnE.at inE HO1.out.2
          obtain ⟨rfl, -, rfl⟩ := Value.slice.inj e3
          obtain ⟨a4, b4, e4, hr4, -⟩ := OwnE.at inE HO2.out.2
          obtain ⟨rfl, -, rfl⟩ := Value.slice.inj e4
          have HR := Lib.hid (And.intro hr1 (And.intro hr2 (And.intro hr3 hr4)))
          have HL8 := Lib.hid (And.intro HP.out.may.1.1 HP.out.may.1.2.1)
          clear e1 e2 e3 e4 hr1 hr2 hr3 hr4 HO HO1 HO2 HP0 HP1 HP
          have c1 : (takeQ t == takeQ t) = true := by simp
          have c2 : (takeQ t != takeQ t) = false := by simp
          have c3 : ((t.put.length : Int) != (t.put.length : Int)) = false := by simp
          have c4 : ((t.tags.length : Int) != (t.tags.length : Int)) = false := by simp
          have c5 : ((t.put.length : Int) == (t.put.length : Int)) = true := by simp
          have c6 : ((t.tags.length : Int) == (t.tags.length : Int)) = true := by simp
          generalize takeQ t = tq at *
          go_wp2_with fail
          go_loopg [17] t.put.length (cmpRel w14 t.put.length)
          case atStart => exact ⟨0, Nat.zero_le _, rfl, rfl, Drew.refl _⟩
          case round =>
            obtain ⟨j, hj, rfl, rfl, hd⟩ := hrel
            have HD := Lib.hid hd
            clear hd
            by_cases hjl : j < t.put.length
            · have j1 : (j : Int) < (t.put.length : Int) := by omega
              have j0 : (0 : Int) ≤ (j : Int) := by omega
              have j2 : IntKind.i64.wrap ((j : Int) + 1) = (j : Int) + 1 := IntWalk.i64_in _ (by have := HL8.out; omega)
              obtain ⟨b, o, rfl, x0, x1, x2, x3, x4⟩ := MgsAt.get (HR.out.1.below HD.out.below) j hjl
              obtain ⟨b', o', rfl, y0, y1, y2, y3, y4⟩ := MgsAt.get (HR.out.2.1.below HD.out.below) j hjl
              have heq := fun wx => mg_eql t.put[j] t.put[j] true (by simp) wx
              have hne := fun wx => mg_neq t.put[j] t.put[j] true (by simp) wx
              go_wp2_with fail
              go_quiet (fail)
              go_wp2_with fail
              go_roundg (t.put.length - (j + 1))
              case measure => omega
              case rel => exact ⟨j + 1, by omega, rfl, by simp, HD.out.more _⟩
            · obtain rfl : j = t.put.length := by omega
              have j1 : ¬ (t.put.length : Int) < (t.put.length : Int) := by omega
              go_wp2_with fail
              go_loopg [18] t.tags.length (cmpRel w14 t.tags.length)
              case atStart => exact ⟨0, Nat.zero_le _, rfl, rfl, HD.out⟩
              case round =>
                obtain ⟨j, hj, rfl, rfl, hd⟩ := hrel
                have HD := Lib.hid hd
                clear hd
                by_cases hjl : j < t.tags.length
                · have j1 : (j : Int) < (t.tags.length : Int) := by omega
                  have j0 : (0 : Int) ≤ (j : Int) := by omega
                  have j2 : IntKind.i64.wrap ((j : Int) + 1) = (j : Int) + 1 := IntWalk.i64_in _ (by have := HL8.out; omega)
                  obtain ⟨b, o, rfl, x0⟩ := InsAt.get (HR.out.2.2.1.below HD.out.below) j hjl
                  obtain ⟨b', o', rfl, y0⟩ := InsAt.get (HR.out.2.2.2.below HD.out.below) j hjl
                  have heq : (t.tags[j] == t.tags[j]) = true := by simp
                  have hne : (t.tags[j] != t.tags[j]) = false := by simp
                  go_wp2_with fail
                  go_quiet (fail)
                  go_wp2_with fail
                  go_roundg (t.tags.length - (j + 1))
                  case measure => omega
                  case rel => exact ⟨j + 1, by omega, rfl, by simp, HD.out.more _⟩
                · obtain rfl : j = t.tags.length := by omega
                  have j1 : ¬ (t.tags.length : Int) < (t.tags.length : Int) := by omega
                  have HP3 := Lib.hid (HP2.out.below HD.out.below)
                  obtain ⟨T2, hT2⟩ : ∃ T2, T2 = tx0 t.pub := ⟨_, rfl⟩
                  have HPF := HP3
                  rw [← hT2] at HPF
                  clear hT2
                  obtain ⟨pvf, tvf, pv2f, tv2f, hf1, hf2, -, -⟩ := HPF.out.ex
                  obtain ⟨paf, pcf, taf, tcf, rfl, rfl, -, -, -, -⟩ := rx_form hf2
                  obtain ⟨⟨-, -, -, -, y4, y5⟩, -⟩ := box6d hf2.bx
                  have qw : IntKind.i64.wrap ((T2.put.length : Int) + (T2.tags.length : Int)) = (T2.len : Int) := by
                    have hm := HPF.out.may.1
                    rw [IntWalk.i64_in _ (by have := hm.1; have := hm.2.1; omega)]
                    unfold Tx.len; omega
                  have HLF := Lib.hid fun n => Calls.quiet_of (n := n) ((len_any g T2 pvf tvf (wr.drewN n) HPF.out.may.1 (hf1.below (Rg.Below.drewN (Below.refl _ _) n))).mono fun e w' (h : e = .returned (.int .i64 T2.len) ∧ Drew (wr.drewN n) w') => And.intro h.1 (by obtain ⟨m, hm⟩ := h.2; exact ⟨m, hm.symm⟩))
                  have qn : ((T2.len : Int) != (T2.len : Int)) = false := by simp
                  have qe : ((T2.len : Int) == (T2.len : Int)) = true := by simp
                  clear hf1 hf2
                  go_wp2_with fail
                  go_quiet ((go_at_call 54; exact HLF.out _))
                  go_wp2_with fail
                  go_roundg (l.length - (i + 1))
                  case measure => omega
                  case rel => exact ⟨i + 1, T2, by omega, rfl, by simp, HPF.out.below (Rg.Below.drewN (Below.refl _ _) _)⟩
        · omega
      case neg =>
        have hk3 : ¬ (0 : Int) < (k : Int) := by omega
        clear hg hh
        go_upto_region 19 with fail
        rcases q with _ | _ | _ | _ | q
        · have hq0 : (c.kind.tmod 4 + 4).tmod 4 = 0 := by rw [hq]; rfl
          clear hq
          go_upto_region 36 with fail
          have HS := Lib.hid (fun (wx : World) (hk : KeepC (wr.alloc (.cells #[.int .i64 c.kind, .int .i64 c.qu, .int .i64 c.key, .int .i64 c.seq, .int .i64 c.tag, .string ⟨c.body.toArray⟩] 73)) wx) => show wx.cell? ⟨wr.heap.size, 1, none⟩ = some (.int .i64 c.qu) ∧ wx.cell? ⟨wr.heap.size, 3, none⟩ = some (.int .i64 c.seq) ∧ wx.cell? ⟨wr.heap.size, 5, none⟩ = some (.string ⟨c.body.toArray⟩) from by
            obtain ⟨⟨z0, z1, z2, z3, z4, z5⟩, -⟩ := box6d (hk _ _ _ (heap_alloc_new wr (.cells #[.int .i64 c.kind, .int .i64 c.qu, .int .i64 c.key, .int .i64 c.seq, .int .i64 c.tag, .string ⟨c.body.toArray⟩] 73)))
            exact ⟨z1, z3, z5⟩)
          have hp0 : PTw w (wr.alloc (.cells #[.int .i64 c.kind, .int .i64 c.qu, .int .i64 c.key, .int .i64 c.seq, .int .i64 c.tag, .string ⟨c.body.toArray⟩] 73)) g h t t := HP.out.below ((Below.refl _ _).alloc (Nat.le_refl _) _)
          have HP0 := Lib.hid (hp0.below (Below.refl _ _).drew)
          have HK0 : Hid (KeepC (wr.alloc (.cells #[.int .i64 c.kind, .int .i64 c.qu, .int .i64 c.key, .int .i64 c.seq, .int .i64 c.tag, .string ⟨c.body.toArray⟩] 73)) (wr.alloc (.cells #[.int .i64 c.kind, .int .i64 c.qu, .int .i64 c.key, .int .i64 c.seq, .int .i64 c.tag, .string ⟨c.body.toArray⟩] 73)).drew) := Lib.hid (KeepC.below (Below.refl _ _).drew)
          have HKR : Hid (KeepC (wr.alloc (.cells #[.int .i64 c.kind, .int .i64 c.qu, .int .i64 c.key, .int .i64 c.seq, .int .i64 c.tag, .string ⟨c.body.toArray⟩] 73)) (wr.alloc (.cells #[.int .i64 c.kind, .int .i64 c.qu, .int .i64 c.key, .int .i64 c.seq, .int .i64 c.tag, .string ⟨c.body.toArray⟩] 73))) := Lib.hid (KeepC.below (Below.refl _ _))
          have hSS := HS.out _ HKR.out
          clear hp0
          generalize wr.alloc (.cells #[.int .i64 c.kind, .int .i64 c.qu, .int .i64 c.key, .int .i64 c.seq, .int .i64 c.tag, .string ⟨c.body.toArray⟩] 73) = V at *
          generalize wr.heap.size = cb at *
          have HCC : Hid ((pubC t c.qu ([] : List UInt8) c.seq c.body != pubC t c.qu ([] : List UInt8) c.seq c.body) = false ∧ (pubC t c.qu ([] : List UInt8) c.seq c.body == pubC t c.qu ([] : List UInt8) c.seq c.body) = true) := Lib.hid (by simp)
          obtain ⟨cc, hcc⟩ : ∃ cc, cc = pubC t c.qu ([] : List UInt8) c.seq c.body := ⟨_, rfl⟩
          rw [← hcc] at HCC
          have HCD := Lib.hid hcc
          clear hcc
          obtain ⟨hc1, hc2⟩ := HCC.out
          go_region_held3 (fun wx => wx.cell? ⟨cb, 1, none⟩ = some (.int .i64 c.qu) ∧ wx.cell? ⟨cb, 3, none⟩ = some (.int .i64 c.seq) ∧ wx.cell? ⟨cb, 5, none⟩ = some (.string ⟨c.body.toArray⟩))
            (first | exact HS.out _ HK2.out | exact HS.out _ HK1.out | exact HS.out _ HK0.out | exact HS.out _ HKR.out | assumption)
            (first
              | (go_at_call 48; refine (ptw_pub HP0.out c.qu c.seq ([] : List UInt8) c.body).mono ?_; rintro e w13 ⟨rfl, hp1, hk1⟩; rw [← HCD.out]; have HP1 := Lib.hid hp1; have HK1 := Lib.hid (HK0.out.trans hk1); clear hp1 hk1)
              | (go_at_call 49; refine (ptw_rpub HP1.out c.qu c.seq ([] : List UInt8) c.body).mono ?_; rintro e w14 ⟨rfl, hp2, hk2⟩; rw [← HCD.out]; have HP2 := Lib.hid hp2; have HK2 := Lib.hid (HK1.out.trans hk2); clear hp2 hk2))
          all_goals
            rename_i hHeld
            clear hHeld
            obtain ⟨T2, hT2⟩ : ∃ T2, T2 = pubT t c.qu ([] : List UInt8) c.seq c.body := ⟨_, rfl⟩
            have HPF := HP2
            rw [← hT2] at HPF
            clear hT2
            obtain ⟨pvf, tvf, pv2f, tv2f, hf1, hf2, -, -⟩ := HPF.out.ex
            obtain ⟨paf, pcf, taf, tcf, rfl, rfl, -, -, -, -⟩ := rx_form hf2
            obtain ⟨⟨-, -, -, -, y4, y5⟩, -⟩ := box6d hf2.bx
            have qw : IntKind.i64.wrap ((T2.put.length : Int) + (T2.tags.length : Int)) = (T2.len : Int) := by
              have hm := HPF.out.may.1
              rw [IntWalk.i64_in _ (by have := hm.1; have := hm.2.1; omega)]
              unfold Tx.len; omega
            have HLF := Lib.hid fun n => Calls.quiet_of (n := n) ((len_any g T2 pvf tvf (w14.drewN n) HPF.out.may.1 (hf1.below (Rg.Below.drewN (Below.refl _ _) n))).mono fun e w' (h : e = .returned (.int .i64 T2.len) ∧ Drew (w14.drewN n) w') => And.intro h.1 (by obtain ⟨m, hm⟩ := h.2; exact ⟨m, hm.symm⟩))
            have qn : ((T2.len : Int) != (T2.len : Int)) = false := by simp
            have qe : ((T2.len : Int) == (T2.len : Int)) = true := by simp
            clear hf1 hf2
            go_wp2_with fail
            go_quiet ((go_at_call 54; exact HLF.out _))
            go_wp2_with fail
            go_roundg (l.length - (i + 1))
            case measure => omega
            case rel => exact ⟨i + 1, T2, by omega, rfl, by simp, HPF.out.below (Rg.Below.drewN (Below.refl _ _) _)⟩
        · have hq0 : (c.kind.tmod 4 + 4).tmod 4 = 1 := by rw [hq]; rfl
          clear hq
          go_upto_region 36 with fail
          have HS := Lib.hid (fun (wx : World) (hk : KeepC (wr.alloc (.cells #[.int .i64 c.kind, .int .i64 c.qu, .int .i64 c.key, .int .i64 c.seq, .int .i64 c.tag, .string ⟨c.body.toArray⟩] 73)) wx) => show wx.cell? ⟨wr.heap.size, 1, none⟩ = some (.int .i64 c.qu) ∧ wx.cell? ⟨wr.heap.size, 3, none⟩ = some (.int .i64 c.seq) ∧ wx.cell? ⟨wr.heap.size, 5, none⟩ = some (.string ⟨c.body.toArray⟩) from by
            obtain ⟨⟨z0, z1, z2, z3, z4, z5⟩, -⟩ := box6d (hk _ _ _ (heap_alloc_new wr (.cells #[.int .i64 c.kind, .int .i64 c.qu, .int .i64 c.key, .int .i64 c.seq, .int .i64 c.tag, .string ⟨c.body.toArray⟩] 73)))
            exact ⟨z1, z3, z5⟩)
          have hp0 : PTw w (wr.alloc (.cells #[.int .i64 c.kind, .int .i64 c.qu, .int .i64 c.key, .int .i64 c.seq, .int .i64 c.tag, .string ⟨c.body.toArray⟩] 73)) g h t t := HP.out.below ((Below.refl _ _).alloc (Nat.le_refl _) _)
          have HP0 := Lib.hid (hp0.below (Below.refl _ _).drew)
          have HK0 : Hid (KeepC (wr.alloc (.cells #[.int .i64 c.kind, .int .i64 c.qu, .int .i64 c.key, .int .i64 c.seq, .int .i64 c.tag, .string ⟨c.body.toArray⟩] 73)) (wr.alloc (.cells #[.int .i64 c.kind, .int .i64 c.qu, .int .i64 c.key, .int .i64 c.seq, .int .i64 c.tag, .string ⟨c.body.toArray⟩] 73)).drew) := Lib.hid (KeepC.below (Below.refl _ _).drew)
          have HKR : Hid (KeepC (wr.alloc (.cells #[.int .i64 c.kind, .int .i64 c.qu, .int .i64 c.key, .int .i64 c.seq, .int .i64 c.tag, .string ⟨c.body.toArray⟩] 73)) (wr.alloc (.cells #[.int .i64 c.kind, .int .i64 c.qu, .int .i64 c.key, .int .i64 c.seq, .int .i64 c.tag, .string ⟨c.body.toArray⟩] 73))) := Lib.hid (KeepC.below (Below.refl _ _))
          have hSS := HS.out _ HKR.out
          clear hp0
          generalize wr.alloc (.cells #[.int .i64 c.kind, .int .i64 c.qu, .int .i64 c.key, .int .i64 c.seq, .int .i64 c.tag, .string ⟨c.body.toArray⟩] 73) = V at *
          generalize wr.heap.size = cb at *
          have HCC : Hid ((pubC t c.qu ([] : List UInt8) c.seq c.body != pubC t c.qu ([] : List UInt8) c.seq c.body) = false ∧ (pubC t c.qu ([] : List UInt8) c.seq c.body == pubC t c.qu ([] : List UInt8) c.seq c.body) = true) := Lib.hid (by simp)
          obtain ⟨cc, hcc⟩ : ∃ cc, cc = pubC t c.qu ([] : List UInt8) c.seq c.body := ⟨_, rfl⟩
          rw [← hcc] at HCC
          have HCD := Lib.hid hcc
          clear hcc
          obtain ⟨hc1, hc2⟩ := HCC.out
          go_region_held3 (fun wx => wx.cell? ⟨cb, 1, none⟩ = some (.int .i64 c.qu) ∧ wx.cell? ⟨cb, 3, none⟩ = some (.int .i64 c.seq) ∧ wx.cell? ⟨cb, 5, none⟩ = some (.string ⟨c.body.toArray⟩))
            (first | exact HS.out _ HK2.out | exact HS.out _ HK1.out | exact HS.out _ HK0.out | exact HS.out _ HKR.out | assumption)
            (first
              | (go_at_call 48; refine (ptw_pub HP0.out c.qu c.seq ([] : List UInt8) c.body).mono ?_; rintro e w13 ⟨rfl, hp1, hk1⟩; rw [← HCD.out]; have HP1 := Lib.hid hp1; have HK1 := Lib.hid (HK0.out.trans hk1); clear hp1 hk1)
              | (go_at_call 49; refine (ptw_rpub HP1.out c.qu c.seq ([] : List UInt8) c.body).mono ?_; rintro e w14 ⟨rfl, hp2, hk2⟩; rw [← HCD.out]; have HP2 := Lib.hid hp2; have HK2 := Lib.hid (HK1.out.trans hk2); clear hp2 hk2))
          all_goals
            rename_i hHeld
            clear hHeld
            obtain ⟨T2, hT2⟩ : ∃ T2, T2 = pubT t c.qu ([] : List UInt8) c.seq c.body := ⟨_, rfl⟩
            have HPF := HP2
            rw [← hT2] at HPF
            clear hT2
            obtain ⟨pvf, tvf, pv2f, tv2f, hf1, hf2, -, -⟩ := HPF.out.ex
            obtain ⟨paf, pcf, taf, tcf, rfl, rfl, -, -, -, -⟩ := rx_form hf2
            obtain ⟨⟨-, -, -, -, y4, y5⟩, -⟩ := box6d hf2.bx
            have qw : IntKind.i64.wrap ((T2.put.length : Int) + (T2.tags.length : Int)) = (T2.len : Int) := by
              have hm := HPF.out.may.1
              rw [IntWalk.i64_in _ (by have := hm.1; have := hm.2.1; omega)]
              unfold Tx.len; omega
            have HLF := Lib.hid fun n => Calls.quiet_of (n := n) ((len_any g T2 pvf tvf (w14.drewN n) HPF.out.may.1 (hf1.below (Rg.Below.drewN (Below.refl _ _) n))).mono fun e w' (h : e = .returned (.int .i64 T2.len) ∧ Drew (w14.drewN n) w') => And.intro h.1 (by obtain ⟨m, hm⟩ := h.2; exact ⟨m, hm.symm⟩))
            have qn : ((T2.len : Int) != (T2.len : Int)) = false := by simp
            have qe : ((T2.len : Int) == (T2.len : Int)) = true := by simp
            clear hf1 hf2
            go_wp2_with fail
            go_quiet ((go_at_call 54; exact HLF.out _))
            go_wp2_with fail
            go_roundg (l.length - (i + 1))
            case measure => omega
            case rel => exact ⟨i + 1, T2, by omega, rfl, by simp, HPF.out.below (Rg.Below.drewN (Below.refl _ _) _)⟩
        · have hq0 : (c.kind.tmod 4 + 4).tmod 4 = 2 := by rw [hq]; rfl
          clear hq
          go_upto_region 39 with fail
          have HS := Lib.hid (fun (wx : World) (hk : KeepC (wr.alloc (.cells #[.int .i64 c.kind, .int .i64 c.qu, .int .i64 c.key, .int .i64 c.seq, .int .i64 c.tag, .string ⟨c.body.toArray⟩] 73)) wx) => show wx.cell? ⟨wr.heap.size, 1, none⟩ = some (.int .i64 c.qu) ∧ wx.cell? ⟨wr.heap.size, 4, none⟩ = some (.int .i64 c.tag) from by
            obtain ⟨⟨z0, z1, z2, z3, z4, z5⟩, -⟩ := box6d (hk _ _ _ (heap_alloc_new wr (.cells #[.int .i64 c.kind, .int .i64 c.qu, .int .i64 c.key, .int .i64 c.seq, .int .i64 c.tag, .string ⟨c.body.toArray⟩] 73)))
            exact ⟨z1, z4⟩)
          have hp0 : PTw w (wr.alloc (.cells #[.int .i64 c.kind, .int .i64 c.qu, .int .i64 c.key, .int .i64 c.seq, .int .i64 c.tag, .string ⟨c.body.toArray⟩] 73)) g h t t := HP.out.below ((Below.refl _ _).alloc (Nat.le_refl _) _)
          have HP0 := Lib.hid (hp0.below (Below.refl _ _).drew)
          have HK0 : Hid (KeepC (wr.alloc (.cells #[.int .i64 c.kind, .int .i64 c.qu, .int .i64 c.key, .int .i64 c.seq, .int .i64 c.tag, .string ⟨c.body.toArray⟩] 73)) (wr.alloc (.cells #[.int .i64 c.kind, .int .i64 c.qu, .int .i64 c.key, .int .i64 c.seq, .int .i64 c.tag, .string ⟨c.body.toArray⟩] 73)).drew) := Lib.hid (KeepC.below (Below.refl _ _).drew)
          have HKR : Hid (KeepC (wr.alloc (.cells #[.int .i64 c.kind, .int .i64 c.qu, .int .i64 c.key, .int .i64 c.seq, .int .i64 c.tag, .string ⟨c.body.toArray⟩] 73)) (wr.alloc (.cells #[.int .i64 c.kind, .int .i64 c.qu, .int .i64 c.key, .int .i64 c.seq, .int .i64 c.tag, .string ⟨c.body.toArray⟩] 73))) := Lib.hid (KeepC.below (Below.refl _ _))
          have hSS := HS.out _ HKR.out
          clear hp0
          generalize wr.alloc (.cells #[.int .i64 c.kind, .int .i64 c.qu, .int .i64 c.key, .int .i64 c.seq, .int .i64 c.tag, .string ⟨c.body.toArray⟩] 73) = V at *
          generalize wr.heap.size = cb at *
          have HCC : Hid ((ackC t c.qu ([] : List UInt8) c.tag != ackC t c.qu ([] : List UInt8) c.tag) = false ∧ (ackC t c.qu ([] : List UInt8) c.tag == ackC t c.qu ([] : List UInt8) c.tag) = true) := Lib.hid (by simp)
          obtain ⟨cc, hcc⟩ : ∃ cc, cc = ackC t c.qu ([] : List UInt8) c.tag := ⟨_, rfl⟩
          rw [← hcc] at HCC
          have HCD := Lib.hid hcc
          clear hcc
          obtain ⟨hc1, hc2⟩ := HCC.out
          go_region_held3 (fun wx => wx.cell? ⟨cb, 1, none⟩ = some (.int .i64 c.qu) ∧ wx.cell? ⟨cb, 4, none⟩ = some (.int .i64 c.tag))
            (first | exact HS.out _ HK2.out | exact HS.out _ HK1.out | exact HS.out _ HK0.out | exact HS.out _ HKR.out | assumption)
            (first
              | (go_at_call 50; refine (ptw_ack HP0.out c.qu c.tag ([] : List UInt8)).mono ?_; rintro e w13 ⟨rfl, hp1, hk1⟩; rw [← HCD.out]; have HP1 := Lib.hid hp1; have HK1 := Lib.hid (HK0.out.trans hk1); clear hp1 hk1)
              | (go_at_call 51; refine (ptw_rack HP1.out c.qu c.tag ([] : List UInt8)).mono ?_; rintro e w14 ⟨rfl, hp2, hk2⟩; rw [← HCD.out]; have HP2 := Lib.hid hp2; have HK2 := Lib.hid (HK1.out.trans hk2); clear hp2 hk2))
          all_goals
            rename_i hHeld
            clear hHeld
            obtain ⟨T2, hT2⟩ : ∃ T2, T2 = ackT t c.qu ([] : List UInt8) c.tag := ⟨_, rfl⟩
            have HPF := HP2
            rw [← hT2] at HPF
            clear hT2
            obtain ⟨pvf, tvf, pv2f, tv2f, hf1, hf2, -, -⟩ := HPF.out.ex
            obtain ⟨paf, pcf, taf, tcf, rfl, rfl, -, -, -, -⟩ := rx_form hf2
            obtain ⟨⟨-, -, -, -, y4, y5⟩, -⟩ := box6d hf2.bx
            have qw : IntKind.i64.wrap ((T2.put.length : Int) + (T2.tags.length : Int)) = (T2.len : Int) := by
              have hm := HPF.out.may.1
              rw [IntWalk.i64_in _ (by have := hm.1; have := hm.2.1; omega)]
              unfold Tx.len; omega
            have HLF := Lib.hid fun n => Calls.quiet_of (n := n) ((len_any g T2 pvf tvf (w14.drewN n) HPF.out.may.1 (hf1.below (Rg.Below.drewN (Below.refl _ _) n))).mono fun e w' (h : e = .returned (.int .i64 T2.len) ∧ Drew (w14.drewN n) w') => And.intro h.1 (by obtain ⟨m, hm⟩ := h.2; exact ⟨m, hm.symm⟩))
            have qn : ((T2.len : Int) != (T2.len : Int)) = false := by simp
            have qe : ((T2.len : Int) == (T2.len : Int)) = true := by simp
            clear hf1 hf2
            go_wp2_with fail
            go_quiet ((go_at_call 54; exact HLF.out _))
            go_wp2_with fail
            go_roundg (l.length - (i + 1))
            case measure => omega
            case rel => exact ⟨i + 1, T2, by omega, rfl, by simp, HPF.out.below (Rg.Below.drewN (Below.refl _ _) _)⟩
        · have hq0 : (c.kind.tmod 4 + 4).tmod 4 = 3 := by rw [hq]; rfl
          clear hq
          have hp0 : PTw w (wr.alloc (.cells #[.int .i64 c.kind, .int .i64 c.qu, .int .i64 c.key, .int .i64 c.seq, .int .i64 c.tag, .string ⟨c.body.toArray⟩] 73)) g h t t := HP.out.below ((Below.refl _ _).alloc (Nat.le_refl _) _)
          have HP0 := Lib.hid hp0
          clear hp0
          go_upto_region 22 with (first | (go_at_call 52; refine (ptw_take HP0.out).mono ?_; rintro e w13 ⟨pa, pc, ta, tc, rfl, ho1, ho2, hp1⟩; have HO := Lib.hid (And.intro ho1 ho2); have HP1 := Lib.hid hp1; clear ho1 ho2 hp1) | (go_at_call 53; refine (ptw_rtake HP1.out).mono ?_; rintro e w14 ⟨pb, pd, tb, td, rfl, ho1, ho2, hp1, hk1, hk2⟩; have HO2 := Lib.hid (And.intro ho1 ho2); have HO1 := Lib.hid (And.intro (hk1 _ _ HO.out.1) (hk2 _ _ HO.out.2)); have HP2 := Lib.hid hp1; clear ho1 ho2 hp1 hk1 hk2))
          obtain ⟨a1, b1, e1, hr1, -⟩ := OwnE.at mgE HO1.out.1
          obtain ⟨rfl, -, rfl⟩ := Value.slice.inj e1
          obtain ⟨a2, b2, e2, hr2, -⟩ := OwnE.at mgE HO2.out.1
          obtain ⟨rfl, -, rfl⟩ := Value.slice.inj e2
          obtain ⟨a3, b3, e3, hr3, -⟩ := OwnE.at inE HO1.out.2
          obtain ⟨rfl, -, rfl⟩ := Value.slice.inj e3
          obtain ⟨a4, b4, e4, hr4, -⟩ := OwnE.at inE HO2.out.2
          obtain ⟨rfl, -, rfl⟩ := Value.slice.inj e4
          have HR := Lib.hid (And.intro hr1 (And.intro hr2 (And.intro hr3 hr4)))
          have HL8 := Lib.hid (And.intro HP.out.may.1.1 HP.out.may.1.2.1)
          clear e1 e2 e3 e4 hr1 hr2 hr3 hr4 HO HO1 HO2 HP0 HP1 HP
          have c1 : (takeQ t == takeQ t) = true := by simp
          have c2 : (takeQ t != takeQ t) = false := by simp
          have c3 : ((t.put.length : Int) != (t.put.length : Int)) = false := by simp
          have c4 : ((t.tags.length : Int) != (t.tags.length : Int)) = false := by simp
          have c5 : ((t.put.length : Int) == (t.put.length : Int)) = true := by simp
          have c6 : ((t.tags.length : Int) == (t.tags.length : Int)) = true := by simp
          generalize takeQ t = tq at *
          go_wp2_with fail
          go_loopg [17] t.put.length (cmpRel w14 t.put.length)
          case atStart => exact ⟨0, Nat.zero_le _, rfl, rfl, Drew.refl _⟩
          case round =>
            obtain ⟨j, hj, rfl, rfl, hd⟩ := hrel
            have HD := Lib.hid hd
            clear hd
            by_cases hjl : j < t.put.length
            · have j1 : (j : Int) < (t.put.length : Int) := by omega
              have j0 : (0 : Int) ≤ (j : Int) := by omega
              have j2 : IntKind.i64.wrap ((j : Int) + 1) = (j : Int) + 1 := IntWalk.i64_in _ (by have := HL8.out; omega)
              obtain ⟨b, o, rfl, x0, x1, x2, x3, x4⟩ := MgsAt.get (HR.out.1.below HD.out.below) j hjl
              obtain ⟨b', o', rfl, y0, y1, y2, y3, y4⟩ := MgsAt.get (HR.out.2.1.below HD.out.below) j hjl
              have heq := fun wx => mg_eql t.put[j] t.put[j] true (by simp) wx
              have hne := fun wx => mg_neq t.put[j] t.put[j] true (by simp) wx
              go_wp2_with fail
              go_quiet (fail)
              go_wp2_with fail
              go_roundg (t.put.length - (j + 1))
              case measure => omega
              case rel => exact ⟨j + 1, by omega, rfl, by simp, HD.out.more _⟩
            · obtain rfl : j = t.put.length := by omega
              have j1 : ¬ (t.put.length : Int) < (t.put.length : Int) := by omega
              go_wp2_with fail
              go_loopg [18] t.tags.length (cmpRel w14 t.tags.length)
              case atStart => exact ⟨0, Nat.zero_le _, rfl, rfl, HD.out⟩
              case round =>
                obtain ⟨j, hj, rfl, rfl, hd⟩ := hrel
                have HD := Lib.hid hd
                clear hd
                by_cases hjl : j < t.tags.length
                · have j1 : (j : Int) < (t.tags.length : Int) := by omega
                  have j0 : (0 : Int) ≤ (j : Int) := by omega
                  have j2 : IntKind.i64.wrap ((j : Int) + 1) = (j : Int) + 1 := IntWalk.i64_in _ (by have := HL8.out; omega)
                  obtain ⟨b, o, rfl, x0⟩ := InsAt.get (HR.out.2.2.1.below HD.out.below) j hjl
                  obtain ⟨b', o', rfl, y0⟩ := InsAt.get (HR.out.2.2.2.below HD.out.below) j hjl
                  have heq : (t.tags[j] == t.tags[j]) = true := by simp
                  have hne : (t.tags[j] != t.tags[j]) = false := by simp
                  go_wp2_with fail
                  go_quiet (fail)
                  go_wp2_with fail
                  go_roundg (t.tags.length - (j + 1))
                  case measure => omega
                  case rel => exact ⟨j + 1, by omega, rfl, by simp, HD.out.more _⟩
                · obtain rfl : j = t.tags.length := by omega
                  have j1 : ¬ (t.tags.length : Int) < (t.tags.length : Int) := by omega
                  have HP3 := Lib.hid (HP2.out.below HD.out.below)
                  obtain ⟨T2, hT2⟩ : ∃ T2, T2 = tx0 t.pub := ⟨_, rfl⟩
                  have HPF := HP3
                  rw [← hT2] at HPF
                  clear hT2
                  obtain ⟨pvf, tvf, pv2f, tv2f, hf1, hf2, -, -⟩ := HPF.out.ex
                  obtain ⟨paf, pcf, taf, tcf, rfl, rfl, -, -, -, -⟩ := rx_form hf2
                  obtain ⟨⟨-, -, -, -, y4, y5⟩, -⟩ := box6d hf2.bx
                  have qw : IntKind.i64.wrap ((T2.put.length : Int) + (T2.tags.length : Int)) = (T2.len : Int) := by
                    have hm := HPF.out.may.1
                    rw [IntWalk.i64_in _ (by have := hm.1; have := hm.2.1; omega)]
                    unfold Tx.len; omega
                  have HLF := Lib.hid fun n => Calls.quiet_of (n := n) ((len_any g T2 pvf tvf (wr.drewN n) HPF.out.may.1 (hf1.below (Rg.Below.drewN (Below.refl _ _) n))).mono fun e w' (h : e = .returned (.int .i64 T2.len) ∧ Drew (wr.drewN n) w') => And.intro h.1 (by obtain ⟨m, hm⟩ := h.2; exact ⟨m, hm.symm⟩))
                  have qn : ((T2.len : Int) != (T2.len : Int)) = false := by simp
                  have qe : ((T2.len : Int) == (T2.len : Int)) = true := by simp
                  clear hf1 hf2
                  go_wp2_with fail
                  go_quiet ((go_at_call 54; exact HLF.out _))
                  go_wp2_with fail
                  go_roundg (l.length - (i + 1))
                  case measure => omega
                  case rel => exact ⟨i + 1, T2, by omega, rfl, by simp, HPF.out.below (Rg.Below.drewN (Below.refl _ _) _)⟩
        · omega
    · have hlti : ¬ (i : Int) < (l.length : Int) := by omega
      have HB := Lib.hid HP.out.bel
      have HN1 := Lib.hid take_nil
      have HN2 := Lib.hid (pub_nil 0 1 [107] [])
      have HN3 := Lib.hid (ack_nil 0 1 [107])
      have HN4 := Lib.hid len_nil
      clear hg hh
      go_wp2_with (first | (go_at_call 52; refine (HN1.out _).mono ?_; rintro e w2 ⟨rfl, rfl⟩) | (go_at_call 47; refine (HT.out _).mono ?_; rintro e w9 ⟨rfl, hb9⟩; have HB9 := Lib.hid (HB.out.trans (hb9.mono HB.out.size)); clear hb9) | (go_at_call 48; refine (HN2.out _).mono ?_; rintro e w2 ⟨rfl, rfl⟩) | (go_at_call 50; refine (HN3.out _).mono ?_; rintro e w2 ⟨rfl, rfl⟩) | (go_at_call 54; refine (HN4.out _).mono ?_; rintro e w2 ⟨rfl, rfl⟩))
      go_ret
      exact ⟨rfl, HB9.out⟩

end Go.Proofs.Ythohjcfpobeplaa.Bt
