/-
  Law ChannelMandatory, walked.
-/
import Derived.Test.YtiobcgolcoocnaaGreatDoorChTold
namespace Go.Proofs.YtiobcgolcoocnaaGreatDoor.Ch
open Go.RowKit Rg Sh Bt
set_option linter.unusedVariables false
set_option linter.unusedSimpArgs false

theorem me_code {w : World} {s : Nat} {m : Me} {a : Option Addr} {cap : Nat} {i : Int} (h : MeAt w s m a cap) (hi : m.code = i) : w.cell? ⟨s, 6, none⟩ = some (.int .i64 i) := hi ▸ h.cells.2.1
theorem me_key {w : World} {s : Nat} {m : Me} {a : Option Addr} {cap : Nat} {i : ByteArray} (h : MeAt w s m a cap) (hi : m.key = i) : w.cell? ⟨s, 4, none⟩ = some (.string i) := hi ▸ h.cells.1.2.2.2.2.1
set_option maxRecDepth 100000 in
set_option maxHeartbeats 8000000 in
theorem mandatory_any (p0 : ByteArray) (p1 p2 : Bool) (w : World) (w0 : p0.size ≤ maxLen) :
    Calls Tryz.prog 4 #[.string p0, .bool p1, .bool p2] w fun e w' => e = .returned (.bool true) ∧ Below w.heap.size w w' := by
  obtain ⟨s, rfl⟩ : ∃ s : List UInt8, p0 = ⟨s.toArray⟩ := ⟨p0.data.toList, by cases p0; simp⟩
  have hsz : (⟨s.toArray⟩ : ByteArray).size = s.length := rfl
  clear w0
  have HT := Lib.hid told_any
  by_cases h1 : s.length < 1
  · have c1 : (s.length : Int) < 1 := by omega
    go_enter Tryz.func4, Tryz.ntmps4
    go_wp2_with (go_at_call 10; refine (HT.out _).mono ?_; rintro e w1 ⟨rfl, hb1⟩; have HB1 := Lib.hid hb1; clear hb1)
    go_ret
    exact ⟨rfl, HB1.out⟩
  by_cases h2 : 40 < s.length
  · have c1 : ¬ (s.length : Int) < 1 := by omega
    have c2 : (40 : Int) < (s.length : Int) := by omega
    go_enter Tryz.func4, Tryz.ntmps4
    go_wp2_with (go_at_call 10; refine (HT.out _).mono ?_; rintro e w1 ⟨rfl, hb1⟩; have HB1 := Lib.hid hb1; clear hb1)
    go_ret
    exact ⟨rfl, HB1.out⟩
  have c1 : ¬ (s.length : Int) < 1 := by omega
  have c2 : ¬ (40 : Int) < (s.length : Int) := by omega
  have HNE : Hid (s ≠ []) := Lib.hid (by rintro rfl; simp at h1)
  have H40 : Hid (s.length ≤ 40) := Lib.hid (by omega)
  have hn := new_any w
  clear h1 h2
  go_enter Tryz.func4, Tryz.ntmps4
  go_upto_region 6 with (go_at_call 8; refine hn.mono ?_; clear hn; rintro e w1 ⟨rfl, hc1, hb1, -⟩; have HC1 := Lib.hid hc1; have HB1 := Lib.hid hb1; clear hc1 hb1)
  generalize hG : w.heap.size = g at *
  have HG := Lib.hid hG
  clear hG
  have hk := call_begin g (Me.of 2010) none 0 _ _ _ _ _ _ _ w1 (tb_nil w1) (of_wf 2010 (by decide)) (of_may rfl) HC1.out rfl
  go_upto_region 7 with (go_at_call 9; refine hk.mono ?_; clear hk; rintro e w2 ⟨s2, k2, rfl, -, hc2, -, hk2⟩; have HC2 := Lib.hid hc2; have HB2 := Lib.hid (kept_g HB1.out HC1.out.lt hk2); clear hc2 hk2)
  clear HC1 HB1
  cases p1 with
  | true =>
    have hk := op_new g g _ _ (.slice none 0 0) _ _ _ _ [] s w2 (Nat.le_of_lt HC2.out.lt) (by simp) HNE.out H40.out (by decide) HC2.out (OwnE.nil _ _ _ _ _)
    go_upto_region 11 with (go_at_call 9; refine hk.mono ?_; clear hk; rintro e w3 ⟨s3, v3, rfl, -, hc3, ho3, hk3, -⟩; have HC3 := Lib.hid hc3; have HO3 : Hid (OwnS w3 g v3 [s]) := Lib.hid ho3; have HB3 := Lib.hid (kept_g HB2.out HC2.out.lt hk3); clear hc3 ho3 hk3)
    clear HC2 HB2
    have hk := op_pub_self g none 0 0 none 0 0 g v3 _ _ _ _ [s] s p2 w3 (by simp) (Nat.le_trans H40.out (by decide)) HC3.out HO3.out
    go_upto_region 12 with (go_at_call 9; refine hk.mono ?_; clear hk; rintro e w4 ⟨rfl, hb4⟩; have HC4 := Lib.hid (HC3.out.below hb4); have HB4 := Lib.hid (HB3.out.trans (hb4.mono (Nat.le_of_lt HC3.out.lt))); clear hb4)
    clear HC3 HB3 HO3
    go_wp2_with (first
      | (go_at_call 10; refine (HT.out _).mono ?_; rintro e w9 ⟨rfl, hb9⟩; have HC9 := Lib.hid (HC4.out.below hb9); have HB9 := Lib.hid (HB4.out.trans (hb9.mono (Nat.le_of_lt HC4.out.lt))); clear hb9)
      | (go_at_call 11; refine (open_any g 1 _ _ _ _ _ _ _ _ HC9.out).mono ?_; rintro e w10 ⟨rfl, rfl⟩)
      | fail)
    go_ret
    exact ⟨rfl, HG.out ▸ HB9.out⟩
  | false =>
    cases p2 with
    | false =>
      have hk := op_pub_lost g none 0 0 none 0 0 g (.slice none 0 0) _ _ _ _ [] s w2 (by simp) (Nat.le_trans H40.out (by decide)) HC2.out (OwnE.nil _ _ _ _ _)
      have q0 : (s == s) = true := by simp
      go_upto_region 12 with (go_at_call 9; refine hk.mono ?_; clear hk; rintro e w4 ⟨rfl, hb4⟩; have HC4 := Lib.hid (HC2.out.below hb4); have HB4 := Lib.hid (HB2.out.trans (hb4.mono (Nat.le_of_lt HC2.out.lt))); clear hb4)
      clear HC2 HB2
      go_wp2_with (first
        | (go_at_call 10; refine (HT.out _).mono ?_; rintro e w9 ⟨rfl, hb9⟩; have HC9 := Lib.hid (HC4.out.below hb9); have HB9 := Lib.hid (HB4.out.trans (hb9.mono (Nat.le_of_lt HC4.out.lt))); clear hb9)
        | (go_at_call 11; refine (open_any g 1 _ _ _ _ _ _ _ _ HC9.out).mono ?_; rintro e w10 ⟨rfl, rfl⟩)
        | fail)
      go_ret
      exact ⟨rfl, HG.out ▸ HB9.out⟩
    | true =>
      have hk := op_pub_back g none 0 0 none 0 0 g (.slice none 0 0) _ _ _ _ [] s w2 (by simp) (Nat.le_trans H40.out (by decide)) HC2.out (OwnE.nil _ _ _ _ _)
      have q0 : (s == s) = true := by simp
      go_upto_region 12 with (go_at_call 9; refine hk.mono ?_; clear hk; rintro e w4 ⟨s4, rfl, hm4, hb4⟩; have HM4 := Lib.hid hm4; clear hm4; have HC4 := Lib.hid (HC2.out.below hb4); have HB4 := Lib.hid (HB2.out.trans (hb4.mono (Nat.le_of_lt HC2.out.lt))); clear hb4)
      clear HC2 HB2
      go_wp2_with (first
        | (go_at_call 10; refine (HT.out _).mono ?_; rintro e w9 ⟨rfl, hb9⟩; have HC9 := Lib.hid (HC4.out.below hb9); have HB9 := Lib.hid (HB4.out.trans (hb9.mono (Nat.le_of_lt HC4.out.lt))); have d0 := me_id (box_bl HM4.out hb9) (i := 6050) rfl; have d6 := me_code (box_bl HM4.out hb9) (i := 312) rfl; have d4 := me_key (box_bl HM4.out hb9) (i := ⟨s.toArray⟩) rfl; clear hb9)
        | (go_at_call 11; refine (open_any g 1 _ _ _ _ _ _ _ _ HC9.out).mono ?_; rintro e w10 ⟨rfl, rfl⟩)
        | fail)
      go_ret
      exact ⟨rfl, HG.out ▸ HB9.out⟩

end Go.Proofs.YtiobcgolcoocnaaGreatDoor.Ch
