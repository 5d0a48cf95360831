/-
  Law 16's told and opened, walked.
-/
import Derived.Test.YtiobcgolcoocnaaGreatDoorChOp
namespace Go.Proofs.YtiobcgolcoocnaaGreatDoor.Ch
open Go.RowKit Rg Sh Bt
set_option linter.unusedVariables false
set_option linter.unusedSimpArgs false

theorem kept_g {g : Nat} {w w1 w2 : World} (h : Below g w w1) (hg : g < w1.heap.size) (k : Kept [g] w1 w2) : Below g w w2 :=
  h.trans (k.below (Nat.le_of_lt hg) fun b hb => by simp at hb; omega)
theorem kept_wrt {g B : Nat} {w w1 w2 : World} {q : Value} {l : List (List UInt8)} (h : Below B w w1) (hB : B ≤ g) (hg : g < w1.heap.size) (ho : OwnS w1 B q l) (k : Kept (wrt g q) w1 w2) : Below B w w2 :=
  h.trans (k.below (by omega) fun b hb => by
    rcases mem_wrt.1 hb with rfl | hb
    · exact hB
    · exact (World.ownsRow.lt ho b hb).1)
/-- an open channel with nothing in it. -/
def Opn (w : World) (g k : Nat) : Prop := ChB w g 1 (.slice none 0 0) (.slice none 0 0) (.slice none 0 0) (.slice none 0 0) (.pointer (some ⟨k, 0, none⟩)) false false

theorem me_ne {w : World} {s g : Nat} {m : Me} {a : Option Addr} {cap : Nat} {st : Int} {x b q c p : Value} {cf tx : Bool} (h1 : MeAt w s m a cap) (h2 : ChB w g st x b q c p cf tx) : s ≠ g := by
  intro e
  subst e
  unfold MeAt at h1
  unfold ChB at h2
  rw [h1] at h2
  injection h2 with h2
  injection h2 with _ h2
  exact absurd h2 (by decide)
theorem me_kept {w w' : World} {s g B : Nat} {m : Me} {a : Option Addr} {cap : Nat} {st : Int} {x b q c p : Value} {cf tx : Bool} {v : Value} {l : List (List UInt8)} (h1 : MeAt w s m a cap) (h2 : ChB w g st x b q c p cf tx) (h3 : OwnS w B v l) (k : Kept (wrt g v) w w') : MeAt w' s m a cap :=
  k.box h1 fun hm => by
    rcases mem_wrt.1 hm with h | h
    · exact me_ne h1 h2 h
    · exact own_box h3 h1 (by decide) h
/-- where it is answered first, as a number. -/
theorem me_id {w : World} {s : Nat} {m : Me} {a : Option Addr} {cap : Nat} {i : Int} (h : MeAt w s m a cap) (hi : m.id = i) : w.cell? ⟨s, 0, none⟩ = some (.int .i64 i) := hi ▸ h.cells.1.1
theorem me_count {w : World} {s : Nat} {m : Me} {a : Option Addr} {cap : Nat} {i : Int} (h : MeAt w s m a cap) (hi : m.count = i) : w.cell? ⟨s, 7, none⟩ = some (.int .i64 i) := hi ▸ h.cells.2.2.1

set_option maxRecDepth 100000 in
set_option maxHeartbeats 8000000 in
theorem told_any (w : World) : Calls Tryz.prog 10 #[] w fun e w' => e = .returned (.bool true) ∧ Below w.heap.size w w' := by
  have hn := new_any w
  go_enter Tryz.func10, Tryz.ntmps10
  go_upto_region 4 with (go_at_call 8; refine hn.mono ?_; clear hn; rintro e w1 ⟨rfl, hc1, hb1, -⟩; have HC1 := Lib.hid hc1; have HB1 := Lib.hid hb1; clear hc1 hb1)
  generalize hG : w.heap.size = g at *
  have HG := Lib.hid hG
  clear hG
  have hk := call_wrong g (pubM [113] false) none 0 _ _ _ _ _ _ _ w1 (tb_nil w1) (pubM_wf _ _ (by decide)) (pubM_may _ _ (by decide)) HC1.out (by decide : ¬ (6040 : Int) = 2010)
  go_upto_region 5 with (go_at_call 9; refine hk.mono ?_; clear hk; rintro e w2 ⟨s2, rfl, -, hc2, hk2⟩; have HC2 := Lib.hid hc2; have HB2 := Lib.hid (kept_g HB1.out HC1.out.lt hk2); clear hc2 hk2)
  have hk := call_pass g (Me.of 2010) none 0 _ _ _ _ _ _ _ w2 (tb_nil w2) (of_wf 2010 (by decide)) (of_may rfl) HC2.out (by decide : ¬ (2010 : Int) = 2040) (by decide : ¬ (2010 : Int) = 2041)
  go_upto_region 6 with (go_at_call 9; refine hk.mono ?_; clear hk; rintro e w3 ⟨rfl, hb3⟩; have HC3 := Lib.hid (HC2.out.below hb3); have HB3 := Lib.hid (HB2.out.trans (hb3.mono (Nat.le_of_lt HC2.out.lt))); clear hb3)
  have hk := call_known g (Me.of 2041) none 0 _ _ _ _ _ _ _ w3 (tb_nil w3) (of_wf 2041 (by decide)) (of_may rfl) HC3.out rfl
  go_upto_region 7 with (go_at_call 9; refine hk.mono ?_; clear hk; rintro e w4 ⟨rfl, hc4, hk4⟩; have HC4 := Lib.hid hc4; have HB4 := Lib.hid (kept_g HB3.out HC3.out.lt hk4); clear hc4 hk4)
  have hk := call_begin g (Me.of 2010) none 0 _ _ _ _ _ _ _ w4 (tb_nil w4) (of_wf 2010 (by decide)) (of_may rfl) HC4.out rfl
  go_upto_region 8 with (go_at_call 9; refine hk.mono ?_; clear hk; rintro e w5 ⟨s5, k5, rfl, hm5, hc5, -, hk5⟩; have HM5 := Lib.hid hm5; have HC5 := Lib.hid hc5; have HB5 := Lib.hid (kept_g HB4.out HC4.out.lt hk5); clear hm5 hc5 hk5)
  have hk := op_new g g _ _ (.slice none 0 0) _ _ _ _ [] [113] w5 (Nat.le_of_lt HC5.out.lt) (by simp) (by simp) (by decide) (by decide) HC5.out (OwnE.nil _ _ _ _ _)
  go_upto_region 9 with (go_at_call 9; refine hk.mono ?_; clear hk; rintro e w6 ⟨s6, v6, rfl, hm6, hc6, ho6, hk6, -⟩; have HM6 := Lib.hid hm6; have HN6 := Lib.hid (me_kept HM5.out HC5.out (OwnE.nil _ _ _ _ g : OwnS w5 g (.slice none 0 0) []) hk6); have HC6 := Lib.hid hc6; have HO6 : Hid (OwnS w6 g v6 [[113]]) := Lib.hid ho6; have HB6 := Lib.hid (kept_g HB5.out HC5.out.lt hk6); clear hm6 hc6 ho6 hk6)
  clear HC1 HB1 HC2 HB2 HC3 HB3 HC4 HB4 HC5 HB5 HM5
  obtain ⟨a6, c6, rfl, hr6, -⟩ := OwnE.at stE HO6.out
  have hk := routes_self g 1 none 0 0 none 0 0 a6 _ c6 (.slice none 0 0) _ false false [[113]] [113] w6 rfl (by simp) HC6.out hr6
  have HR6 := Lib.hid hr6
  clear hr6
  go_upto_region 11 with (go_at_call 16; refine hk.mono ?_; clear hk; rintro e w7 ⟨s7, rfl, -, hb7⟩; have HC7 := Lib.hid (HC6.out.below hb7); have HM7 := Lib.hid (box_bl HM6.out hb7); have HN7 := Lib.hid (box_bl HN6.out hb7); have HR7 := Lib.hid (HR6.out.below hb7); have HB7 := Lib.hid (HB6.out.trans (hb7.mono (Nat.le_of_lt HC6.out.lt))); clear hb7)
  clear HC6 HM6 HN6 HR6 HO6 HB6
  have hk := call_nil (Me.of 2010) none 0 w7
  go_wp2_with (first
    | (go_at_call 9; refine hk.mono ?_; clear hk; rintro e w8 ⟨rfl, hb8⟩; have HC8 := Lib.hid (HC7.out.below hb8); have d1 := me_id (box_bl HN7.out hb8) (i := 2011) rfl; have d2 := me_count (box_bl HM7.out hb8) (i := 1) rfl; have HR8 := Lib.hid (HR7.out.below hb8); have HB8 := Lib.hid (HB7.out.trans (hb8.mono (Nat.le_of_lt HC7.out.lt))); clear hb8)
    | (go_at_call 11; (with_reducible refine (open_any g 1 _ _ _ _ _ _ _ _ HC8.out).mono ?_); rintro e w9 ⟨rfl, rfl⟩)
    | (go_at_call 13; refine (queues_any g 1 _ _ a6 _ c6 _ _ _ _ [[113]] w8 rfl (by decide) HC8.out HR8.out).mono ?_; rintro e w10 ⟨v10, rfl, ho10, hb10⟩; obtain ⟨a10, c10, rfl, -, -⟩ := OwnE.at stE ho10; have HB10 := Lib.hid (HB8.out.trans (hb10.mono (Nat.le_of_lt HC8.out.lt))); clear ho10 hb10)
    | (go_at_call 11; (with_reducible refine (open_nil _).mono ?_); rintro e w11 ⟨rfl, rfl⟩)
    | fail)
  go_ret
  exact ⟨rfl, HG.out ▸ HB10.out⟩

end Go.Proofs.YtiobcgolcoocnaaGreatDoor.Ch
