/-
  Law ChannelModes, walked.
-/
import Derived.Test.YtiobcgolcoocnaaGreatDoorChTold
import Derived.Test.YtiobcgolcoocnaaGreatDoorUp
import Derived.Test.YtiobcgolcoocnaaGreatDoorRow
namespace Go.Proofs.YtiobcgolcoocnaaGreatDoor.Ch
open Go.RowKit Rg Sh Bt
set_option linter.unusedVariables false
set_option linter.unusedSimpArgs false

def wC (x : Int) : List Value := [.int .i64 x]
abbrev WsAt := RowsAt 1 wC
theorem WsAt.get {w : World} {a : Option Addr} {cap : Nat} {l : List Int} (h : WsAt w a cap l) (i : Nat) (hi : i < l.length) :
    ∃ b o, a = some ⟨b, o, none⟩ ∧ w.cell? ⟨b, o + i, none⟩ = some (.int .i64 l[i]) := by
  obtain ⟨b, o, ha, hc⟩ := h.at' (by omega)
  have := hc i hi 0 _ rfl
  rw [Nat.mul_one, Nat.add_zero] at this
  exact ⟨b, o, ha, this⟩
theorem ws_of_row {w : World} {a : Option Addr} {len cap : Nat} {z : List Int} (h : IsRow .i64 w a len cap z) : (z.take len).length = len ∧ WsAt w a cap (z.take len) := by
  rcases h with ⟨rfl, rfl, rfl, rfl⟩ | ⟨x, rfl, hlc, hcm, hz, hc, _⟩
  · exact ⟨rfl, RowsAt.nil _ _ _ _ _ (by simp [maxLen])⟩
  · have hl : (z.take len).length = len := by rw [List.length_take]; omega
    refine ⟨hl, ⟨by omega, hcm, fun h0 => ?_⟩⟩
    obtain ⟨b, off, rfl⟩ := addr_of (hc 0 (by omega))
    refine ⟨b, off, rfl, fun i hi r v hv => ?_⟩
    have hr : r = 0 := by
      have := (List.getElem?_eq_some_iff.1 hv).1
      rw [show (wC (z.take len)[i]).length = 1 from rfl] at this
      omega
    subst hr
    have := hc i (by omega)
    rw [add_at] at this
    rw [Nat.mul_one, Nat.add_zero, this]
    have e : (z.take len)[i] = z.getD i 0 := by
      rw [List.getElem_take, List.getD_eq_getElem?_getD, List.getElem?_eq_getElem (by omega)]
      rfl
    rw [← e]
    exact hv

/-- which modes may be. -/
def okM (cf tx : Bool) : Prop := ¬ (cf = true ∧ tx = true)
theorem okM3 {cf tx : Bool} (h : okM cf tx) : (cf = false ∧ tx = false) ∨ (cf = true ∧ tx = false) ∨ (cf = false ∧ tx = true) := by
  unfold okM at h
  cases cf <;> cases tx
  · exact .inl ⟨rfl, rfl⟩
  · exact .inr (.inr ⟨rfl, rfl⟩)
  · exact .inr (.inl ⟨rfl, rfl⟩)
  · exact absurd ⟨rfl, rfl⟩ h
def modRel (w : World) (g k K : Nat) (m : Nat) (v6 v7 v8 : Value) (wr : World) : Prop :=
  ∃ (i : Nat) (cf tx : Bool), i ≤ K ∧ m = K - i ∧ v6 = .bool cf ∧ v7 = .bool tx ∧ v8 = .int .i64 i ∧ okM cf tx ∧ ChB wr g 1 (.slice none 0 0) (.slice none 0 0) (.slice none 0 0) (.slice none 0 0) (.pointer (some ⟨k, 0, none⟩)) cf tx ∧ Below g w wr

set_option maxRecDepth 100000 in
set_option maxHeartbeats 8000000 in
theorem modes_law (a0 : Option Addr) (len0 cap0 : Nat) (z0 : List Int) (w : World) (w0 : IsRow .i64 w a0 len0 cap0 z0) :
    Calls Tryz.prog 3 #[.slice a0 len0 cap0] w fun e w' => e = .returned (.bool true) ∧ Below w.heap.size w w' := by
  have HT := Lib.hid told_any
  obtain ⟨hl, hat⟩ := ws_of_row w0
  generalize z0.take len0 = l at *
  have hcap := hat.max
  have hlen := hat.len
  unfold maxLen at hcap
  have hl9 : len0 ≤ 9223372036854775807 := by omega
  have HL := Lib.hid hl
  have HAT := Lib.hid hat
  clear hl hat w0 hcap hlen
  have hn := new_any w
  go_enter Tryz.func3, Tryz.ntmps3
  go_upto_region 4 with (go_at_call 8; refine hn.mono ?_; clear hn; rintro e w1 ⟨rfl, hc1, hb1, -⟩; have HC1 := Lib.hid hc1; have HB1 := Lib.hid hb1; clear hc1 hb1)
  generalize hG : w.heap.size = g at *
  have HG := Lib.hid hG
  clear hG
  have hk := call_begin g (Me.of 2010) none 0 _ _ _ _ _ _ _ w1 (tb_nil w1) (of_wf 2010 (by decide)) (of_may rfl) HC1.out rfl
  go_upto_region 7 with (go_at_call 9; refine hk.mono ?_; clear hk; rintro e w2 ⟨s2, k, rfl, -, hc2, -, hk2⟩; have HC2 := Lib.hid hc2; have HB2 := Lib.hid (kept_g HB1.out HC1.out.lt hk2); clear hc2 hk2)
  clear HC1 HB1
  obtain ⟨K, hK⟩ : ∃ K, K = min len0 20 := ⟨_, rfl⟩
  have HK := Lib.hid hK
  clear hK
  go_wp2_with fail
  go_loopg [6, 7, 8] K (modRel w g k K)
  case atStart => exact ⟨0, false, false, Nat.zero_le _, rfl, rfl, rfl, rfl, (by rintro ⟨h, -⟩; cases h), HC2.out, HB2.out⟩
  case round =>
    obtain ⟨i, cf, tx, hi, rfl, rfl, rfl, rfl, hok, hc, hb⟩ := hrel
    have HC := Lib.hid hc
    have HB := Lib.hid hb
    have HOK := Lib.hid hok
    clear hc hb hok HC2 HB2
    by_cases hlt : i < K
    · have q0 : (i : Int) < (len0 : Int) := by have := HK.out; omega
      have q1 : (i : Int) < 20 := by have := HK.out; omega
      have q2 : (0 : Int) ≤ (i : Int) := by omega
      have q3 : IntKind.i64.wrap ((i : Int) + 1) = (i : Int) + 1 := IntWalk.i64_in _ (by omega)
      obtain ⟨b, o, rfl, d0⟩ := WsAt.get (HAT.out.below (HG.out.symm ▸ HB.out)) i (by rw [HL.out]; have := HK.out; omega)
      generalize l[i]'(by rw [HL.out]; have := HK.out; omega) = x at *
      obtain ⟨ha1, ha2⟩ := u64_mod x 4 (by decide)
      rw [show ((4 : Nat) : Int) = 4 from rfl] at ha1
      generalize u64m x 4 = n at *
      have HR : ∀ (cf' tx' : Bool) (w' : World), okM cf' tx' → ChB w' g 1 (.slice none 0 0) (.slice none 0 0) (.slice none 0 0) (.slice none 0 0) (.pointer (some ⟨k, 0, none⟩)) cf' tx' → Below g w w' → modRel w g k K (K - (i + 1)) (.bool cf') (.bool tx') (.int .i64 ((i : Int) + 1)) w' := fun cf' tx' w' h1 h2 h3 => ⟨i + 1, cf', tx', by omega, rfl, rfl, rfl, by go_num, h1, h2, h3⟩
      have HRR := Lib.hid HR
      clear HR
      have hn4 : n = 0 ∨ n = 1 ∨ n = 2 ∨ n = 3 := by omega
      have hm3 := okM3 HOK.out
      clear HOK
      rcases hn4 with rfl | rfl | rfl | rfl
      · rw [show (((0 : Nat)) : Int) = 0 from rfl] at ha1
        have W1 := Lib.hid (one_box (w := wr) (.cells #[.int .i64 8510, .int .i64 9010, .int .i64 9020, .int .i64 9030] 3))
        rcases hm3 with ⟨rfl, rfl⟩ | ⟨rfl, rfl⟩ | ⟨rfl, rfl⟩
        · have tt : True := trivial
          have hk := op_sel g _ _ _ _ _ false _ (HC.out.below W1.out.2.1)
          go_upto_region 16 with (go_at_call 9; refine hk.mono ?_; clear hk; rintro e w2 ⟨s2, rfl, hm2, hc2, hk2⟩; have HM2 := Lib.hid hm2; have HC2 := Lib.hid hc2; have HB2 := Lib.hid (kept_g (HB.out.trans (W1.out.2.1.mono (Nat.le_of_lt HC.out.lt))) (HC.out.below W1.out.2.1).lt hk2); clear hm2 hc2 hk2)
          have d1 := me_id HM2.out (i := 8511) rfl
          have HA : Hid (Below w2.heap.size w2 (w2.alloc (.cells #[.int .i64 8511, .int .i64 9011, .int .i64 9021, .int .i64 9031] 3))) := Lib.hid ((Below.refl _ _).alloc (Nat.le_refl _) _)

          have HD : Hid ((w2.drew.alloc (.cells #[.int .i64 8511, .int .i64 9011, .int .i64 9021, .int .i64 9031] 3)).cell? ⟨s2, 0, none⟩ = some (.int .i64 8511)) := Lib.hid (me_id (box_bl (box_bl HM2.out (Below.refl _ _).drew) ((Below.refl _ _).alloc (Nat.le_refl _) _)) rfl)
          have HE : Hid ((w2.drew.alloc (.cells #[.int .i64 8511, .int .i64 9011, .int .i64 9021, .int .i64 9031] 3)).cell? ⟨w2.heap.size, 0, none⟩ = some (.int .i64 8511)) := Lib.hid (by show (w2.drew.alloc (.cells #[.int .i64 8511, .int .i64 9011, .int .i64 9021, .int .i64 9031] 3)).cell? ⟨w2.drew.heap.size, 0, none⟩ = _; rw [cell_of_row _ _ _ _ _ _ (heap_alloc_new w2.drew _)]; rfl)
          refine wp_region_noPanic ?_
          refine wp_region_held_drew (S := (fun wx => wx.cell? ⟨s2, 0, none⟩ = some (.int .i64 8511))) (by kernel_rfl) ?_ (fun hHeld => ?_)
          · exact d1
          refine wpAnyH_take (i := 0) (oi := ⟨some 82, _, _, _, _, _⟩) (v := ?_) rfl (by kernel_rfl) (by kernel_rfl) (by kernel_rfl) (fun _ _ _ h => h) (Or.inl ⟨by rfl, ?_⟩) (by assumption) ?_
          rotate_left
          · intro w' hSw
            (try dsimp only at hSw)
            go_simp
            try with_reducible rfl
          simp only [Act.put, List.setIfInBounds_toArray, List.set_cons_zero, List.set_cons_succ]
          refine wpAnyH_take (i := 1) (oi := ⟨some 83, _, _, _, _, _⟩) (v := ?_) rfl (by kernel_rfl) (by kernel_rfl) (by kernel_rfl) (fun _ _ _ h => h) (Or.inl ⟨by rfl, ?_⟩) (by assumption) ?_
          rotate_left
          · intro w' hSw
            (try dsimp only at hSw)
            go_simp
            try with_reducible rfl
          simp only [Act.put, List.setIfInBounds_toArray, List.set_cons_zero, List.set_cons_succ]
          refine wpAnyH_take (i := 2) (oi := ⟨some 84, _, _, _, _, _⟩) (v := ?_) rfl (by kernel_rfl) (by kernel_rfl) (by kernel_rfl) (fun _ _ _ h => h) (Or.inl ⟨by rfl, ?_⟩) (by assumption) ?_
          rotate_left
          · intro w' hSw
            (try dsimp only at hSw)
            go_simp
            try with_reducible rfl
          simp only [Act.put, List.setIfInBounds_toArray, List.set_cons_zero, List.set_cons_succ]
          refine wpAnyH_take (i := 3) (oi := ⟨some 85, _, _, _, _, _⟩) (v := ?_) rfl (by kernel_rfl) (by kernel_rfl) (by kernel_rfl) (fun _ _ _ h => h) (Or.inl ⟨by rfl, ?_⟩) (by assumption) ?_
          rotate_left
          · intro w' hSw
            (try dsimp only at hSw)
            go_simp
            try with_reducible rfl
          simp only [Act.put, List.setIfInBounds_toArray, List.set_cons_zero, List.set_cons_succ]
          refine wpAnyH_take (i := 4) (oi := ⟨some 86, _, _, _, _, _⟩) (v := ?_) rfl (by kernel_rfl) (by kernel_rfl) (by kernel_rfl) (fun _ _ _ h => h) (Or.inl ⟨by rfl, ?_⟩) (by assumption) ?_
          rotate_left
          · intro w' hSw
            (try dsimp only at hSw)
            go_simp
            try with_reducible rfl
          simp only [Act.put, List.setIfInBounds_toArray, List.set_cons_zero, List.set_cons_succ]
          refine wpAnyH_take (i := 5) (oi := ⟨some 87, _, _, _, _, _⟩) (v := ?_) rfl (by kernel_rfl) (by kernel_rfl) (by kernel_rfl) (fun _ _ _ h => h) (Or.inl ⟨by rfl, ?_⟩) (by assumption) ?_
          rotate_left
          · intro w' hSw
            (try dsimp only at hSw)
            go_simp
            try with_reducible rfl
          simp only [Act.put, List.setIfInBounds_toArray, List.set_cons_zero, List.set_cons_succ]
          refine wpAnyH_take (i := 6) (oi := ⟨some 88, _, _, _, _, _⟩) (v := ?_) rfl (by kernel_rfl) (by kernel_rfl) (by kernel_rfl) (fun _ _ _ h => h) (Or.inl ⟨by rfl, ?_⟩) (by assumption) ?_
          rotate_left
          · intro w' hSw
            (try dsimp only at hSw)
            go_simp
            try with_reducible rfl
          simp only [Act.put, List.setIfInBounds_toArray, List.set_cons_zero, List.set_cons_succ]
          refine wpAnyH_take (i := 7) (oi := ⟨some 89, _, _, _, _, _⟩) (v := ?_) rfl (by kernel_rfl) (by kernel_rfl) (by kernel_rfl) (fun _ _ _ h => h) (Or.inl ⟨by rfl, ?_⟩) (by assumption) ?_
          rotate_left
          · intro w' hSw
            (try dsimp only at hSw)
            go_simp
            try with_reducible rfl
          simp only [Act.put, List.setIfInBounds_toArray, List.set_cons_zero, List.set_cons_succ]
          refine wpAnyH_take (i := 8) (oi := ⟨some 90, _, _, _, _, _⟩) (v := ?_) rfl (by kernel_rfl) (by kernel_rfl) (by kernel_rfl) (fun _ _ _ h => h) (Or.inl ⟨by rfl, ?_⟩) (by assumption) ?_
          rotate_left
          · intro w' hSw
            (try dsimp only at hSw)
            go_simp
            try with_reducible rfl
          simp only [Act.put, List.setIfInBounds_toArray, List.set_cons_zero, List.set_cons_succ]
          refine wpAnyH_take (i := 9) (oi := ⟨some 91, _, _, _, _, _⟩) (v := ?_) rfl (by kernel_rfl) (by kernel_rfl) (by kernel_rfl) (fun _ _ _ h => h) (Or.inl ⟨by rfl, ?_⟩) (by assumption) ?_
          rotate_left
          · intro w' hSw
            (try dsimp only at hSw)
            go_simp
            try with_reducible rfl
          simp only [Act.put, List.setIfInBounds_toArray, List.set_cons_zero, List.set_cons_succ]
          refine wpAnyH_take (i := 10) (oi := ⟨some 92, _, _, _, _, _⟩) (v := ?_) rfl (by kernel_rfl) (by kernel_rfl) (by kernel_rfl) (fun _ _ _ h => h) (Or.inl ⟨by rfl, ?_⟩) (by assumption) ?_
          rotate_left
          · intro w' hSw
            (try dsimp only at hSw)
            go_simp
            try with_reducible rfl
          simp only [Act.put, List.setIfInBounds_toArray, List.set_cons_zero, List.set_cons_succ]
          refine wpAnyH_take (i := 11) (oi := ⟨some 93, _, _, _, _, _⟩) (v := ?_) rfl (by kernel_rfl) (by kernel_rfl) (by kernel_rfl) (fun _ _ _ h => h) (Or.inl ⟨by rfl, ?_⟩) (by assumption) ?_
          rotate_left
          · intro w' hSw
            (try dsimp only at hSw)
            go_simp
            try with_reducible rfl
          simp only [Act.put, List.setIfInBounds_toArray, List.set_cons_zero, List.set_cons_succ]
          refine wpAnyH_take (i := 13) (oi := ⟨some 95, _, _, _, _, _⟩) (v := ?_) rfl (by kernel_rfl) (by kernel_rfl) (by kernel_rfl) (fun _ _ _ h => h) (Or.inl ⟨by rfl, ?_⟩) (by assumption) ?_
          rotate_left
          · intro w' hSw
            (try dsimp only at hSw)
            go_simp
            try with_reducible rfl
          simp only [Act.put, List.setIfInBounds_toArray, List.set_cons_zero, List.set_cons_succ]
          refine wpAnyH_ready (rs := [12]) (by kernel_rfl) (by simp) ?_
          refine AllReadyH.cons (o := ⟨some 94, _, _, _, _, _⟩) rfl (fun K hK => ?_) AllReadyH.nil
          go_simp
          
          refine hK.out _ _ ?_ (fun hHeld => ?_)
          · exact HD.out
          clear hK K
          try simp only [Act.put, List.setIfInBounds_toArray, List.set_cons_zero, List.set_cons_succ]
          refine wpAnyH_up (S' := (fun wx => wx.cell? ⟨s2, 0, none⟩ = some (.int .i64 8511) ∧ wx.cell? ⟨w2.heap.size, 0, none⟩ = some (.int .i64 8511))) (fun _ h => h.1) _ _ _ _ ?_
          have hHeld2 := And.intro hHeld HE.out
          clear hHeld
          have hHeld := hHeld2
          clear hHeld2
          refine wpAnyH_take (i := 14) (oi := ⟨some 96, _, _, _, _, _⟩) (v := ?_) rfl (by kernel_rfl) (by kernel_rfl) (by kernel_rfl) (fun _ _ _ h => h) (Or.inl ⟨by rfl, ?_⟩) (by assumption) ?_
          rotate_left
          · intro w' hSw
            (try dsimp only at hSw)
            go_simp
            try with_reducible rfl
          simp only [Act.put, List.setIfInBounds_toArray, List.set_cons_zero, List.set_cons_succ]
          refine wpAnyH_take (i := 15) (oi := ⟨some 97, _, _, _, _, _⟩) (v := ?_) rfl (by kernel_rfl) (by kernel_rfl) (by kernel_rfl) (fun _ _ _ h => h) (Or.inl ⟨by rfl, ?_⟩) (by assumption) ?_
          rotate_left
          · intro w' hSw
            (try dsimp only at hSw)
            go_simp
            try with_reducible rfl
          simp only [Act.put, List.setIfInBounds_toArray, List.set_cons_zero, List.set_cons_succ]
          refine wpAnyH_take (i := 16) (oi := ⟨some 98, _, _, _, _, _⟩) (v := ?_) rfl (by kernel_rfl) (by kernel_rfl) (by kernel_rfl) (fun _ _ _ h => h) (Or.inl ⟨by rfl, ?_⟩) (by assumption) ?_
          rotate_left
          · intro w' hSw
            (try dsimp only at hSw)
            go_simp
            try with_reducible rfl
          simp only [Act.put, List.setIfInBounds_toArray, List.set_cons_zero, List.set_cons_succ]
          refine wpAnyH_take (i := 17) (oi := ⟨some 99, _, _, _, _, _⟩) (v := ?_) rfl (by kernel_rfl) (by kernel_rfl) (by kernel_rfl) (fun _ _ _ h => h) (Or.inl ⟨by rfl, ?_⟩) (by assumption) ?_
          rotate_left
          · intro w' hSw
            (try dsimp only at hSw)
            go_simp
            try with_reducible rfl
          simp only [Act.put, List.setIfInBounds_toArray, List.set_cons_zero, List.set_cons_succ]
          refine wpAnyH_done (by kernel_rfl) ?_ _
          refine NoPanic.normal ?_

          go_wp2_with fail
          go_roundg (K - (i + 1))
          case measure => omega
          case rel => exact HRR.out true false _ (by rintro ⟨-, h⟩; cases h) (HC2.out.below ((Below.refl _ _).alloc (Nat.le_refl _) _).drew) (HB2.out.trans ((((Below.refl w2.heap.size w2).alloc (Nat.le_refl _) _).drew).mono (Nat.le_of_lt HC2.out.lt)))
        · have tt : True := trivial
          have hk := op_sel g _ _ _ _ _ true _ (HC.out.below W1.out.2.1)
          go_upto_region 16 with (go_at_call 9; refine hk.mono ?_; clear hk; rintro e w2 ⟨s2, rfl, hm2, hc2, hk2⟩; have HM2 := Lib.hid hm2; have HC2 := Lib.hid hc2; have HB2 := Lib.hid (kept_g (HB.out.trans (W1.out.2.1.mono (Nat.le_of_lt HC.out.lt))) (HC.out.below W1.out.2.1).lt hk2); clear hm2 hc2 hk2)
          have d1 := me_id HM2.out (i := 8511) rfl
          have HA : Hid (Below w2.heap.size w2 (w2.alloc (.cells #[.int .i64 8511, .int .i64 9011, .int .i64 9021, .int .i64 9031] 3))) := Lib.hid ((Below.refl _ _).alloc (Nat.le_refl _) _)

          have HD : Hid ((w2.drew.alloc (.cells #[.int .i64 8511, .int .i64 9011, .int .i64 9021, .int .i64 9031] 3)).cell? ⟨s2, 0, none⟩ = some (.int .i64 8511)) := Lib.hid (me_id (box_bl (box_bl HM2.out (Below.refl _ _).drew) ((Below.refl _ _).alloc (Nat.le_refl _) _)) rfl)
          have HE : Hid ((w2.drew.alloc (.cells #[.int .i64 8511, .int .i64 9011, .int .i64 9021, .int .i64 9031] 3)).cell? ⟨w2.heap.size, 0, none⟩ = some (.int .i64 8511)) := Lib.hid (by show (w2.drew.alloc (.cells #[.int .i64 8511, .int .i64 9011, .int .i64 9021, .int .i64 9031] 3)).cell? ⟨w2.drew.heap.size, 0, none⟩ = _; rw [cell_of_row _ _ _ _ _ _ (heap_alloc_new w2.drew _)]; rfl)
          refine wp_region_noPanic ?_
          refine wp_region_held_drew (S := (fun wx => wx.cell? ⟨s2, 0, none⟩ = some (.int .i64 8511))) (by kernel_rfl) ?_ (fun hHeld => ?_)
          · exact d1
          refine wpAnyH_take (i := 0) (oi := ⟨some 82, _, _, _, _, _⟩) (v := ?_) rfl (by kernel_rfl) (by kernel_rfl) (by kernel_rfl) (fun _ _ _ h => h) (Or.inl ⟨by rfl, ?_⟩) (by assumption) ?_
          rotate_left
          · intro w' hSw
            (try dsimp only at hSw)
            go_simp
            try with_reducible rfl
          simp only [Act.put, List.setIfInBounds_toArray, List.set_cons_zero, List.set_cons_succ]
          refine wpAnyH_take (i := 1) (oi := ⟨some 83, _, _, _, _, _⟩) (v := ?_) rfl (by kernel_rfl) (by kernel_rfl) (by kernel_rfl) (fun _ _ _ h => h) (Or.inl ⟨by rfl, ?_⟩) (by assumption) ?_
          rotate_left
          · intro w' hSw
            (try dsimp only at hSw)
            go_simp
            try with_reducible rfl
          simp only [Act.put, List.setIfInBounds_toArray, List.set_cons_zero, List.set_cons_succ]
          refine wpAnyH_take (i := 2) (oi := ⟨some 84, _, _, _, _, _⟩) (v := ?_) rfl (by kernel_rfl) (by kernel_rfl) (by kernel_rfl) (fun _ _ _ h => h) (Or.inl ⟨by rfl, ?_⟩) (by assumption) ?_
          rotate_left
          · intro w' hSw
            (try dsimp only at hSw)
            go_simp
            try with_reducible rfl
          simp only [Act.put, List.setIfInBounds_toArray, List.set_cons_zero, List.set_cons_succ]
          refine wpAnyH_take (i := 3) (oi := ⟨some 85, _, _, _, _, _⟩) (v := ?_) rfl (by kernel_rfl) (by kernel_rfl) (by kernel_rfl) (fun _ _ _ h => h) (Or.inl ⟨by rfl, ?_⟩) (by assumption) ?_
          rotate_left
          · intro w' hSw
            (try dsimp only at hSw)
            go_simp
            try with_reducible rfl
          simp only [Act.put, List.setIfInBounds_toArray, List.set_cons_zero, List.set_cons_succ]
          refine wpAnyH_take (i := 4) (oi := ⟨some 86, _, _, _, _, _⟩) (v := ?_) rfl (by kernel_rfl) (by kernel_rfl) (by kernel_rfl) (fun _ _ _ h => h) (Or.inl ⟨by rfl, ?_⟩) (by assumption) ?_
          rotate_left
          · intro w' hSw
            (try dsimp only at hSw)
            go_simp
            try with_reducible rfl
          simp only [Act.put, List.setIfInBounds_toArray, List.set_cons_zero, List.set_cons_succ]
          refine wpAnyH_take (i := 5) (oi := ⟨some 87, _, _, _, _, _⟩) (v := ?_) rfl (by kernel_rfl) (by kernel_rfl) (by kernel_rfl) (fun _ _ _ h => h) (Or.inl ⟨by rfl, ?_⟩) (by assumption) ?_
          rotate_left
          · intro w' hSw
            (try dsimp only at hSw)
            go_simp
            try with_reducible rfl
          simp only [Act.put, List.setIfInBounds_toArray, List.set_cons_zero, List.set_cons_succ]
          refine wpAnyH_take (i := 6) (oi := ⟨some 88, _, _, _, _, _⟩) (v := ?_) rfl (by kernel_rfl) (by kernel_rfl) (by kernel_rfl) (fun _ _ _ h => h) (Or.inl ⟨by rfl, ?_⟩) (by assumption) ?_
          rotate_left
          · intro w' hSw
            (try dsimp only at hSw)
            go_simp
            try with_reducible rfl
          simp only [Act.put, List.setIfInBounds_toArray, List.set_cons_zero, List.set_cons_succ]
          refine wpAnyH_take (i := 7) (oi := ⟨some 89, _, _, _, _, _⟩) (v := ?_) rfl (by kernel_rfl) (by kernel_rfl) (by kernel_rfl) (fun _ _ _ h => h) (Or.inl ⟨by rfl, ?_⟩) (by assumption) ?_
          rotate_left
          · intro w' hSw
            (try dsimp only at hSw)
            go_simp
            try with_reducible rfl
          simp only [Act.put, List.setIfInBounds_toArray, List.set_cons_zero, List.set_cons_succ]
          refine wpAnyH_take (i := 8) (oi := ⟨some 90, _, _, _, _, _⟩) (v := ?_) rfl (by kernel_rfl) (by kernel_rfl) (by kernel_rfl) (fun _ _ _ h => h) (Or.inl ⟨by rfl, ?_⟩) (by assumption) ?_
          rotate_left
          · intro w' hSw
            (try dsimp only at hSw)
            go_simp
            try with_reducible rfl
          simp only [Act.put, List.setIfInBounds_toArray, List.set_cons_zero, List.set_cons_succ]
          refine wpAnyH_take (i := 9) (oi := ⟨some 91, _, _, _, _, _⟩) (v := ?_) rfl (by kernel_rfl) (by kernel_rfl) (by kernel_rfl) (fun _ _ _ h => h) (Or.inl ⟨by rfl, ?_⟩) (by assumption) ?_
          rotate_left
          · intro w' hSw
            (try dsimp only at hSw)
            go_simp
            try with_reducible rfl
          simp only [Act.put, List.setIfInBounds_toArray, List.set_cons_zero, List.set_cons_succ]
          refine wpAnyH_take (i := 10) (oi := ⟨some 92, _, _, _, _, _⟩) (v := ?_) rfl (by kernel_rfl) (by kernel_rfl) (by kernel_rfl) (fun _ _ _ h => h) (Or.inl ⟨by rfl, ?_⟩) (by assumption) ?_
          rotate_left
          · intro w' hSw
            (try dsimp only at hSw)
            go_simp
            try with_reducible rfl
          simp only [Act.put, List.setIfInBounds_toArray, List.set_cons_zero, List.set_cons_succ]
          refine wpAnyH_take (i := 11) (oi := ⟨some 93, _, _, _, _, _⟩) (v := ?_) rfl (by kernel_rfl) (by kernel_rfl) (by kernel_rfl) (fun _ _ _ h => h) (Or.inl ⟨by rfl, ?_⟩) (by assumption) ?_
          rotate_left
          · intro w' hSw
            (try dsimp only at hSw)
            go_simp
            try with_reducible rfl
          simp only [Act.put, List.setIfInBounds_toArray, List.set_cons_zero, List.set_cons_succ]
          refine wpAnyH_take (i := 13) (oi := ⟨some 95, _, _, _, _, _⟩) (v := ?_) rfl (by kernel_rfl) (by kernel_rfl) (by kernel_rfl) (fun _ _ _ h => h) (Or.inl ⟨by rfl, ?_⟩) (by assumption) ?_
          rotate_left
          · intro w' hSw
            (try dsimp only at hSw)
            go_simp
            try with_reducible rfl
          simp only [Act.put, List.setIfInBounds_toArray, List.set_cons_zero, List.set_cons_succ]
          refine wpAnyH_ready (rs := [12]) (by kernel_rfl) (by simp) ?_
          refine AllReadyH.cons (o := ⟨some 94, _, _, _, _, _⟩) rfl (fun K hK => ?_) AllReadyH.nil
          go_simp
          
          refine hK.out _ _ ?_ (fun hHeld => ?_)
          · exact HD.out
          clear hK K
          try simp only [Act.put, List.setIfInBounds_toArray, List.set_cons_zero, List.set_cons_succ]
          refine wpAnyH_up (S' := (fun wx => wx.cell? ⟨s2, 0, none⟩ = some (.int .i64 8511) ∧ wx.cell? ⟨w2.heap.size, 0, none⟩ = some (.int .i64 8511))) (fun _ h => h.1) _ _ _ _ ?_
          have hHeld2 := And.intro hHeld HE.out
          clear hHeld
          have hHeld := hHeld2
          clear hHeld2
          refine wpAnyH_take (i := 14) (oi := ⟨some 96, _, _, _, _, _⟩) (v := ?_) rfl (by kernel_rfl) (by kernel_rfl) (by kernel_rfl) (fun _ _ _ h => h) (Or.inl ⟨by rfl, ?_⟩) (by assumption) ?_
          rotate_left
          · intro w' hSw
            (try dsimp only at hSw)
            go_simp
            try with_reducible rfl
          simp only [Act.put, List.setIfInBounds_toArray, List.set_cons_zero, List.set_cons_succ]
          refine wpAnyH_take (i := 15) (oi := ⟨some 97, _, _, _, _, _⟩) (v := ?_) rfl (by kernel_rfl) (by kernel_rfl) (by kernel_rfl) (fun _ _ _ h => h) (Or.inl ⟨by rfl, ?_⟩) (by assumption) ?_
          rotate_left
          · intro w' hSw
            (try dsimp only at hSw)
            go_simp
            try with_reducible rfl
          simp only [Act.put, List.setIfInBounds_toArray, List.set_cons_zero, List.set_cons_succ]
          refine wpAnyH_take (i := 16) (oi := ⟨some 98, _, _, _, _, _⟩) (v := ?_) rfl (by kernel_rfl) (by kernel_rfl) (by kernel_rfl) (fun _ _ _ h => h) (Or.inl ⟨by rfl, ?_⟩) (by assumption) ?_
          rotate_left
          · intro w' hSw
            (try dsimp only at hSw)
            go_simp
            try with_reducible rfl
          simp only [Act.put, List.setIfInBounds_toArray, List.set_cons_zero, List.set_cons_succ]
          refine wpAnyH_take (i := 17) (oi := ⟨some 99, _, _, _, _, _⟩) (v := ?_) rfl (by kernel_rfl) (by kernel_rfl) (by kernel_rfl) (fun _ _ _ h => h) (Or.inl ⟨by rfl, ?_⟩) (by assumption) ?_
          rotate_left
          · intro w' hSw
            (try dsimp only at hSw)
            go_simp
            try with_reducible rfl
          simp only [Act.put, List.setIfInBounds_toArray, List.set_cons_zero, List.set_cons_succ]
          refine wpAnyH_done (by kernel_rfl) ?_ _
          refine NoPanic.normal ?_

          go_wp2_with fail
          go_roundg (K - (i + 1))
          case measure => omega
          case rel => exact HRR.out true false _ (by rintro ⟨-, h⟩; cases h) (HC2.out.below ((Below.refl _ _).alloc (Nat.le_refl _) _).drew) (HB2.out.trans ((((Below.refl w2.heap.size w2).alloc (Nat.le_refl _) _).drew).mono (Nat.le_of_lt HC2.out.lt)))
        · have tt : True := trivial
          have hk := op_sel_no g _ _ _ _ _ false _ (HC.out.below W1.out.2.1)
          go_wp2_with (first
            | (go_at_call 9; refine hk.mono ?_; clear hk; rintro e w2 ⟨s2, rfl, -, hc2, hk2⟩; have HC2 := Lib.hid hc2; have HB2 := Lib.hid (kept_g (HB.out.trans (W1.out.2.1.mono (Nat.le_of_lt HC.out.lt))) (HC.out.below W1.out.2.1).lt hk2); clear hc2 hk2)
            | (go_at_call 10; refine (HT.out _).mono ?_; rintro e w9 ⟨rfl, hb9⟩; have HC9 := Lib.hid (HC2.out.below hb9); have HB9 := Lib.hid (HB2.out.trans (hb9.mono (Nat.le_of_lt HC2.out.lt))); clear hb9)
            | (go_at_call 11; refine (open_any g 2 _ _ _ _ _ _ _ _ HC9.out).mono ?_; rintro e w10 ⟨rfl, rfl⟩)
            | fail)
          go_ret
          exact ⟨rfl, HG.out ▸ HB9.out⟩
      · rw [show (((1 : Nat)) : Int) = 1 from rfl] at ha1
        have W1 := Lib.hid (one_box (w := wr) (.cells #[.int .i64 8510, .int .i64 9010, .int .i64 9020, .int .i64 9030] 3))
        rcases hm3 with ⟨rfl, rfl⟩ | ⟨rfl, rfl⟩ | ⟨rfl, rfl⟩
        · have tt : True := trivial
          have hk := op_txs g _ _ _ _ _ false _ (HC.out.below W1.out.2.1)
          go_upto_region 16 with (go_at_call 9; refine hk.mono ?_; clear hk; rintro e w2 ⟨s2, rfl, hm2, hc2, hk2⟩; have HM2 := Lib.hid hm2; have HC2 := Lib.hid hc2; have HB2 := Lib.hid (kept_g (HB.out.trans (W1.out.2.1.mono (Nat.le_of_lt HC.out.lt))) (HC.out.below W1.out.2.1).lt hk2); clear hm2 hc2 hk2)
          have d1 := me_id HM2.out (i := 9011) rfl
          have HA : Hid (Below w2.heap.size w2 (w2.alloc (.cells #[.int .i64 8511, .int .i64 9011, .int .i64 9021, .int .i64 9031] 3))) := Lib.hid ((Below.refl _ _).alloc (Nat.le_refl _) _)

          have HD : Hid ((w2.drew.alloc (.cells #[.int .i64 8511, .int .i64 9011, .int .i64 9021, .int .i64 9031] 3)).cell? ⟨s2, 0, none⟩ = some (.int .i64 9011)) := Lib.hid (me_id (box_bl (box_bl HM2.out (Below.refl _ _).drew) ((Below.refl _ _).alloc (Nat.le_refl _) _)) rfl)
          have HE : Hid ((w2.drew.alloc (.cells #[.int .i64 8511, .int .i64 9011, .int .i64 9021, .int .i64 9031] 3)).cell? ⟨w2.heap.size, 1, none⟩ = some (.int .i64 9011)) := Lib.hid (by show (w2.drew.alloc (.cells #[.int .i64 8511, .int .i64 9011, .int .i64 9021, .int .i64 9031] 3)).cell? ⟨w2.drew.heap.size, 1, none⟩ = _; rw [cell_of_row _ _ _ _ _ _ (heap_alloc_new w2.drew _)]; rfl)
          refine wp_region_noPanic ?_
          refine wp_region_held_drew (S := (fun wx => wx.cell? ⟨s2, 0, none⟩ = some (.int .i64 9011))) (by kernel_rfl) ?_ (fun hHeld => ?_)
          · exact d1
          refine wpAnyH_take (i := 0) (oi := ⟨some 82, _, _, _, _, _⟩) (v := ?_) rfl (by kernel_rfl) (by kernel_rfl) (by kernel_rfl) (fun _ _ _ h => h) (Or.inl ⟨by rfl, ?_⟩) (by assumption) ?_
          rotate_left
          · intro w' hSw
            (try dsimp only at hSw)
            go_simp
            try with_reducible rfl
          simp only [Act.put, List.setIfInBounds_toArray, List.set_cons_zero, List.set_cons_succ]
          refine wpAnyH_take (i := 1) (oi := ⟨some 83, _, _, _, _, _⟩) (v := ?_) rfl (by kernel_rfl) (by kernel_rfl) (by kernel_rfl) (fun _ _ _ h => h) (Or.inl ⟨by rfl, ?_⟩) (by assumption) ?_
          rotate_left
          · intro w' hSw
            (try dsimp only at hSw)
            go_simp
            try with_reducible rfl
          simp only [Act.put, List.setIfInBounds_toArray, List.set_cons_zero, List.set_cons_succ]
          refine wpAnyH_take (i := 2) (oi := ⟨some 84, _, _, _, _, _⟩) (v := ?_) rfl (by kernel_rfl) (by kernel_rfl) (by kernel_rfl) (fun _ _ _ h => h) (Or.inl ⟨by rfl, ?_⟩) (by assumption) ?_
          rotate_left
          · intro w' hSw
            (try dsimp only at hSw)
            go_simp
            try with_reducible rfl
          simp only [Act.put, List.setIfInBounds_toArray, List.set_cons_zero, List.set_cons_succ]
          refine wpAnyH_take (i := 3) (oi := ⟨some 85, _, _, _, _, _⟩) (v := ?_) rfl (by kernel_rfl) (by kernel_rfl) (by kernel_rfl) (fun _ _ _ h => h) (Or.inl ⟨by rfl, ?_⟩) (by assumption) ?_
          rotate_left
          · intro w' hSw
            (try dsimp only at hSw)
            go_simp
            try with_reducible rfl
          simp only [Act.put, List.setIfInBounds_toArray, List.set_cons_zero, List.set_cons_succ]
          refine wpAnyH_take (i := 4) (oi := ⟨some 86, _, _, _, _, _⟩) (v := ?_) rfl (by kernel_rfl) (by kernel_rfl) (by kernel_rfl) (fun _ _ _ h => h) (Or.inl ⟨by rfl, ?_⟩) (by assumption) ?_
          rotate_left
          · intro w' hSw
            (try dsimp only at hSw)
            go_simp
            try with_reducible rfl
          simp only [Act.put, List.setIfInBounds_toArray, List.set_cons_zero, List.set_cons_succ]
          refine wpAnyH_take (i := 5) (oi := ⟨some 87, _, _, _, _, _⟩) (v := ?_) rfl (by kernel_rfl) (by kernel_rfl) (by kernel_rfl) (fun _ _ _ h => h) (Or.inl ⟨by rfl, ?_⟩) (by assumption) ?_
          rotate_left
          · intro w' hSw
            (try dsimp only at hSw)
            go_simp
            try with_reducible rfl
          simp only [Act.put, List.setIfInBounds_toArray, List.set_cons_zero, List.set_cons_succ]
          refine wpAnyH_take (i := 6) (oi := ⟨some 88, _, _, _, _, _⟩) (v := ?_) rfl (by kernel_rfl) (by kernel_rfl) (by kernel_rfl) (fun _ _ _ h => h) (Or.inl ⟨by rfl, ?_⟩) (by assumption) ?_
          rotate_left
          · intro w' hSw
            (try dsimp only at hSw)
            go_simp
            try with_reducible rfl
          simp only [Act.put, List.setIfInBounds_toArray, List.set_cons_zero, List.set_cons_succ]
          refine wpAnyH_take (i := 7) (oi := ⟨some 89, _, _, _, _, _⟩) (v := ?_) rfl (by kernel_rfl) (by kernel_rfl) (by kernel_rfl) (fun _ _ _ h => h) (Or.inl ⟨by rfl, ?_⟩) (by assumption) ?_
          rotate_left
          · intro w' hSw
            (try dsimp only at hSw)
            go_simp
            try with_reducible rfl
          simp only [Act.put, List.setIfInBounds_toArray, List.set_cons_zero, List.set_cons_succ]
          refine wpAnyH_take (i := 8) (oi := ⟨some 90, _, _, _, _, _⟩) (v := ?_) rfl (by kernel_rfl) (by kernel_rfl) (by kernel_rfl) (fun _ _ _ h => h) (Or.inl ⟨by rfl, ?_⟩) (by assumption) ?_
          rotate_left
          · intro w' hSw
            (try dsimp only at hSw)
            go_simp
            try with_reducible rfl
          simp only [Act.put, List.setIfInBounds_toArray, List.set_cons_zero, List.set_cons_succ]
          refine wpAnyH_take (i := 9) (oi := ⟨some 91, _, _, _, _, _⟩) (v := ?_) rfl (by kernel_rfl) (by kernel_rfl) (by kernel_rfl) (fun _ _ _ h => h) (Or.inl ⟨by rfl, ?_⟩) (by assumption) ?_
          rotate_left
          · intro w' hSw
            (try dsimp only at hSw)
            go_simp
            try with_reducible rfl
          simp only [Act.put, List.setIfInBounds_toArray, List.set_cons_zero, List.set_cons_succ]
          refine wpAnyH_take (i := 10) (oi := ⟨some 92, _, _, _, _, _⟩) (v := ?_) rfl (by kernel_rfl) (by kernel_rfl) (by kernel_rfl) (fun _ _ _ h => h) (Or.inl ⟨by rfl, ?_⟩) (by assumption) ?_
          rotate_left
          · intro w' hSw
            (try dsimp only at hSw)
            go_simp
            try with_reducible rfl
          simp only [Act.put, List.setIfInBounds_toArray, List.set_cons_zero, List.set_cons_succ]
          refine wpAnyH_take (i := 11) (oi := ⟨some 93, _, _, _, _, _⟩) (v := ?_) rfl (by kernel_rfl) (by kernel_rfl) (by kernel_rfl) (fun _ _ _ h => h) (Or.inl ⟨by rfl, ?_⟩) (by assumption) ?_
          rotate_left
          · intro w' hSw
            (try dsimp only at hSw)
            go_simp
            try with_reducible rfl
          simp only [Act.put, List.setIfInBounds_toArray, List.set_cons_zero, List.set_cons_succ]
          refine wpAnyH_take (i := 13) (oi := ⟨some 95, _, _, _, _, _⟩) (v := ?_) rfl (by kernel_rfl) (by kernel_rfl) (by kernel_rfl) (fun _ _ _ h => h) (Or.inl ⟨by rfl, ?_⟩) (by assumption) ?_
          rotate_left
          · intro w' hSw
            (try dsimp only at hSw)
            go_simp
            try with_reducible rfl
          simp only [Act.put, List.setIfInBounds_toArray, List.set_cons_zero, List.set_cons_succ]
          refine wpAnyH_ready (rs := [12]) (by kernel_rfl) (by simp) ?_
          refine AllReadyH.cons (o := ⟨some 94, _, _, _, _, _⟩) rfl (fun K hK => ?_) AllReadyH.nil
          go_simp
          
          refine hK.out _ _ ?_ (fun hHeld => ?_)
          · exact HD.out
          clear hK K
          try simp only [Act.put, List.setIfInBounds_toArray, List.set_cons_zero, List.set_cons_succ]
          refine wpAnyH_up (S' := (fun wx => wx.cell? ⟨s2, 0, none⟩ = some (.int .i64 9011) ∧ wx.cell? ⟨w2.heap.size, 1, none⟩ = some (.int .i64 9011))) (fun _ h => h.1) _ _ _ _ ?_
          have hHeld2 := And.intro hHeld HE.out
          clear hHeld
          have hHeld := hHeld2
          clear hHeld2
          refine wpAnyH_take (i := 14) (oi := ⟨some 96, _, _, _, _, _⟩) (v := ?_) rfl (by kernel_rfl) (by kernel_rfl) (by kernel_rfl) (fun _ _ _ h => h) (Or.inl ⟨by rfl, ?_⟩) (by assumption) ?_
          rotate_left
          · intro w' hSw
            (try dsimp only at hSw)
            go_simp
            try with_reducible rfl
          simp only [Act.put, List.setIfInBounds_toArray, List.set_cons_zero, List.set_cons_succ]
          refine wpAnyH_take (i := 15) (oi := ⟨some 97, _, _, _, _, _⟩) (v := ?_) rfl (by kernel_rfl) (by kernel_rfl) (by kernel_rfl) (fun _ _ _ h => h) (Or.inl ⟨by rfl, ?_⟩) (by assumption) ?_
          rotate_left
          · intro w' hSw
            (try dsimp only at hSw)
            go_simp
            try with_reducible rfl
          simp only [Act.put, List.setIfInBounds_toArray, List.set_cons_zero, List.set_cons_succ]
          refine wpAnyH_take (i := 16) (oi := ⟨some 98, _, _, _, _, _⟩) (v := ?_) rfl (by kernel_rfl) (by kernel_rfl) (by kernel_rfl) (fun _ _ _ h => h) (Or.inl ⟨by rfl, ?_⟩) (by assumption) ?_
          rotate_left
          · intro w' hSw
            (try dsimp only at hSw)
            go_simp
            try with_reducible rfl
          simp only [Act.put, List.setIfInBounds_toArray, List.set_cons_zero, List.set_cons_succ]
          refine wpAnyH_take (i := 17) (oi := ⟨some 99, _, _, _, _, _⟩) (v := ?_) rfl (by kernel_rfl) (by kernel_rfl) (by kernel_rfl) (fun _ _ _ h => h) (Or.inl ⟨by rfl, ?_⟩) (by assumption) ?_
          rotate_left
          · intro w' hSw
            (try dsimp only at hSw)
            go_simp
            try with_reducible rfl
          simp only [Act.put, List.setIfInBounds_toArray, List.set_cons_zero, List.set_cons_succ]
          refine wpAnyH_done (by kernel_rfl) ?_ _
          refine NoPanic.normal ?_

          go_wp2_with fail
          go_roundg (K - (i + 1))
          case measure => omega
          case rel => exact HRR.out false true _ (by rintro ⟨h, -⟩; cases h) (HC2.out.below ((Below.refl _ _).alloc (Nat.le_refl _) _).drew) (HB2.out.trans ((((Below.refl w2.heap.size w2).alloc (Nat.le_refl _) _).drew).mono (Nat.le_of_lt HC2.out.lt)))
        · have tt : True := trivial
          have hk := op_txs_no g _ _ _ _ _ false _ (HC.out.below W1.out.2.1)
          go_wp2_with (first
            | (go_at_call 9; refine hk.mono ?_; clear hk; rintro e w2 ⟨s2, rfl, -, hc2, hk2⟩; have HC2 := Lib.hid hc2; have HB2 := Lib.hid (kept_g (HB.out.trans (W1.out.2.1.mono (Nat.le_of_lt HC.out.lt))) (HC.out.below W1.out.2.1).lt hk2); clear hc2 hk2)
            | (go_at_call 10; refine (HT.out _).mono ?_; rintro e w9 ⟨rfl, hb9⟩; have HC9 := Lib.hid (HC2.out.below hb9); have HB9 := Lib.hid (HB2.out.trans (hb9.mono (Nat.le_of_lt HC2.out.lt))); clear hb9)
            | (go_at_call 11; refine (open_any g 2 _ _ _ _ _ _ _ _ HC9.out).mono ?_; rintro e w10 ⟨rfl, rfl⟩)
            | fail)
          go_ret
          exact ⟨rfl, HG.out ▸ HB9.out⟩
        · have tt : True := trivial
          have hk := op_txs g _ _ _ _ _ true _ (HC.out.below W1.out.2.1)
          go_upto_region 16 with (go_at_call 9; refine hk.mono ?_; clear hk; rintro e w2 ⟨s2, rfl, hm2, hc2, hk2⟩; have HM2 := Lib.hid hm2; have HC2 := Lib.hid hc2; have HB2 := Lib.hid (kept_g (HB.out.trans (W1.out.2.1.mono (Nat.le_of_lt HC.out.lt))) (HC.out.below W1.out.2.1).lt hk2); clear hm2 hc2 hk2)
          have d1 := me_id HM2.out (i := 9011) rfl
          have HA : Hid (Below w2.heap.size w2 (w2.alloc (.cells #[.int .i64 8511, .int .i64 9011, .int .i64 9021, .int .i64 9031] 3))) := Lib.hid ((Below.refl _ _).alloc (Nat.le_refl _) _)

          have HD : Hid ((w2.drew.alloc (.cells #[.int .i64 8511, .int .i64 9011, .int .i64 9021, .int .i64 9031] 3)).cell? ⟨s2, 0, none⟩ = some (.int .i64 9011)) := Lib.hid (me_id (box_bl (box_bl HM2.out (Below.refl _ _).drew) ((Below.refl _ _).alloc (Nat.le_refl _) _)) rfl)
          have HE : Hid ((w2.drew.alloc (.cells #[.int .i64 8511, .int .i64 9011, .int .i64 9021, .int .i64 9031] 3)).cell? ⟨w2.heap.size, 1, none⟩ = some (.int .i64 9011)) := Lib.hid (by show (w2.drew.alloc (.cells #[.int .i64 8511, .int .i64 9011, .int .i64 9021, .int .i64 9031] 3)).cell? ⟨w2.drew.heap.size, 1, none⟩ = _; rw [cell_of_row _ _ _ _ _ _ (heap_alloc_new w2.drew _)]; rfl)
          refine wp_region_noPanic ?_
          refine wp_region_held_drew (S := (fun wx => wx.cell? ⟨s2, 0, none⟩ = some (.int .i64 9011))) (by kernel_rfl) ?_ (fun hHeld => ?_)
          · exact d1
          refine wpAnyH_take (i := 0) (oi := ⟨some 82, _, _, _, _, _⟩) (v := ?_) rfl (by kernel_rfl) (by kernel_rfl) (by kernel_rfl) (fun _ _ _ h => h) (Or.inl ⟨by rfl, ?_⟩) (by assumption) ?_
          rotate_left
          · intro w' hSw
            (try dsimp only at hSw)
            go_simp
            try with_reducible rfl
          simp only [Act.put, List.setIfInBounds_toArray, List.set_cons_zero, List.set_cons_succ]
          refine wpAnyH_take (i := 1) (oi := ⟨some 83, _, _, _, _, _⟩) (v := ?_) rfl (by kernel_rfl) (by kernel_rfl) (by kernel_rfl) (fun _ _ _ h => h) (Or.inl ⟨by rfl, ?_⟩) (by assumption) ?_
          rotate_left
          · intro w' hSw
            (try dsimp only at hSw)
            go_simp
            try with_reducible rfl
          simp only [Act.put, List.setIfInBounds_toArray, List.set_cons_zero, List.set_cons_succ]
          refine wpAnyH_take (i := 2) (oi := ⟨some 84, _, _, _, _, _⟩) (v := ?_) rfl (by kernel_rfl) (by kernel_rfl) (by kernel_rfl) (fun _ _ _ h => h) (Or.inl ⟨by rfl, ?_⟩) (by assumption) ?_
          rotate_left
          · intro w' hSw
            (try dsimp only at hSw)
            go_simp
            try with_reducible rfl
          simp only [Act.put, List.setIfInBounds_toArray, List.set_cons_zero, List.set_cons_succ]
          refine wpAnyH_take (i := 3) (oi := ⟨some 85, _, _, _, _, _⟩) (v := ?_) rfl (by kernel_rfl) (by kernel_rfl) (by kernel_rfl) (fun _ _ _ h => h) (Or.inl ⟨by rfl, ?_⟩) (by assumption) ?_
          rotate_left
          · intro w' hSw
            (try dsimp only at hSw)
            go_simp
            try with_reducible rfl
          simp only [Act.put, List.setIfInBounds_toArray, List.set_cons_zero, List.set_cons_succ]
          refine wpAnyH_take (i := 4) (oi := ⟨some 86, _, _, _, _, _⟩) (v := ?_) rfl (by kernel_rfl) (by kernel_rfl) (by kernel_rfl) (fun _ _ _ h => h) (Or.inl ⟨by rfl, ?_⟩) (by assumption) ?_
          rotate_left
          · intro w' hSw
            (try dsimp only at hSw)
            go_simp
            try with_reducible rfl
          simp only [Act.put, List.setIfInBounds_toArray, List.set_cons_zero, List.set_cons_succ]
          refine wpAnyH_take (i := 5) (oi := ⟨some 87, _, _, _, _, _⟩) (v := ?_) rfl (by kernel_rfl) (by kernel_rfl) (by kernel_rfl) (fun _ _ _ h => h) (Or.inl ⟨by rfl, ?_⟩) (by assumption) ?_
          rotate_left
          · intro w' hSw
            (try dsimp only at hSw)
            go_simp
            try with_reducible rfl
          simp only [Act.put, List.setIfInBounds_toArray, List.set_cons_zero, List.set_cons_succ]
          refine wpAnyH_take (i := 6) (oi := ⟨some 88, _, _, _, _, _⟩) (v := ?_) rfl (by kernel_rfl) (by kernel_rfl) (by kernel_rfl) (fun _ _ _ h => h) (Or.inl ⟨by rfl, ?_⟩) (by assumption) ?_
          rotate_left
          · intro w' hSw
            (try dsimp only at hSw)
            go_simp
            try with_reducible rfl
          simp only [Act.put, List.setIfInBounds_toArray, List.set_cons_zero, List.set_cons_succ]
          refine wpAnyH_take (i := 7) (oi := ⟨some 89, _, _, _, _, _⟩) (v := ?_) rfl (by kernel_rfl) (by kernel_rfl) (by kernel_rfl) (fun _ _ _ h => h) (Or.inl ⟨by rfl, ?_⟩) (by assumption) ?_
          rotate_left
          · intro w' hSw
            (try dsimp only at hSw)
            go_simp
            try with_reducible rfl
          simp only [Act.put, List.setIfInBounds_toArray, List.set_cons_zero, List.set_cons_succ]
          refine wpAnyH_take (i := 8) (oi := ⟨some 90, _, _, _, _, _⟩) (v := ?_) rfl (by kernel_rfl) (by kernel_rfl) (by kernel_rfl) (fun _ _ _ h => h) (Or.inl ⟨by rfl, ?_⟩) (by assumption) ?_
          rotate_left
          · intro w' hSw
            (try dsimp only at hSw)
            go_simp
            try with_reducible rfl
          simp only [Act.put, List.setIfInBounds_toArray, List.set_cons_zero, List.set_cons_succ]
          refine wpAnyH_take (i := 9) (oi := ⟨some 91, _, _, _, _, _⟩) (v := ?_) rfl (by kernel_rfl) (by kernel_rfl) (by kernel_rfl) (fun _ _ _ h => h) (Or.inl ⟨by rfl, ?_⟩) (by assumption) ?_
          rotate_left
          · intro w' hSw
            (try dsimp only at hSw)
            go_simp
            try with_reducible rfl
          simp only [Act.put, List.setIfInBounds_toArray, List.set_cons_zero, List.set_cons_succ]
          refine wpAnyH_take (i := 10) (oi := ⟨some 92, _, _, _, _, _⟩) (v := ?_) rfl (by kernel_rfl) (by kernel_rfl) (by kernel_rfl) (fun _ _ _ h => h) (Or.inl ⟨by rfl, ?_⟩) (by assumption) ?_
          rotate_left
          · intro w' hSw
            (try dsimp only at hSw)
            go_simp
            try with_reducible rfl
          simp only [Act.put, List.setIfInBounds_toArray, List.set_cons_zero, List.set_cons_succ]
          refine wpAnyH_take (i := 11) (oi := ⟨some 93, _, _, _, _, _⟩) (v := ?_) rfl (by kernel_rfl) (by kernel_rfl) (by kernel_rfl) (fun _ _ _ h => h) (Or.inl ⟨by rfl, ?_⟩) (by assumption) ?_
          rotate_left
          · intro w' hSw
            (try dsimp only at hSw)
            go_simp
            try with_reducible rfl
          simp only [Act.put, List.setIfInBounds_toArray, List.set_cons_zero, List.set_cons_succ]
          refine wpAnyH_take (i := 13) (oi := ⟨some 95, _, _, _, _, _⟩) (v := ?_) rfl (by kernel_rfl) (by kernel_rfl) (by kernel_rfl) (fun _ _ _ h => h) (Or.inl ⟨by rfl, ?_⟩) (by assumption) ?_
          rotate_left
          · intro w' hSw
            (try dsimp only at hSw)
            go_simp
            try with_reducible rfl
          simp only [Act.put, List.setIfInBounds_toArray, List.set_cons_zero, List.set_cons_succ]
          refine wpAnyH_ready (rs := [12]) (by kernel_rfl) (by simp) ?_
          refine AllReadyH.cons (o := ⟨some 94, _, _, _, _, _⟩) rfl (fun K hK => ?_) AllReadyH.nil
          go_simp
          
          refine hK.out _ _ ?_ (fun hHeld => ?_)
          · exact HD.out
          clear hK K
          try simp only [Act.put, List.setIfInBounds_toArray, List.set_cons_zero, List.set_cons_succ]
          refine wpAnyH_up (S' := (fun wx => wx.cell? ⟨s2, 0, none⟩ = some (.int .i64 9011) ∧ wx.cell? ⟨w2.heap.size, 1, none⟩ = some (.int .i64 9011))) (fun _ h => h.1) _ _ _ _ ?_
          have hHeld2 := And.intro hHeld HE.out
          clear hHeld
          have hHeld := hHeld2
          clear hHeld2
          refine wpAnyH_take (i := 14) (oi := ⟨some 96, _, _, _, _, _⟩) (v := ?_) rfl (by kernel_rfl) (by kernel_rfl) (by kernel_rfl) (fun _ _ _ h => h) (Or.inl ⟨by rfl, ?_⟩) (by assumption) ?_
          rotate_left
          · intro w' hSw
            (try dsimp only at hSw)
            go_simp
            try with_reducible rfl
          simp only [Act.put, List.setIfInBounds_toArray, List.set_cons_zero, List.set_cons_succ]
          refine wpAnyH_take (i := 15) (oi := ⟨some 97, _, _, _, _, _⟩) (v := ?_) rfl (by kernel_rfl) (by kernel_rfl) (by kernel_rfl) (fun _ _ _ h => h) (Or.inl ⟨by rfl, ?_⟩) (by assumption) ?_
          rotate_left
          · intro w' hSw
            (try dsimp only at hSw)
            go_simp
            try with_reducible rfl
          simp only [Act.put, List.setIfInBounds_toArray, List.set_cons_zero, List.set_cons_succ]
          refine wpAnyH_take (i := 16) (oi := ⟨some 98, _, _, _, _, _⟩) (v := ?_) rfl (by kernel_rfl) (by kernel_rfl) (by kernel_rfl) (fun _ _ _ h => h) (Or.inl ⟨by rfl, ?_⟩) (by assumption) ?_
          rotate_left
          · intro w' hSw
            (try dsimp only at hSw)
            go_simp
            try with_reducible rfl
          simp only [Act.put, List.setIfInBounds_toArray, List.set_cons_zero, List.set_cons_succ]
          refine wpAnyH_take (i := 17) (oi := ⟨some 99, _, _, _, _, _⟩) (v := ?_) rfl (by kernel_rfl) (by kernel_rfl) (by kernel_rfl) (fun _ _ _ h => h) (Or.inl ⟨by rfl, ?_⟩) (by assumption) ?_
          rotate_left
          · intro w' hSw
            (try dsimp only at hSw)
            go_simp
            try with_reducible rfl
          simp only [Act.put, List.setIfInBounds_toArray, List.set_cons_zero, List.set_cons_succ]
          refine wpAnyH_done (by kernel_rfl) ?_ _
          refine NoPanic.normal ?_

          go_wp2_with fail
          go_roundg (K - (i + 1))
          case measure => omega
          case rel => exact HRR.out false true _ (by rintro ⟨h, -⟩; cases h) (HC2.out.below ((Below.refl _ _).alloc (Nat.le_refl _) _).drew) (HB2.out.trans ((((Below.refl w2.heap.size w2).alloc (Nat.le_refl _) _).drew).mono (Nat.le_of_lt HC2.out.lt)))
      · rw [show (((2 : Nat)) : Int) = 2 from rfl] at ha1
        have W1 := Lib.hid (one_box (w := wr) (.cells #[.int .i64 8510, .int .i64 9010, .int .i64 9020, .int .i64 9030] 3))
        rcases hm3 with ⟨rfl, rfl⟩ | ⟨rfl, rfl⟩ | ⟨rfl, rfl⟩
        · have tt : True := trivial
          have hk := op_com_no g _ _ _ _ _ false _ (HC.out.below W1.out.2.1)
          go_wp2_with (first
            | (go_at_call 9; refine hk.mono ?_; clear hk; rintro e w2 ⟨s2, rfl, -, hc2, hk2⟩; have HC2 := Lib.hid hc2; have HB2 := Lib.hid (kept_g (HB.out.trans (W1.out.2.1.mono (Nat.le_of_lt HC.out.lt))) (HC.out.below W1.out.2.1).lt hk2); clear hc2 hk2)
            | (go_at_call 10; refine (HT.out _).mono ?_; rintro e w9 ⟨rfl, hb9⟩; have HC9 := Lib.hid (HC2.out.below hb9); have HB9 := Lib.hid (HB2.out.trans (hb9.mono (Nat.le_of_lt HC2.out.lt))); clear hb9)
            | (go_at_call 11; refine (open_any g 2 _ _ _ _ _ _ _ _ HC9.out).mono ?_; rintro e w10 ⟨rfl, rfl⟩)
            | fail)
          go_ret
          exact ⟨rfl, HG.out ▸ HB9.out⟩
        · have tt : True := trivial
          have hk := op_com_no g _ _ _ _ _ true _ (HC.out.below W1.out.2.1)
          go_wp2_with (first
            | (go_at_call 9; refine hk.mono ?_; clear hk; rintro e w2 ⟨s2, rfl, -, hc2, hk2⟩; have HC2 := Lib.hid hc2; have HB2 := Lib.hid (kept_g (HB.out.trans (W1.out.2.1.mono (Nat.le_of_lt HC.out.lt))) (HC.out.below W1.out.2.1).lt hk2); clear hc2 hk2)
            | (go_at_call 10; refine (HT.out _).mono ?_; rintro e w9 ⟨rfl, hb9⟩; have HC9 := Lib.hid (HC2.out.below hb9); have HB9 := Lib.hid (HB2.out.trans (hb9.mono (Nat.le_of_lt HC2.out.lt))); clear hb9)
            | (go_at_call 11; refine (open_any g 2 _ _ _ _ _ _ _ _ HC9.out).mono ?_; rintro e w10 ⟨rfl, rfl⟩)
            | fail)
          go_ret
          exact ⟨rfl, HG.out ▸ HB9.out⟩
        · have tt : True := trivial
          have hk := op_com g _ _ _ _ _ false _ (HC.out.below W1.out.2.1)
          go_upto_region 16 with (go_at_call 9; refine hk.mono ?_; clear hk; rintro e w2 ⟨s2, rfl, hm2, hc2, hk2⟩; have HM2 := Lib.hid hm2; have HC2 := Lib.hid hc2; have HB2 := Lib.hid (kept_g (HB.out.trans (W1.out.2.1.mono (Nat.le_of_lt HC.out.lt))) (HC.out.below W1.out.2.1).lt hk2); clear hm2 hc2 hk2)
          have d1 := me_id HM2.out (i := 9021) rfl
          have HA : Hid (Below w2.heap.size w2 (w2.alloc (.cells #[.int .i64 8511, .int .i64 9011, .int .i64 9021, .int .i64 9031] 3))) := Lib.hid ((Below.refl _ _).alloc (Nat.le_refl _) _)

          have HD : Hid ((w2.drew.alloc (.cells #[.int .i64 8511, .int .i64 9011, .int .i64 9021, .int .i64 9031] 3)).cell? ⟨s2, 0, none⟩ = some (.int .i64 9021)) := Lib.hid (me_id (box_bl (box_bl HM2.out (Below.refl _ _).drew) ((Below.refl _ _).alloc (Nat.le_refl _) _)) rfl)
          have HE : Hid ((w2.drew.alloc (.cells #[.int .i64 8511, .int .i64 9011, .int .i64 9021, .int .i64 9031] 3)).cell? ⟨w2.heap.size, 2, none⟩ = some (.int .i64 9021)) := Lib.hid (by show (w2.drew.alloc (.cells #[.int .i64 8511, .int .i64 9011, .int .i64 9021, .int .i64 9031] 3)).cell? ⟨w2.drew.heap.size, 2, none⟩ = _; rw [cell_of_row _ _ _ _ _ _ (heap_alloc_new w2.drew _)]; rfl)
          refine wp_region_noPanic ?_
          refine wp_region_held_drew (S := (fun wx => wx.cell? ⟨s2, 0, none⟩ = some (.int .i64 9021))) (by kernel_rfl) ?_ (fun hHeld => ?_)
          · exact d1
          refine wpAnyH_take (i := 0) (oi := ⟨some 82, _, _, _, _, _⟩) (v := ?_) rfl (by kernel_rfl) (by kernel_rfl) (by kernel_rfl) (fun _ _ _ h => h) (Or.inl ⟨by rfl, ?_⟩) (by assumption) ?_
          rotate_left
          · intro w' hSw
            (try dsimp only at hSw)
            go_simp
            try with_reducible rfl
          simp only [Act.put, List.setIfInBounds_toArray, List.set_cons_zero, List.set_cons_succ]
          refine wpAnyH_take (i := 1) (oi := ⟨some 83, _, _, _, _, _⟩) (v := ?_) rfl (by kernel_rfl) (by kernel_rfl) (by kernel_rfl) (fun _ _ _ h => h) (Or.inl ⟨by rfl, ?_⟩) (by assumption) ?_
          rotate_left
          · intro w' hSw
            (try dsimp only at hSw)
            go_simp
            try with_reducible rfl
          simp only [Act.put, List.setIfInBounds_toArray, List.set_cons_zero, List.set_cons_succ]
          refine wpAnyH_take (i := 2) (oi := ⟨some 84, _, _, _, _, _⟩) (v := ?_) rfl (by kernel_rfl) (by kernel_rfl) (by kernel_rfl) (fun _ _ _ h => h) (Or.inl ⟨by rfl, ?_⟩) (by assumption) ?_
          rotate_left
          · intro w' hSw
            (try dsimp only at hSw)
            go_simp
            try with_reducible rfl
          simp only [Act.put, List.setIfInBounds_toArray, List.set_cons_zero, List.set_cons_succ]
          refine wpAnyH_take (i := 3) (oi := ⟨some 85, _, _, _, _, _⟩) (v := ?_) rfl (by kernel_rfl) (by kernel_rfl) (by kernel_rfl) (fun _ _ _ h => h) (Or.inl ⟨by rfl, ?_⟩) (by assumption) ?_
          rotate_left
          · intro w' hSw
            (try dsimp only at hSw)
            go_simp
            try with_reducible rfl
          simp only [Act.put, List.setIfInBounds_toArray, List.set_cons_zero, List.set_cons_succ]
          refine wpAnyH_take (i := 4) (oi := ⟨some 86, _, _, _, _, _⟩) (v := ?_) rfl (by kernel_rfl) (by kernel_rfl) (by kernel_rfl) (fun _ _ _ h => h) (Or.inl ⟨by rfl, ?_⟩) (by assumption) ?_
          rotate_left
          · intro w' hSw
            (try dsimp only at hSw)
            go_simp
            try with_reducible rfl
          simp only [Act.put, List.setIfInBounds_toArray, List.set_cons_zero, List.set_cons_succ]
          refine wpAnyH_take (i := 5) (oi := ⟨some 87, _, _, _, _, _⟩) (v := ?_) rfl (by kernel_rfl) (by kernel_rfl) (by kernel_rfl) (fun _ _ _ h => h) (Or.inl ⟨by rfl, ?_⟩) (by assumption) ?_
          rotate_left
          · intro w' hSw
            (try dsimp only at hSw)
            go_simp
            try with_reducible rfl
          simp only [Act.put, List.setIfInBounds_toArray, List.set_cons_zero, List.set_cons_succ]
          refine wpAnyH_take (i := 6) (oi := ⟨some 88, _, _, _, _, _⟩) (v := ?_) rfl (by kernel_rfl) (by kernel_rfl) (by kernel_rfl) (fun _ _ _ h => h) (Or.inl ⟨by rfl, ?_⟩) (by assumption) ?_
          rotate_left
          · intro w' hSw
            (try dsimp only at hSw)
            go_simp
            try with_reducible rfl
          simp only [Act.put, List.setIfInBounds_toArray, List.set_cons_zero, List.set_cons_succ]
          refine wpAnyH_take (i := 7) (oi := ⟨some 89, _, _, _, _, _⟩) (v := ?_) rfl (by kernel_rfl) (by kernel_rfl) (by kernel_rfl) (fun _ _ _ h => h) (Or.inl ⟨by rfl, ?_⟩) (by assumption) ?_
          rotate_left
          · intro w' hSw
            (try dsimp only at hSw)
            go_simp
            try with_reducible rfl
          simp only [Act.put, List.setIfInBounds_toArray, List.set_cons_zero, List.set_cons_succ]
          refine wpAnyH_take (i := 8) (oi := ⟨some 90, _, _, _, _, _⟩) (v := ?_) rfl (by kernel_rfl) (by kernel_rfl) (by kernel_rfl) (fun _ _ _ h => h) (Or.inl ⟨by rfl, ?_⟩) (by assumption) ?_
          rotate_left
          · intro w' hSw
            (try dsimp only at hSw)
            go_simp
            try with_reducible rfl
          simp only [Act.put, List.setIfInBounds_toArray, List.set_cons_zero, List.set_cons_succ]
          refine wpAnyH_take (i := 9) (oi := ⟨some 91, _, _, _, _, _⟩) (v := ?_) rfl (by kernel_rfl) (by kernel_rfl) (by kernel_rfl) (fun _ _ _ h => h) (Or.inl ⟨by rfl, ?_⟩) (by assumption) ?_
          rotate_left
          · intro w' hSw
            (try dsimp only at hSw)
            go_simp
            try with_reducible rfl
          simp only [Act.put, List.setIfInBounds_toArray, List.set_cons_zero, List.set_cons_succ]
          refine wpAnyH_take (i := 10) (oi := ⟨some 92, _, _, _, _, _⟩) (v := ?_) rfl (by kernel_rfl) (by kernel_rfl) (by kernel_rfl) (fun _ _ _ h => h) (Or.inl ⟨by rfl, ?_⟩) (by assumption) ?_
          rotate_left
          · intro w' hSw
            (try dsimp only at hSw)
            go_simp
            try with_reducible rfl
          simp only [Act.put, List.setIfInBounds_toArray, List.set_cons_zero, List.set_cons_succ]
          refine wpAnyH_take (i := 11) (oi := ⟨some 93, _, _, _, _, _⟩) (v := ?_) rfl (by kernel_rfl) (by kernel_rfl) (by kernel_rfl) (fun _ _ _ h => h) (Or.inl ⟨by rfl, ?_⟩) (by assumption) ?_
          rotate_left
          · intro w' hSw
            (try dsimp only at hSw)
            go_simp
            try with_reducible rfl
          simp only [Act.put, List.setIfInBounds_toArray, List.set_cons_zero, List.set_cons_succ]
          refine wpAnyH_take (i := 13) (oi := ⟨some 95, _, _, _, _, _⟩) (v := ?_) rfl (by kernel_rfl) (by kernel_rfl) (by kernel_rfl) (fun _ _ _ h => h) (Or.inl ⟨by rfl, ?_⟩) (by assumption) ?_
          rotate_left
          · intro w' hSw
            (try dsimp only at hSw)
            go_simp
            try with_reducible rfl
          simp only [Act.put, List.setIfInBounds_toArray, List.set_cons_zero, List.set_cons_succ]
          refine wpAnyH_ready (rs := [12]) (by kernel_rfl) (by simp) ?_
          refine AllReadyH.cons (o := ⟨some 94, _, _, _, _, _⟩) rfl (fun K hK => ?_) AllReadyH.nil
          go_simp
          
          refine hK.out _ _ ?_ (fun hHeld => ?_)
          · exact HD.out
          clear hK K
          try simp only [Act.put, List.setIfInBounds_toArray, List.set_cons_zero, List.set_cons_succ]
          refine wpAnyH_up (S' := (fun wx => wx.cell? ⟨s2, 0, none⟩ = some (.int .i64 9021) ∧ wx.cell? ⟨w2.heap.size, 2, none⟩ = some (.int .i64 9021))) (fun _ h => h.1) _ _ _ _ ?_
          have hHeld2 := And.intro hHeld HE.out
          clear hHeld
          have hHeld := hHeld2
          clear hHeld2
          refine wpAnyH_take (i := 14) (oi := ⟨some 96, _, _, _, _, _⟩) (v := ?_) rfl (by kernel_rfl) (by kernel_rfl) (by kernel_rfl) (fun _ _ _ h => h) (Or.inl ⟨by rfl, ?_⟩) (by assumption) ?_
          rotate_left
          · intro w' hSw
            (try dsimp only at hSw)
            go_simp
            try with_reducible rfl
          simp only [Act.put, List.setIfInBounds_toArray, List.set_cons_zero, List.set_cons_succ]
          refine wpAnyH_take (i := 15) (oi := ⟨some 97, _, _, _, _, _⟩) (v := ?_) rfl (by kernel_rfl) (by kernel_rfl) (by kernel_rfl) (fun _ _ _ h => h) (Or.inl ⟨by rfl, ?_⟩) (by assumption) ?_
          rotate_left
          · intro w' hSw
            (try dsimp only at hSw)
            go_simp
            try with_reducible rfl
          simp only [Act.put, List.setIfInBounds_toArray, List.set_cons_zero, List.set_cons_succ]
          refine wpAnyH_take (i := 16) (oi := ⟨some 98, _, _, _, _, _⟩) (v := ?_) rfl (by kernel_rfl) (by kernel_rfl) (by kernel_rfl) (fun _ _ _ h => h) (Or.inl ⟨by rfl, ?_⟩) (by assumption) ?_
          rotate_left
          · intro w' hSw
            (try dsimp only at hSw)
            go_simp
            try with_reducible rfl
          simp only [Act.put, List.setIfInBounds_toArray, List.set_cons_zero, List.set_cons_succ]
          refine wpAnyH_take (i := 17) (oi := ⟨some 99, _, _, _, _, _⟩) (v := ?_) rfl (by kernel_rfl) (by kernel_rfl) (by kernel_rfl) (fun _ _ _ h => h) (Or.inl ⟨by rfl, ?_⟩) (by assumption) ?_
          rotate_left
          · intro w' hSw
            (try dsimp only at hSw)
            go_simp
            try with_reducible rfl
          simp only [Act.put, List.setIfInBounds_toArray, List.set_cons_zero, List.set_cons_succ]
          refine wpAnyH_done (by kernel_rfl) ?_ _
          refine NoPanic.normal ?_

          go_wp2_with fail
          go_roundg (K - (i + 1))
          case measure => omega
          case rel => exact HRR.out false true _ (by rintro ⟨h, -⟩; cases h) (HC2.out.below ((Below.refl _ _).alloc (Nat.le_refl _) _).drew) (HB2.out.trans ((((Below.refl w2.heap.size w2).alloc (Nat.le_refl _) _).drew).mono (Nat.le_of_lt HC2.out.lt)))
      · rw [show (((3 : Nat)) : Int) = 3 from rfl] at ha1
        have W1 := Lib.hid (one_box (w := wr) (.cells #[.int .i64 8510, .int .i64 9010, .int .i64 9020, .int .i64 9030] 3))
        rcases hm3 with ⟨rfl, rfl⟩ | ⟨rfl, rfl⟩ | ⟨rfl, rfl⟩
        · have tt : True := trivial
          have hk := op_rol_no g _ _ _ _ _ false _ (HC.out.below W1.out.2.1)
          go_wp2_with (first
            | (go_at_call 9; refine hk.mono ?_; clear hk; rintro e w2 ⟨s2, rfl, -, hc2, hk2⟩; have HC2 := Lib.hid hc2; have HB2 := Lib.hid (kept_g (HB.out.trans (W1.out.2.1.mono (Nat.le_of_lt HC.out.lt))) (HC.out.below W1.out.2.1).lt hk2); clear hc2 hk2)
            | (go_at_call 10; refine (HT.out _).mono ?_; rintro e w9 ⟨rfl, hb9⟩; have HC9 := Lib.hid (HC2.out.below hb9); have HB9 := Lib.hid (HB2.out.trans (hb9.mono (Nat.le_of_lt HC2.out.lt))); clear hb9)
            | (go_at_call 11; refine (open_any g 2 _ _ _ _ _ _ _ _ HC9.out).mono ?_; rintro e w10 ⟨rfl, rfl⟩)
            | fail)
          go_ret
          exact ⟨rfl, HG.out ▸ HB9.out⟩
        · have tt : True := trivial
          have hk := op_rol_no g _ _ _ _ _ true _ (HC.out.below W1.out.2.1)
          go_wp2_with (first
            | (go_at_call 9; refine hk.mono ?_; clear hk; rintro e w2 ⟨s2, rfl, -, hc2, hk2⟩; have HC2 := Lib.hid hc2; have HB2 := Lib.hid (kept_g (HB.out.trans (W1.out.2.1.mono (Nat.le_of_lt HC.out.lt))) (HC.out.below W1.out.2.1).lt hk2); clear hc2 hk2)
            | (go_at_call 10; refine (HT.out _).mono ?_; rintro e w9 ⟨rfl, hb9⟩; have HC9 := Lib.hid (HC2.out.below hb9); have HB9 := Lib.hid (HB2.out.trans (hb9.mono (Nat.le_of_lt HC2.out.lt))); clear hb9)
            | (go_at_call 11; refine (open_any g 2 _ _ _ _ _ _ _ _ HC9.out).mono ?_; rintro e w10 ⟨rfl, rfl⟩)
            | fail)
          go_ret
          exact ⟨rfl, HG.out ▸ HB9.out⟩
        · have tt : True := trivial
          have hk := op_rol g _ _ _ _ _ false _ (HC.out.below W1.out.2.1)
          go_upto_region 16 with (go_at_call 9; refine hk.mono ?_; clear hk; rintro e w2 ⟨s2, rfl, hm2, hc2, hk2⟩; have HM2 := Lib.hid hm2; have HC2 := Lib.hid hc2; have HB2 := Lib.hid (kept_g (HB.out.trans (W1.out.2.1.mono (Nat.le_of_lt HC.out.lt))) (HC.out.below W1.out.2.1).lt hk2); clear hm2 hc2 hk2)
          have d1 := me_id HM2.out (i := 9031) rfl
          have HA : Hid (Below w2.heap.size w2 (w2.alloc (.cells #[.int .i64 8511, .int .i64 9011, .int .i64 9021, .int .i64 9031] 3))) := Lib.hid ((Below.refl _ _).alloc (Nat.le_refl _) _)

          have HD : Hid ((w2.drew.alloc (.cells #[.int .i64 8511, .int .i64 9011, .int .i64 9021, .int .i64 9031] 3)).cell? ⟨s2, 0, none⟩ = some (.int .i64 9031)) := Lib.hid (me_id (box_bl (box_bl HM2.out (Below.refl _ _).drew) ((Below.refl _ _).alloc (Nat.le_refl _) _)) rfl)
          have HE : Hid ((w2.drew.alloc (.cells #[.int .i64 8511, .int .i64 9011, .int .i64 9021, .int .i64 9031] 3)).cell? ⟨w2.heap.size, 3, none⟩ = some (.int .i64 9031)) := Lib.hid (by show (w2.drew.alloc (.cells #[.int .i64 8511, .int .i64 9011, .int .i64 9021, .int .i64 9031] 3)).cell? ⟨w2.drew.heap.size, 3, none⟩ = _; rw [cell_of_row _ _ _ _ _ _ (heap_alloc_new w2.drew _)]; rfl)
          refine wp_region_noPanic ?_
          refine wp_region_held_drew (S := (fun wx => wx.cell? ⟨s2, 0, none⟩ = some (.int .i64 9031))) (by kernel_rfl) ?_ (fun hHeld => ?_)
          · exact d1
          refine wpAnyH_take (i := 0) (oi := ⟨some 82, _, _, _, _, _⟩) (v := ?_) rfl (by kernel_rfl) (by kernel_rfl) (by kernel_rfl) (fun _ _ _ h => h) (Or.inl ⟨by rfl, ?_⟩) (by assumption) ?_
          rotate_left
          · intro w' hSw
            (try dsimp only at hSw)
            go_simp
            try with_reducible rfl
          simp only [Act.put, List.setIfInBounds_toArray, List.set_cons_zero, List.set_cons_succ]
          refine wpAnyH_take (i := 1) (oi := ⟨some 83, _, _, _, _, _⟩) (v := ?_) rfl (by kernel_rfl) (by kernel_rfl) (by kernel_rfl) (fun _ _ _ h => h) (Or.inl ⟨by rfl, ?_⟩) (by assumption) ?_
          rotate_left
          · intro w' hSw
            (try dsimp only at hSw)
            go_simp
            try with_reducible rfl
          simp only [Act.put, List.setIfInBounds_toArray, List.set_cons_zero, List.set_cons_succ]
          refine wpAnyH_take (i := 2) (oi := ⟨some 84, _, _, _, _, _⟩) (v := ?_) rfl (by kernel_rfl) (by kernel_rfl) (by kernel_rfl) (fun _ _ _ h => h) (Or.inl ⟨by rfl, ?_⟩) (by assumption) ?_
          rotate_left
          · intro w' hSw
            (try dsimp only at hSw)
            go_simp
            try with_reducible rfl
          simp only [Act.put, List.setIfInBounds_toArray, List.set_cons_zero, List.set_cons_succ]
          refine wpAnyH_take (i := 3) (oi := ⟨some 85, _, _, _, _, _⟩) (v := ?_) rfl (by kernel_rfl) (by kernel_rfl) (by kernel_rfl) (fun _ _ _ h => h) (Or.inl ⟨by rfl, ?_⟩) (by assumption) ?_
          rotate_left
          · intro w' hSw
            (try dsimp only at hSw)
            go_simp
            try with_reducible rfl
          simp only [Act.put, List.setIfInBounds_toArray, List.set_cons_zero, List.set_cons_succ]
          refine wpAnyH_take (i := 4) (oi := ⟨some 86, _, _, _, _, _⟩) (v := ?_) rfl (by kernel_rfl) (by kernel_rfl) (by kernel_rfl) (fun _ _ _ h => h) (Or.inl ⟨by rfl, ?_⟩) (by assumption) ?_
          rotate_left
          · intro w' hSw
            (try dsimp only at hSw)
            go_simp
            try with_reducible rfl
          simp only [Act.put, List.setIfInBounds_toArray, List.set_cons_zero, List.set_cons_succ]
          refine wpAnyH_take (i := 5) (oi := ⟨some 87, _, _, _, _, _⟩) (v := ?_) rfl (by kernel_rfl) (by kernel_rfl) (by kernel_rfl) (fun _ _ _ h => h) (Or.inl ⟨by rfl, ?_⟩) (by assumption) ?_
          rotate_left
          · intro w' hSw
            (try dsimp only at hSw)
            go_simp
            try with_reducible rfl
          simp only [Act.put, List.setIfInBounds_toArray, List.set_cons_zero, List.set_cons_succ]
          refine wpAnyH_take (i := 6) (oi := ⟨some 88, _, _, _, _, _⟩) (v := ?_) rfl (by kernel_rfl) (by kernel_rfl) (by kernel_rfl) (fun _ _ _ h => h) (Or.inl ⟨by rfl, ?_⟩) (by assumption) ?_
          rotate_left
          · intro w' hSw
            (try dsimp only at hSw)
            go_simp
            try with_reducible rfl
          simp only [Act.put, List.setIfInBounds_toArray, List.set_cons_zero, List.set_cons_succ]
          refine wpAnyH_take (i := 7) (oi := ⟨some 89, _, _, _, _, _⟩) (v := ?_) rfl (by kernel_rfl) (by kernel_rfl) (by kernel_rfl) (fun _ _ _ h => h) (Or.inl ⟨by rfl, ?_⟩) (by assumption) ?_
          rotate_left
          · intro w' hSw
            (try dsimp only at hSw)
            go_simp
            try with_reducible rfl
          simp only [Act.put, List.setIfInBounds_toArray, List.set_cons_zero, List.set_cons_succ]
          refine wpAnyH_take (i := 8) (oi := ⟨some 90, _, _, _, _, _⟩) (v := ?_) rfl (by kernel_rfl) (by kernel_rfl) (by kernel_rfl) (fun _ _ _ h => h) (Or.inl ⟨by rfl, ?_⟩) (by assumption) ?_
          rotate_left
          · intro w' hSw
            (try dsimp only at hSw)
            go_simp
            try with_reducible rfl
          simp only [Act.put, List.setIfInBounds_toArray, List.set_cons_zero, List.set_cons_succ]
          refine wpAnyH_take (i := 9) (oi := ⟨some 91, _, _, _, _, _⟩) (v := ?_) rfl (by kernel_rfl) (by kernel_rfl) (by kernel_rfl) (fun _ _ _ h => h) (Or.inl ⟨by rfl, ?_⟩) (by assumption) ?_
          rotate_left
          · intro w' hSw
            (try dsimp only at hSw)
            go_simp
            try with_reducible rfl
          simp only [Act.put, List.setIfInBounds_toArray, List.set_cons_zero, List.set_cons_succ]
          refine wpAnyH_take (i := 10) (oi := ⟨some 92, _, _, _, _, _⟩) (v := ?_) rfl (by kernel_rfl) (by kernel_rfl) (by kernel_rfl) (fun _ _ _ h => h) (Or.inl ⟨by rfl, ?_⟩) (by assumption) ?_
          rotate_left
          · intro w' hSw
            (try dsimp only at hSw)
            go_simp
            try with_reducible rfl
          simp only [Act.put, List.setIfInBounds_toArray, List.set_cons_zero, List.set_cons_succ]
          refine wpAnyH_take (i := 11) (oi := ⟨some 93, _, _, _, _, _⟩) (v := ?_) rfl (by kernel_rfl) (by kernel_rfl) (by kernel_rfl) (fun _ _ _ h => h) (Or.inl ⟨by rfl, ?_⟩) (by assumption) ?_
          rotate_left
          · intro w' hSw
            (try dsimp only at hSw)
            go_simp
            try with_reducible rfl
          simp only [Act.put, List.setIfInBounds_toArray, List.set_cons_zero, List.set_cons_succ]
          refine wpAnyH_take (i := 13) (oi := ⟨some 95, _, _, _, _, _⟩) (v := ?_) rfl (by kernel_rfl) (by kernel_rfl) (by kernel_rfl) (fun _ _ _ h => h) (Or.inl ⟨by rfl, ?_⟩) (by assumption) ?_
          rotate_left
          · intro w' hSw
            (try dsimp only at hSw)
            go_simp
            try with_reducible rfl
          simp only [Act.put, List.setIfInBounds_toArray, List.set_cons_zero, List.set_cons_succ]
          refine wpAnyH_ready (rs := [12]) (by kernel_rfl) (by simp) ?_
          refine AllReadyH.cons (o := ⟨some 94, _, _, _, _, _⟩) rfl (fun K hK => ?_) AllReadyH.nil
          go_simp
          
          refine hK.out _ _ ?_ (fun hHeld => ?_)
          · exact HD.out
          clear hK K
          try simp only [Act.put, List.setIfInBounds_toArray, List.set_cons_zero, List.set_cons_succ]
          refine wpAnyH_up (S' := (fun wx => wx.cell? ⟨s2, 0, none⟩ = some (.int .i64 9031) ∧ wx.cell? ⟨w2.heap.size, 3, none⟩ = some (.int .i64 9031))) (fun _ h => h.1) _ _ _ _ ?_
          have hHeld2 := And.intro hHeld HE.out
          clear hHeld
          have hHeld := hHeld2
          clear hHeld2
          refine wpAnyH_take (i := 14) (oi := ⟨some 96, _, _, _, _, _⟩) (v := ?_) rfl (by kernel_rfl) (by kernel_rfl) (by kernel_rfl) (fun _ _ _ h => h) (Or.inl ⟨by rfl, ?_⟩) (by assumption) ?_
          rotate_left
          · intro w' hSw
            (try dsimp only at hSw)
            go_simp
            try with_reducible rfl
          simp only [Act.put, List.setIfInBounds_toArray, List.set_cons_zero, List.set_cons_succ]
          refine wpAnyH_take (i := 15) (oi := ⟨some 97, _, _, _, _, _⟩) (v := ?_) rfl (by kernel_rfl) (by kernel_rfl) (by kernel_rfl) (fun _ _ _ h => h) (Or.inl ⟨by rfl, ?_⟩) (by assumption) ?_
          rotate_left
          · intro w' hSw
            (try dsimp only at hSw)
            go_simp
            try with_reducible rfl
          simp only [Act.put, List.setIfInBounds_toArray, List.set_cons_zero, List.set_cons_succ]
          refine wpAnyH_take (i := 16) (oi := ⟨some 98, _, _, _, _, _⟩) (v := ?_) rfl (by kernel_rfl) (by kernel_rfl) (by kernel_rfl) (fun _ _ _ h => h) (Or.inl ⟨by rfl, ?_⟩) (by assumption) ?_
          rotate_left
          · intro w' hSw
            (try dsimp only at hSw)
            go_simp
            try with_reducible rfl
          simp only [Act.put, List.setIfInBounds_toArray, List.set_cons_zero, List.set_cons_succ]
          refine wpAnyH_take (i := 17) (oi := ⟨some 99, _, _, _, _, _⟩) (v := ?_) rfl (by kernel_rfl) (by kernel_rfl) (by kernel_rfl) (fun _ _ _ h => h) (Or.inl ⟨by rfl, ?_⟩) (by assumption) ?_
          rotate_left
          · intro w' hSw
            (try dsimp only at hSw)
            go_simp
            try with_reducible rfl
          simp only [Act.put, List.setIfInBounds_toArray, List.set_cons_zero, List.set_cons_succ]
          refine wpAnyH_done (by kernel_rfl) ?_ _
          refine NoPanic.normal ?_

          go_wp2_with fail
          go_roundg (K - (i + 1))
          case measure => omega
          case rel => exact HRR.out false true _ (by rintro ⟨h, -⟩; cases h) (HC2.out.below ((Below.refl _ _).alloc (Nat.le_refl _) _).drew) (HB2.out.trans ((((Below.refl w2.heap.size w2).alloc (Nat.le_refl _) _).drew).mono (Nat.le_of_lt HC2.out.lt)))
    · obtain rfl : i = K := by omega
      by_cases hend : i = len0
      · have q0 : ¬ (i : Int) < (len0 : Int) := by omega
        clear hend
        go_wp2_with (go_at_call 10; refine (HT.out _).mono ?_; rintro e w9 ⟨rfl, hb9⟩; have HB9 := Lib.hid (HB.out.trans (hb9.mono (Nat.le_of_lt HC.out.lt))); clear hb9)
        go_ret
        exact ⟨rfl, HG.out ▸ HB9.out⟩
      · have q0 : (i : Int) < (len0 : Int) := by have := HK.out; omega
        have q1 : ¬ (i : Int) < 20 := by have := HK.out; omega
        clear hend
        go_wp2_with (go_at_call 10; refine (HT.out _).mono ?_; rintro e w9 ⟨rfl, hb9⟩; have HB9 := Lib.hid (HB.out.trans (hb9.mono (Nat.le_of_lt HC.out.lt))); clear hb9)
        go_ret
        exact ⟨rfl, HG.out ▸ HB9.out⟩

end Go.Proofs.YtiobcgolcoocnaaGreatDoor.Ch
