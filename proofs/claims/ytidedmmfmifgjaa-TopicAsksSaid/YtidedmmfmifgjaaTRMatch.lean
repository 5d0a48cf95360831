/-
  The document's Match, walked: the whole of it.
-/
import Derived.Test.YtidedmmfmifgjaaTRMat
namespace Go.Proofs.Ytidedmmfmifgjaa
open Go.RowKit
set_option linter.unusedVariables false

theorem row_first (P K : List (List UInt8)) (w : World) : (w.alloc (.cells ((madeCells #[.bool false] (K.length + 1)).setIfInBounds 0 (.bool true)) 4)).rowIs w.heap.size 4 (K.length + 1) (fun t => .bool (on P K 0 t)) := by
  obtain ⟨c2, hb2, hn2, hc2⟩ := World.rowIs_made w (.bool false) (K.length + 1) 4
  rw [heap_alloc_new] at hb2
  cases hb2
  refine ⟨_, heap_alloc_new w _, by simpa using hn2, fun t ht => ?_⟩
  show _ = some (Value.bool (on P K 0 t))
  rw [on_start P K t (by omega), Array.getElem?_setIfInBounds]
  by_cases e : t = 0
  · subst e
    rw [if_pos rfl, hn2, if_pos ht]
    rfl
  · rw [if_neg (fun h => e h.symm), hc2 t ht, decide_eq_false e]
theorem Half.start {P K : List (List UInt8)} {W w : World} {i g7 : Nat} (hb : Below W.heap.size W w) (h7 : w.rowIs g7 4 (K.length + 1) (fun t => .bool (on P K i t))) (hl : W.heap.size ≤ g7) :
    Half P K W (w.alloc (.cells (madeCells #[.bool false] (K.length + 1)) 4)) i g7 w.heap.size 0 :=
  ⟨hb.alloc hb.size _, h7.alloc _, (World.rowIs_made w (.bool false) (K.length + 1) 4).congr fun t _ => by simp, by have := h7.lt; omega, hl, hb.size⟩

set_option maxRecDepth 100000 in
set_option maxHeartbeats 1000000 in
theorem rmatch_any (p k : List UInt8) (hp : p.length ≤ 1000000) (hk : k.length ≤ 1000000) (w : World) :
    Calls Try.prog 14 #[.string ⟨p.toArray⟩, .string ⟨k.toArray⟩] w fun e w' => e = .returned (.bool (matchB p k)) ∧ Below w.heap.size w w' := by
  have hsz : (⟨k.toArray⟩ : ByteArray).size = k.length := rfl
  obtain ⟨q, hq⟩ : ∃ q, mayB p = q := ⟨_, rfl⟩
  have cq := rmay_any p hp
  rw [hq] at cq
  have hm : matchB p k = (q && !(decide (20 < (wds k).length) || decide (255 < k.length)) && stand (wds p) (wds k)) := by unfold matchB; rw [hq, fitsB_eq]
  have HM := Lib.hid hm
  have HQ := Lib.hid cq
  clear cq hm hq
  go_enter Try.func14, Try.ntmps14
  go_wp2_with fail
  refine (rwords_any k hk _).mono ?_
  rintro e w1 ⟨hb1, ka, kc, rfl, hkc, hkat⟩
  have HB1 := Lib.hid hb1
  have HK1 := Lib.hid hkat
  clear hb1 hkc hkat
  cases q
  · go_wp2_with (go_at_call 12; refine (HQ.out _).mono ?_; rintro e w2 ⟨rfl, hb2⟩; have HB2 := Lib.hid (HB1.out.trans (hb2.mono HB1.out.size)); clear hb2)
    go_ret
    exact ⟨by rw [HM.out]; rfl, HB2.out⟩
  by_cases h20 : 20 < (wds k).length
  · have c1 : (20 : Int) < ((wds k).length : Int) := by omega
    go_wp2_with (go_at_call 12; refine (HQ.out _).mono ?_; rintro e w2 ⟨rfl, hb2⟩; have HB2 := Lib.hid (HB1.out.trans (hb2.mono HB1.out.size)); clear hb2)
    go_ret
    exact ⟨by rw [HM.out, decide_eq_true h20]; rfl, HB2.out⟩
  have c1 : ¬ (20 : Int) < ((wds k).length : Int) := by omega
  by_cases h255 : 255 < k.length
  · have c2 : (255 : Int) < (k.length : Int) := by omega
    go_wp2_with (go_at_call 12; refine (HQ.out _).mono ?_; rintro e w2 ⟨rfl, hb2⟩; have HB2 := Lib.hid (HB1.out.trans (hb2.mono HB1.out.size)); clear hb2)
    go_ret
    exact ⟨by rw [HM.out, decide_eq_true h255, decide_eq_false h20]; rfl, HB2.out⟩
  have c2 : ¬ (255 : Int) < (k.length : Int) := by omega
  have HM2 := Lib.hid (show matchB p k = stand (wds p) (wds k) by rw [HM.out, decide_eq_false h255, decide_eq_false h20]; rfl)
  clear HM h255
  go_wp2_with (go_at_call 12; refine (HQ.out _).mono ?_; rintro e w2 ⟨rfl, hb2⟩; have HB2 := Lib.hid (HB1.out.trans (hb2.mono HB1.out.size)); have HK2 := Lib.hid (HK1.out.below hb2); clear hb2)
  refine (rwords_any p hp _).mono ?_
  rintro e w3 ⟨hb3, pa, pc, rfl, hpc, hpat⟩
  have HB3 := Lib.hid (HB2.out.trans (hb3.mono HB2.out.size))
  have HK3 := Lib.hid (HK2.out.below hb3)
  have HP3 := Lib.hid hpat
  have hpw : (wds p).length ≤ p.length + 1 := Nat.le_trans (wds_len p) (by have := List.count_le_length (a := 46) (l := p); omega)
  clear hb3 hpc hpat HB2 HK2 HB1 HK1 HQ
  generalize wds p = P at *
  generalize wds k = K at *
  have c3 : IntKind.i64.wrap ((K.length : Int) + 1) = (K.length : Int) + 1 := IntWalk.i64_in _ (by omega)
  obtain ⟨hmk0, hrow⟩ := make_row w3 (K.length + 1) (by omega)
  have hmk : (Instr.makeSlice 37 (.int .i64 ((K.length : Int) + 1)) (.int .i64 ((K.length : Int) + 1))).run Try.prog w3 = .ok (.slice (some ⟨w3.heap.size, 0, none⟩) (K.length + 1) (K.length + 1)) (w3.alloc (.cells (madeCells #[.bool false] (K.length + 1)) 4)) := hmk0
  have hcell := hrow.cell (i := 0) (by omega)
  have hfz := hrow.frozen 0
  have c4 : (0 : Int) < (K.length : Int) + 1 := by omega
  have HROW := Lib.hid hrow
  clear hmk0 hrow
  go_wp2_with fail
  clear hcell hfz HROW hmk
  have HR0 := Lib.hid (row_first P K w3)
  have HB0 := Lib.hid ((Below.refl w3.heap.size w3).alloc (Nat.le_refl _) (.cells ((madeCells #[.bool false] (K.length + 1)).setIfInBounds 0 (.bool true)) 4))
  generalize w3.alloc (.cells ((madeCells #[.bool false] (K.length + 1)).setIfInBounds 0 (.bool true)) 4) = w4 at *
  go_loopg [7, 8, 9, 10] P.length (fun n v7 v8 _ _ wr => rmatRel P K w3 n v7 v8 wr)
  case atStart => exact ⟨0, w3.heap.size, Nat.zero_le _, by omega, rfl, rfl, HB0.out, Nat.le_refl _, HR0.out⟩
  case round =>
    obtain ⟨i, g7, hi, rfl, rfl, rfl, hb, hl7, hrow⟩ := hrel
    have HB := Lib.hid hb
    have HR := Lib.hid hrow
    clear hb hrow
    by_cases hlt : i < P.length
    · have i1 : (i : Int) < (P.length : Int) := by omega
      have i2 : IntKind.i64.wrap ((i : Int) + 1) = (i : Int) + 1 := IntWalk.i64_in _ (by omega)
      have hmk : (Instr.makeSlice 37 (.int .i64 ((K.length : Int) + 1)) (.int .i64 ((K.length : Int) + 1))).run Try.prog wr = .ok (.slice (some ⟨wr.heap.size, 0, none⟩) (K.length + 1) (K.length + 1)) (wr.alloc (.cells (madeCells #[.bool false] (K.length + 1)) 4)) := (make_row wr (K.length + 1) (by omega)).1
      have HH := Lib.hid (Half.start HB.out HR.out hl7)
      obtain ⟨x, hx⟩ : ∃ x, P[i] = x := ⟨_, rfl⟩
      obtain ⟨pb, po, rfl, hpc⟩ := HP3.out.at' (by omega)
      have hpc' : w3.cell? ⟨pb, po + i, none⟩ = some (.string ⟨x.toArray⟩) := by rw [hpc i hlt, hx]; rfl
      have HPC := Lib.hid hpc'
      have HX := Lib.hid hx
      clear hpc hpc' hx
      go_wp2_with fail
      clear hmk HR HB
      generalize wr.heap.size = g9 at *
      generalize wr.alloc (.cells (madeCells #[.bool false] (K.length + 1)) 4) = w5 at *
      go_loopg [10] (K.length + 1) (rmatIn P K w3 i g7 g9)
      case atStart => exact ⟨0, by omega, by omega, rfl, HH.out⟩
      case round =>
        clear HH
        obtain ⟨j, hj, rfl, rfl, hh⟩ := hrel
        have HH := Lib.hid hh
        clear hh
        by_cases hjl : j ≤ K.length
        · have j1 : (j : Int) ≤ (K.length : Int) := by omega
          have j2 : IntKind.i64.wrap ((j : Int) + 1) = (j : Int) + 1 := IntWalk.i64_in _ (by omega)
          have j3 : (j : Int) < (K.length : Int) + 1 := by omega
          have hcx := (HH.out.below.cell (lt_of_cell HPC.out)).trans HPC.out
          by_cases h35 : x = [35]
          · subst h35
            have HON := Lib.hid (fun (t : Nat) (ht : t ≤ K.length) => on_hash hlt HX.out t ht)
            cases j with
            | zero =>
              have h7 := HH.out.old.cell (i := 0) (by omega)
              have h9 := HH.out.new.cell (i := 0) (by omega)
              have hf := HH.out.new.frozen 0
              have hne := HH.out.ne
              have hon := HON.out 0 (by omega)
              generalize on P K i 0 = b1 at h7 hon
              cases b1
              · have HV := Lib.hid hon
                clear hon
                go_wp2_with fail
                go_roundg (K.length + 1 - (0 + 1))
                case measure => omega
                case rel => exact ⟨0 + 1, by omega, rfl, rfl, HH.out.put false (by rw [HV.out]; rfl)⟩
              · have HV := Lib.hid hon
                clear hon
                go_wp2_with fail
                go_roundg (K.length + 1 - (0 + 1))
                case measure => omega
                case rel => exact ⟨0 + 1, by omega, rfl, rfl, HH.out.put true (by rw [HV.out]; rfl)⟩
            | succ j =>
              have h7 := HH.out.old.cell (i := j + 1) (by omega)
              have h9 := HH.out.new.cell (i := j + 1) (by omega)
              have h8 := HH.out.new.cell (i := j) (by omega)
              have hf := HH.out.new.frozen (j + 1)
              have hne := HH.out.ne
              have hon := HON.out (j + 1) (by omega)
              rw [decide_eq_true (by omega : j < j + 1), Bool.true_and] at h8
              rw [decide_eq_true (by omega : 0 < j + 1), Bool.true_and, Nat.add_sub_cancel] at hon
              rw [show ((j + 1 : Nat) : Int) = (j : Int) + 1 from rfl] at *
              have j4 : IntKind.i64.wrap ((j : Int) + 1 - 1) = (j : Int) := by rw [IntWalk.i64_in _ (by omega)]; omega
              have j5 : (0 : Int) < (j : Int) + 1 := by omega
              have j6 : (j : Int) < (K.length : Int) + 1 := by omega
              generalize on P K i (j + 1) = b1 at h7 hon
              generalize on P K (i + 1) j = b2 at h8 hon
              have HV := Lib.hid hon
              clear hon
              cases b1
              · go_wp2_with fail
                go_roundg (K.length + 1 - (j + 1 + 1))
                case measure => omega
                case rel => exact ⟨j + 1 + 1, by omega, rfl, rfl, HH.out.put b2 (by rw [HV.out]; rfl)⟩
              · go_wp2_with fail
                go_roundg (K.length + 1 - (j + 1 + 1))
                case measure => omega
                case rel => exact ⟨j + 1 + 1, by omega, rfl, rfl, HH.out.put true (by rw [HV.out]; rfl)⟩
          · have hx' : (x == [35]) = false := by simpa using h35
            have H35 := Lib.hid (fun e : P[i] = [35] => h35 (HX.out.symm.trans e))
            cases j with
            | zero =>
              have HV := Lib.hid (on_none (K := K) hlt H35.out)
              go_wp2_with fail
              go_roundg (K.length + 1 - (0 + 1))
              case measure => omega
              case rel => exact ⟨0 + 1, by omega, rfl, rfl, HH.out.pass HV.out⟩
            | succ j =>
              have HV := Lib.hid (on_word hlt H35.out j (show j < K.length by omega))
              obtain ⟨kb, ko, rfl, hkc⟩ := HK3.out.at' (by omega)
              obtain ⟨c, hc⟩ : ∃ c, K[j] = c := ⟨_, rfl⟩
              have hkc' : w3.cell? ⟨kb, ko + j, none⟩ = some (.string ⟨c.toArray⟩) := by rw [hkc j (by omega), hc]; rfl
              have hkx := (HH.out.below.cell (lt_of_cell hkc')).trans hkc'
              have HV2 := Lib.hid (HV.out.trans (by rw [HX.out, hc]))
              have h7 := HH.out.old.cell (i := j) (by omega)
              have h9 := HH.out.new.cell (i := j + 1) (by omega)
              have hf := HH.out.new.frozen (j + 1)
              have hne := HH.out.ne
              rw [decide_eq_false (by omega : ¬ j + 1 < j + 1), Bool.false_and] at h9
              rw [show ((j + 1 : Nat) : Int) = (j : Int) + 1 from rfl] at *
              have j4 : IntKind.i64.wrap ((j : Int) + 1 - 1) = (j : Int) := by rw [IntWalk.i64_in _ (by omega)]; omega
              have j5 : (0 : Int) < (j : Int) + 1 := by omega
              have j6 : (j : Int) < (K.length : Int) + 1 := by omega
              have j7 : (j : Int) < (K.length : Int) := by omega
              have j8 : (0 : Int) ≤ (j : Int) := by omega
              clear HV hkc hkc' hc
              obtain ⟨b1, hb1⟩ : ∃ b1, on P K i j = b1 := ⟨_, rfl⟩
              rw [hb1] at h7
              have HB1 := Lib.hid hb1
              clear hb1
              cases b1
              · repeat (first | go_values | go_skip | go_guarded | go_step | go_upon)
                go_region
                go_wp2_with fail
                go_roundg (K.length + 1 - (j + 1 + 1))
                case measure => omega
                case rel => exact ⟨j + 1 + 1, by omega, rfl, rfl, (HH.out.put false (by rw [HV2.out, HB1.out]; rfl)).to (Below.refl _ _).drew⟩
              · by_cases h42 : x = [42]
                · subst h42
                  repeat (first | go_values | go_skip | go_guarded | go_step | go_upon)
                  go_region
                  go_wp2_with fail
                  go_roundg (K.length + 1 - (j + 1 + 1))
                  case measure => omega
                  case rel => exact ⟨j + 1 + 1, by omega, rfl, rfl, (HH.out.put true (by rw [HV2.out, HB1.out]; rfl)).to (Below.refl _ _).drew⟩
                · have h42' : (x == [42]) = false := by simpa using h42
                  obtain ⟨v, hv⟩ : ∃ v, (x == c) = v := ⟨_, rfl⟩
                  have HV3 := Lib.hid (HV2.out.trans (by rw [HB1.out, h42', hv]))
                  clear h42
                  repeat (first | go_values | go_skip | go_guarded | go_step | go_upon)
                  go_region
                  go_wp2_with fail
                  go_roundg (K.length + 1 - (j + 1 + 1))
                  case measure => omega
                  case rel => exact ⟨j + 1 + 1, by omega, rfl, rfl, (HH.out.put v (by rw [HV3.out]; rfl)).to (Below.refl _ _).drew⟩
        · obtain rfl : j = K.length + 1 := by omega
          have j1 : ¬ (((K.length + 1 : Nat)) : Int) ≤ (K.length : Int) := by omega
          go_wp2_with fail
          go_roundg (P.length - (i + 1))
          case measure => omega
          case rel => exact ⟨i + 1, g9, by omega, rfl, rfl, rfl, HH.out.below, HH.out.l9, HH.out.new.congr fun t ht => by rw [decide_eq_true ht, Bool.true_and]⟩
    · obtain rfl : i = P.length := by omega
      have i1 : ¬ (P.length : Int) < (P.length : Int) := by omega
      have hc := HR.out.cell (i := K.length) (by omega)
      rw [on_all] at hc
      go_wp2_with fail
      go_ret
      exact ⟨by rw [HM2.out]; rfl, HB3.out.trans (HB.out.mono HB3.out.size)⟩
end Go.Proofs.Ytidedmmfmifgjaa
