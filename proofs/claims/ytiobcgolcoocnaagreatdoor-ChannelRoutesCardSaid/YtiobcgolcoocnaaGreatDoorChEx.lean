/-
  channel's kindOf and exchange, law 16's Type, walked.
-/
import Derived.Test.YtiobcgolcoocnaaGreatDoorChOp
import Derived.Test.YtiobcgolcoocnaaGreatDoorRtDecl
import Derived.Deep.RegionHeld3
namespace Go.Proofs.YtiobcgolcoocnaaGreatDoor.Ch
open Go.RowKit Rg Sh Bt
set_option linter.unusedVariables false
set_option linter.unusedSimpArgs false

/-- the word of an exchange's type. -/
def wordT (K : Nat) : List UInt8 := match K with
  | 1 => [100, 105, 114, 101, 99, 116]
  | 2 => [102, 97, 110, 111, 117, 116]
  | 3 => [116, 111, 112, 105, 99]
  | 4 => [120, 45, 99, 111, 110, 115, 105, 115, 116, 101, 110, 116, 45, 104, 97, 115, 104]
  | _ => []
theorem word_len (K : Nat) : (wordT K).length ≤ 255 := by
  unfold wordT
  split <;> decide
theorem kind_1 (w : World) : Calls Tryz.prog 51 #[.string ⟨#[100, 105, 114, 101, 99, 116]⟩] w fun e w' => e = .returned (.int .i64 1) ∧ w = w' := by
  go_enter Tryz.func51, Tryz.ntmps51
  go_wp2_with fail
  go_ret
  exact ⟨rfl, rfl⟩
set_option maxHeartbeats 1000000 in
theorem type_1 (w : World) : Calls Tryz.prog 15 #[.int .i64 0] w fun e w' => e = .returned (.string ⟨#[100, 105, 114, 101, 99, 116]⟩) ∧ Below w.heap.size w w' := by
  have hb := (one_box (w := w) (.cells #[.string ⟨#[100, 105, 114, 101, 99, 116]⟩, .string ⟨#[102, 97, 110, 111, 117, 116]⟩, .string ⟨#[116, 111, 112, 105, 99]⟩, .string ⟨#[120, 45, 99, 111, 110, 115, 105, 115, 116, 101, 110, 116, 45, 104, 97, 115, 104]⟩, .string ⟨#[120]⟩, .string ⟨#[]⟩] 9)).2.1
  have HB := Lib.hid hb
  clear hb
  go_enter Tryz.func15, Tryz.ntmps15
  go_wp2_with fail
  go_ret
  exact ⟨rfl, HB.out⟩
theorem kind_2 (w : World) : Calls Tryz.prog 51 #[.string ⟨#[102, 97, 110, 111, 117, 116]⟩] w fun e w' => e = .returned (.int .i64 2) ∧ w = w' := by
  go_enter Tryz.func51, Tryz.ntmps51
  go_wp2_with fail
  go_ret
  exact ⟨rfl, rfl⟩
set_option maxHeartbeats 1000000 in
theorem type_2 (w : World) : Calls Tryz.prog 15 #[.int .i64 1] w fun e w' => e = .returned (.string ⟨#[102, 97, 110, 111, 117, 116]⟩) ∧ Below w.heap.size w w' := by
  have hb := (one_box (w := w) (.cells #[.string ⟨#[100, 105, 114, 101, 99, 116]⟩, .string ⟨#[102, 97, 110, 111, 117, 116]⟩, .string ⟨#[116, 111, 112, 105, 99]⟩, .string ⟨#[120, 45, 99, 111, 110, 115, 105, 115, 116, 101, 110, 116, 45, 104, 97, 115, 104]⟩, .string ⟨#[120]⟩, .string ⟨#[]⟩] 9)).2.1
  have HB := Lib.hid hb
  clear hb
  go_enter Tryz.func15, Tryz.ntmps15
  go_wp2_with fail
  go_ret
  exact ⟨rfl, HB.out⟩
theorem kind_3 (w : World) : Calls Tryz.prog 51 #[.string ⟨#[116, 111, 112, 105, 99]⟩] w fun e w' => e = .returned (.int .i64 3) ∧ w = w' := by
  go_enter Tryz.func51, Tryz.ntmps51
  go_wp2_with fail
  go_ret
  exact ⟨rfl, rfl⟩
set_option maxHeartbeats 1000000 in
theorem type_3 (w : World) : Calls Tryz.prog 15 #[.int .i64 2] w fun e w' => e = .returned (.string ⟨#[116, 111, 112, 105, 99]⟩) ∧ Below w.heap.size w w' := by
  have hb := (one_box (w := w) (.cells #[.string ⟨#[100, 105, 114, 101, 99, 116]⟩, .string ⟨#[102, 97, 110, 111, 117, 116]⟩, .string ⟨#[116, 111, 112, 105, 99]⟩, .string ⟨#[120, 45, 99, 111, 110, 115, 105, 115, 116, 101, 110, 116, 45, 104, 97, 115, 104]⟩, .string ⟨#[120]⟩, .string ⟨#[]⟩] 9)).2.1
  have HB := Lib.hid hb
  clear hb
  go_enter Tryz.func15, Tryz.ntmps15
  go_wp2_with fail
  go_ret
  exact ⟨rfl, HB.out⟩
theorem kind_4 (w : World) : Calls Tryz.prog 51 #[.string ⟨#[120, 45, 99, 111, 110, 115, 105, 115, 116, 101, 110, 116, 45, 104, 97, 115, 104]⟩] w fun e w' => e = .returned (.int .i64 4) ∧ w = w' := by
  go_enter Tryz.func51, Tryz.ntmps51
  go_wp2_with fail
  go_ret
  exact ⟨rfl, rfl⟩
set_option maxHeartbeats 1000000 in
theorem type_4 (w : World) : Calls Tryz.prog 15 #[.int .i64 3] w fun e w' => e = .returned (.string ⟨#[120, 45, 99, 111, 110, 115, 105, 115, 116, 101, 110, 116, 45, 104, 97, 115, 104]⟩) ∧ Below w.heap.size w w' := by
  have hb := (one_box (w := w) (.cells #[.string ⟨#[100, 105, 114, 101, 99, 116]⟩, .string ⟨#[102, 97, 110, 111, 117, 116]⟩, .string ⟨#[116, 111, 112, 105, 99]⟩, .string ⟨#[120, 45, 99, 111, 110, 115, 105, 115, 116, 101, 110, 116, 45, 104, 97, 115, 104]⟩, .string ⟨#[120]⟩, .string ⟨#[]⟩] 9)).2.1
  have HB := Lib.hid hb
  clear hb
  go_enter Tryz.func15, Tryz.ntmps15
  go_wp2_with fail
  go_ret
  exact ⟨rfl, HB.out⟩
theorem kind_all (K : Nat) (h : 1 ≤ K ∧ K ≤ 4) (w : World) : Calls Tryz.prog 51 #[.string ⟨(wordT K).toArray⟩] w fun e w' => e = .returned (.int .i64 K) ∧ w = w' := by
  have h4 : K = 1 ∨ K = 2 ∨ K = 3 ∨ K = 4 := by omega
  rcases h4 with rfl | rfl | rfl | rfl
  · exact kind_1 w
  · exact kind_2 w
  · exact kind_3 w
  · exact kind_4 w
theorem type_all (K : Nat) (h : 1 ≤ K ∧ K ≤ 4) (n : Int) (hn : n = (K : Int) - 1) (w : World) : Calls Tryz.prog 15 #[.int .i64 n] w fun e w' => e = .returned (.string ⟨(wordT K).toArray⟩) ∧ Below w.heap.size w w' := by
  subst hn
  have h4 : K = 1 ∨ K = 2 ∨ K = 3 ∨ K = 4 := by omega
  rcases h4 with rfl | rfl | rfl | rfl
  · exact type_1 w
  · exact type_2 w
  · exact type_3 w
  · exact type_4 w
/-- the exchange e, of a kind. -/
def exE (K : Nat) : Rt.Ex := ⟨[101], K⟩
theorem exE_may (K : Nat) (h : 1 ≤ K ∧ K ≤ 4) : Rt.MayR ([] ++ [exE K]) [] := by
  have h4 : K = 1 ∨ K = 2 ∨ K = 3 ∨ K = 4 := by omega
  rcases h4 with rfl | rfl | rfl | rfl <;> decide
theorem decl_e (K : Nat) (h : 1 ≤ K ∧ K ≤ 4) {y : List Rt.Ex} {c : Int} (hd : Rt.DeclR [] (exE K) y c) : y = [exE K] ∧ c = 0 := by
  rcases hd with ⟨i, hi, -⟩ | ⟨-, -, hy, hc⟩ | ⟨-, hn, -⟩
  · exact absurd hi (by simp)
  · exact ⟨hy, hc⟩
  · exact absurd (exE_may K h) hn
theorem xs_nil (w : World) : Rt.XsAt w none 0 [] := Rt.RowsAt.nil _ _ _ _ _ (by decide)
theorem bs_nil (w : World) : Rt.BsAt w none 0 [] := Rt.RowsAt.nil _ _ _ _ _ (by decide)

set_option maxRecDepth 100000 in
set_option maxHeartbeats 4000000 in
theorem exchange_new (g : Nat) (st : Int) (b q c p : Value) (cf tx : Bool) (K : Nat) (hK : 1 ≤ K ∧ K ≤ 4) (w : World) (h : ChB w g st (.slice none 0 0) b q c p cf tx) :
    Calls Tryz.prog 31 #[.pointer (some ⟨g, 0, none⟩), .agg (meC (exM [101] (wordT K)) none 0)] w fun e w' => ∃ s v, e = .returned (.tuple #[.slice (some ⟨s, 0, none⟩) 1 1, .int .i64 0]) ∧ MeAt w' s (Me.of 4011) none 0 ∧ ChB w' g st v b q c p cf tx ∧ Rt.OwnX w' w.heap.size v [exE K] ∧ Kept [g] w w' := by
  have hat0 : MeAt (w.alloc (.cells (meC (exM [101] (wordT K)) none 0) 31)) w.heap.size (exM [101] (wordT K)) none 0 := heap_alloc_new w _
  have hb0 : Below w.heap.size w (w.alloc (.cells (meC (exM [101] (wordT K)) none 0) 31)) := (Below.refl _ _).alloc (Nat.le_refl _) _
  have m1 : (w.alloc (.cells (meC (exM [101] (wordT K)) none 0) 31)).cell? ⟨w.heap.size, 1, none⟩ = some (.string ⟨#[101]⟩) := hat0.cells.1.2.1
  have m2 : (w.alloc (.cells (meC (exM [101] (wordT K)) none 0) 31)).cell? ⟨w.heap.size, 2, none⟩ = some (.string ⟨(wordT K).toArray⟩) := hat0.cells.1.2.2.1
  have hch := h.below hb0
  have HGL := Lib.hid h.lt
  have HCH := Lib.hid hch
  have HB0 := Lib.hid hb0
  have HKO := Lib.hid (kind_all K hK)
  obtain ⟨⟨-, d1, -⟩, -, e1, -⟩ := hch.cells
  have qK : ((K : Int) == 0) = false := by rw [beq_eq_false_iff_ne]; omega
  have HKK := Lib.hid hK
  obtain ⟨mc, hmc⟩ : ∃ mc, mc = meC (exM [101] (wordT K)) none 0 := ⟨_, rfl⟩
  rw [← hmc] at m1 m2 d1 e1 HCH HB0 ⊢
  obtain ⟨W, hW⟩ : ∃ W, W = w.alloc (.cells mc 31) := ⟨_, rfl⟩
  have HWW := Lib.hid hW
  have hWs : W.heap.size = w.heap.size + 1 := by rw [hW]; simp
  rw [← hW] at m1 m2 d1 e1 HCH HB0
  have HD := Lib.hid (Rt.declare_any none 0 [] (exE K) (by simp) W.drew (xs_nil _))
  have zg : g < W.heap.size := by have := HGL.out; omega
  have zb : w.heap.size < W.heap.size := by omega
  clear hat0 hb0 h hch hmc hW hK
  go_enter Tryz.func31, Tryz.ntmps31
  go_upto_region 1 with fail
  rw [← HWW.out]
  go_upto_region 4 with (go_at_call 51; refine (HKO.out _).mono ?_; rintro e w1 ⟨rfl, rfl⟩)
  go_upto_region 4 with fail
  have HSK := Lib.hid (fun (wz : World) (k : Below W.heap.size W wz) => (⟨(cell_of_below k zg).trans d1, (cell_of_below k zb).trans m1⟩ : wz.cell? ⟨g, 1, none⟩ = some (.slice none 0 0) ∧ wz.cell? ⟨w.heap.size, 1, none⟩ = some (.string ⟨#[101]⟩)))
  have hS0 := HSK.out _ (Below.refl W.heap.size W).drew
  go_region_held3 (fun wx => wx.cell? ⟨g, 1, none⟩ = some (.slice none 0 0) ∧ wx.cell? ⟨w.heap.size, 1, none⟩ = some (.string ⟨#[101]⟩))
    (first | exact hS0 | exact HSK.out _ HB3.out)
    (first | (go_at_call 52; refine HD.out.mono ?_; rintro e w3 ⟨hb3, v3, y3, c3, rfl, hd3, ho3⟩; obtain ⟨rfl, rfl⟩ := decl_e K HKK.out hd3; have HB3 := Lib.hid ((Below.refl W.heap.size W).drew.trans hb3); obtain ⟨xa, xc, he, -⟩ := Rt.OwnX.at ho3; have he : v3 = .slice xa 1 xc := he; subst he; have HO3 : Hid (Rt.OwnX w3 w.heap.size (.slice xa 1 xc) [exE K]) := Lib.hid (Rt.OwnX.mono ho3 (Nat.le_of_lt zb)); clear hb3 hd3 ho3; dsimp only) | fail)
  have hc3 := HCH.out.below HB3.out
  have hs1 := hc3.set1 (.slice xa 1 xc)
  have ho5 : Rt.OwnX (w3.setCell ⟨g, 1, none⟩ (.slice xa 1 xc)) w.heap.size (.slice xa 1 xc) [exE K] := own_stay HO3.out fun j hj => Below.heap_setCell w3 ⟨g, 1, none⟩ (.slice xa 1 xc) j (fun e => own_box HO3.out hc3 (by decide) (by rw [hj]; exact congrArg some e))
  have HK5 : Hid (Kept [g] w (w3.setCell ⟨g, 1, none⟩ (.slice xa 1 xc))) := Lib.hid ((Kept.of_below (HB0.out.trans (HB3.out.mono HB0.out.size))).set (by simp) 1 (.slice xa 1 xc))
  have HC5 := Lib.hid hs1
  have HO5 := Lib.hid ho5
  obtain ⟨⟨-, f1, -⟩, -, g1, -⟩ := hc3.cells
  clear hc3 hs1 ho5
  go_upto_region 6 with fail
  generalize w3.setCell ⟨g, 1, none⟩ (.slice xa 1 xc) = W5 at *
  go_wp2_with (go_at_call 34; refine (done_ok 4011 W5).mono ?_; rintro e w6 ⟨rfl, hm6, hb6⟩; have HM6 := Lib.hid hm6; have HB6 := Lib.hid hb6; clear hm6 hb6)
  go_ret2
  exact ⟨_, (.slice xa 1 xc), rfl, HM6.out, HC5.out.below HB6.out, Rt.OwnX.below1 HO5.out HB6.out, Kept.tail HK5.out HB6.out⟩
end Go.Proofs.YtiobcgolcoocnaaGreatDoor.Ch
