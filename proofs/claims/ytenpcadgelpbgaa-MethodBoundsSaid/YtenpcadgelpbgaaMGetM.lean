/-
  package method's Get, walked.
-/
import Derived.Test.YtenpcadgelpbgaaMRead
namespace Go.Proofs.Ytenpcadgelpbgaa
open Go.RowKit
set_option linter.unusedVariables false
variable {B : Nat}

theorem set_below {a w : World} {g i : Nat} {u : Value} (h : Below g a w) : Below g a (w.setCell ⟨g, i, none⟩ u) := h.setCell (Nat.le_refl _) u

/-- what Get answers. -/
def GetMR (b : List UInt8) (w : World) (e : Ending) (w' : World) : Prop :=
  Below w.heap.size w w' ∧ ((e = .returned (.tuple #[.agg (meC (Me.of 0) none 0), .int .i64 502]) ∧ (b.length < 4 ∨ ∃ pl, HeadOk b pl) ∧ ∀ m, Good m → putM m = b → False) ∨
    (e = .returned (.tuple #[.agg (meC (Me.of 0) none 0), .int .i64 503]) ∧ 4 ≤ b.length ∧ ∀ pl, ¬ HeadOk b pl) ∨
    ∃ (m : Me) (a : Option Addr) (cap : Nat) (bs : List Nat), Good m ∧ putM m = b ∧ e = .returned (.tuple #[.agg (meC m a cap), .int .i64 0]) ∧ SlAt w' bs a cap m.args ∧ Own w' w.heap.size bs)

theorem num2_short {l : List UInt8} (h : l.length < 4) : ((numP 2 l).2.2 || (numP 2 (numP 2 l).2.1).2.2) = true := by
  unfold numP takeP
  by_cases h2 : l.length < 2
  · simp [h2]
  · have h4 : (l.drop 2).length < 2 := by simp; omega
    simp only [if_neg h2, if_pos h4, Bool.or_true]
theorem num2_long {l : List UInt8} (h : 4 ≤ l.length) : numP 2 l = (de (l.take 2), l.drop 2, false) ∧ numP 2 (l.drop 2) = (de ((l.drop 2).take 2), l.drop 4, false) := by
  unfold numP takeP
  have h2 : ¬ l.length < 2 := by omega
  have h4 : ¬ (l.drop 2).length < 2 := by simp; omega
  rw [if_neg h2, if_neg h4, List.drop_drop]
  exact ⟨rfl, rfl⟩
theorem putM_short (m : Me) (h : Good m) : 4 ≤ (putM m).length := by
  obtain ⟨l, hl, _⟩ := h.may
  rw [putM_eq hl]
  simp
theorem putM_head (m : Me) (h : Good m) : ∃ pl, partsOf m.id = some pl ∧ HeadOk (putM m) pl ∧ idOf (putM m) = m.id ∧ (putM m).drop 4 = encL m pl := by
  obtain ⟨l, hl, _⟩ := h.may
  rw [putM_eq hl]
  exact ⟨l, hl, head_put hl _⟩

set_option maxRecDepth 100000 in
set_option maxHeartbeats 8000000 in
theorem getM_any (v : Value) (b : List UInt8) (w : World) (hB : B ≤ w.heap.size) (hv : BytesIn B w v b) :
    Calls Try.prog 12 #[v] w (GetMR b w) := by
  obtain ⟨a, cap, rfl, hlc, hcm, hat⟩ := hv
  have HAT := Lib.hid hat
  clear hat
  unfold maxLen at hcm
  have hbel : Below w.heap.size w ((w.alloc (.cells #[.int .i64 0, .string ⟨#[]⟩, .string ⟨#[]⟩, .string ⟨#[]⟩, .string ⟨#[]⟩, .string ⟨#[]⟩, .int .i64 0, .int .i64 0, .int .u64 0, .bool false, .bool false, .slice none 0 0] 25)).alloc (.cells #[.slice a b.length cap, .bool false] 59)) := ((Below.refl _ _).alloc (Nat.le_refl _) _).alloc (by simp) _
  have hz : (w.alloc (.cells #[.int .i64 0, .string ⟨#[]⟩, .string ⟨#[]⟩, .string ⟨#[]⟩, .string ⟨#[]⟩, .string ⟨#[]⟩, .int .i64 0, .int .i64 0, .int .u64 0, .bool false, .bool false, .slice none 0 0] 25)).heap.size = w.heap.size + 1 := by simp
  have hres : MeAt ((w.alloc (.cells #[.int .i64 0, .string ⟨#[]⟩, .string ⟨#[]⟩, .string ⟨#[]⟩, .string ⟨#[]⟩, .string ⟨#[]⟩, .int .i64 0, .int .i64 0, .int .u64 0, .bool false, .bool false, .slice none 0 0] 25)).alloc (.cells #[.slice a b.length cap, .bool false] 59)) w.heap.size (Me.of 0) none 0 := (Below.heap_alloc _ _ _ (by simp)).trans (heap_alloc_new w _)
  have hrd : Rd 59 B ((w.alloc (.cells #[.int .i64 0, .string ⟨#[]⟩, .string ⟨#[]⟩, .string ⟨#[]⟩, .string ⟨#[]⟩, .string ⟨#[]⟩, .int .i64 0, .int .i64 0, .int .u64 0, .bool false, .bool false, .slice none 0 0] 25)).alloc (.cells #[.slice a b.length cap, .bool false] 59)) (w.heap.size + 1) b false := by
    refine ⟨_, by have := heap_alloc_new (w.alloc (.cells #[.int .i64 0, .string ⟨#[]⟩, .string ⟨#[]⟩, .string ⟨#[]⟩, .string ⟨#[]⟩, .string ⟨#[]⟩, .int .i64 0, .int .i64 0, .int .u64 0, .bool false, .bool false, .slice none 0 0] 25)) (.cells #[.slice a b.length cap, .bool false] 59); rw [hz] at this; exact this, a, cap, rfl, hlc, (by unfold maxLen; omega), fun h0 => ?_⟩
    obtain ⟨b1, o, ha, hbB, hc⟩ := HAT.out h0
    exact ⟨b1, o, ha, hbB, fun i hi => (hbel.cell (p := ⟨b1, o + i, none⟩) (by show b1 < w.heap.size; omega)).trans (hc i hi)⟩
  go_enter Try.func12, Try.ntmps12
  go_wp2_with fail
  generalize ((w.alloc (.cells #[.int .i64 0, .string ⟨#[]⟩, .string ⟨#[]⟩, .string ⟨#[]⟩, .string ⟨#[]⟩, .string ⟨#[]⟩, .int .i64 0, .int .i64 0, .int .u64 0, .bool false, .bool false, .slice none 0 0] 25)).alloc (.cells #[.slice a b.length cap, .bool false] 59)) = W1 at *
  clear hz HAT
  have HRES := Lib.hid hres
  have HRD := Lib.hid hrd
  have HBL := Lib.hid hbel
  have hzW := hbel.size
  clear hbel hres hrd
  refine (number_any (w.heap.size + 1) 2 (by decide) b false _ HRD.out).mono ?_
  rintro e w1 ⟨rfl, hr1, hg1⟩
  have HR1 := Lib.hid hr1
  have HG1 := Lib.hid hg1
  clear hr1 hg1
  go_wp2_with fail
  refine (number_any (w.heap.size + 1) 2 (by decide) _ _ _ HR1.out).mono ?_
  rintro e w2 ⟨rfl, hr2, hg2⟩
  rw [Bool.false_or] at hr2
  have hg12 := GrownBy.trans HG1.out hg2
  have hres2 : MeAt w2 w.heap.size (Me.of 0) none 0 := HRES.out.keep (hg12.block _ HRES.out.lt (by simp))
  have hb2 : Below w.heap.size w w2 := HBL.out.grown hg12 (by omega) (fun k e => by cases e; omega)
  have HB2 := Lib.hid hb2
  have HR2 := Lib.hid hr2
  have HRES2 := Lib.hid hres2
  have hz2 := hg12.size
  clear hr2 hg2 hg12 hres2 hb2 HR1 HG1 HRES HRD HBL
  obtain ⟨vr, hvr, ar, cr, rfl, hlr, hmr, hatr⟩ := HR2.out
  have c1 : w2.cell? ⟨w.heap.size + 1, 1, none⟩ = some (.bool ((numP 2 b).2.2 || (numP 2 (numP 2 b).2.1).2.2)) := by rw [cell_of_row w2 _ _ _ _ _ hvr]; rfl
  obtain ⟨⟨d0, d1, d2, d3, d4, d5⟩, d6, d7, d8, d9, d10, d11⟩ := HRES2.out.cells
  have hf := HRES2.out.frozen
  have f0 := hf 0
  have f1 := hf 1
  have f2 := hf 2
  have f3 := hf 3
  have f4 := hf 4
  have f5 := hf 5
  have f6 := hf 6
  have f7 := hf 7
  have f8 := hf 8
  have f9 := hf 9
  have f10 := hf 10
  have f11 := hf 11
  clear hf hvr hatr
  by_cases h4 : b.length < 4
  · rw [num2_short h4] at c1
    have H4 := Lib.hid h4
    clear h4
    go_wp2_with fail
    refine bodyPost_ret (v := .tuple #[.agg #[.int .i64 0, .string ⟨#[]⟩, .string ⟨#[]⟩, .string ⟨#[]⟩, .string ⟨#[]⟩, .string ⟨#[]⟩, .int .i64 0, .int .i64 0, .int .u64 0, .bool false, .bool false, .slice none 0 0], .int .i64 502]) (by simp [results, Try.results12, go_sem, *]) rfl ?_
    refine ⟨?_, .inl ⟨rfl, .inl H4.out, fun m hm h => by have := putM_short m hm; rw [h] at this; have := H4.out; omega⟩⟩
    iterate 12 refine set_below ?_
    exact HB2.out
  · have h4' : 4 ≤ b.length := by omega
    obtain ⟨e1, e2⟩ := num2_long h4'
    have hR2 := HR2.out
    have a1 : (b.take 2).length = 2 := by simp; omega
    have a2 : ((b.drop 2).take 2).length = 2 := by simp; omega
    have hC1 := de_lt (b.take 2)
    have hD1 := de_lt ((b.drop 2).take 2)
    rw [a1] at hC1
    rw [a2] at hD1
    obtain ⟨C, hC⟩ : ∃ C, C = de (b.take 2) := ⟨_, rfl⟩
    obtain ⟨D, hD⟩ : ∃ D, D = de ((b.drop 2).take 2) := ⟨_, rfl⟩
    have hid : idOf b = ((C * 100 + D : Nat) : Int) := by unfold idOf; rw [hC, hD]
    rw [e1] at c1 hR2 ⊢
    simp only at c1 hR2 ⊢
    rw [e2] at c1 hR2 ⊢
    simp only [Bool.or_false] at c1 hR2 ⊢
    rw [← hC] at hC1 ⊢
    rw [← hD] at hD1 ⊢
    have HID := Lib.hid hid
    have HD := Lib.hid hD
    have H4 := Lib.hid h4'
    have HR3 := Lib.hid hR2
    clear hid hD hC h4 h4' e1 e2 a1 a2 HR2 hR2 hlr
    replace hC1 : C < 65536 := hC1
    replace hD1 : D < 65536 := hD1
    have x1 : IntKind.u64.wrap ((C : Int) * 100) = (C : Int) * 100 := by rw [IntKind.wrap_u64]; omega
    have x2 : IntKind.u64.wrap ((C : Int) * 100 + (D : Int)) = (C : Int) * 100 + (D : Int) := by rw [IntKind.wrap_u64]; omega
    have x3 : IntKind.i64.wrap ((C : Int) * 100 + (D : Int)) = (C : Int) * 100 + (D : Int) := IntWalk.i64_in _ (by omega)
    by_cases hd : 100 ≤ D
    · have hdi : (100 : Int) ≤ (D : Int) := by omega
      go_wp2_with fail
      refine bodyPost_ret (v := .tuple #[.agg #[.int .i64 0, .string ⟨#[]⟩, .string ⟨#[]⟩, .string ⟨#[]⟩, .string ⟨#[]⟩, .string ⟨#[]⟩, .int .i64 0, .int .i64 0, .int .u64 0, .bool false, .bool false, .slice none 0 0], .int .i64 503]) (by simp [results, Try.results12, go_sem, *]) rfl ?_
      refine ⟨?_, .inr (.inl ⟨rfl, H4.out, fun pl h => by have := h.2.1; rw [← HD.out] at this; omega⟩)⟩
      iterate 12 refine set_below ?_
      exact HB2.out
    · have hdi : ¬ (100 : Int) ≤ (D : Int) := by omega
      have hid2 : idOf b = (C : Int) * 100 + (D : Int) := by rw [HID.out]; omega
      have HI2 := Lib.hid hid2
      clear hid2
      go_wp2_with fail
      refine (parts_any ((C : Int) * 100 + (D : Int)) _).mono ?_
      rintro e w3 ⟨rfl, rfl⟩
      cases hp : partsOf ((C : Int) * 100 + (D : Int)) with
      | none =>
        have hs : partsStr ((C : Int) * 100 + (D : Int)) = ⟨#[45]⟩ := by unfold partsStr; rw [hp]
        have HP := Lib.hid hp
        rw [hs]
        clear hp hs
        go_wp2_with fail
        refine bodyPost_ret (v := .tuple #[.agg #[.int .i64 0, .string ⟨#[]⟩, .string ⟨#[]⟩, .string ⟨#[]⟩, .string ⟨#[]⟩, .string ⟨#[]⟩, .int .i64 0, .int .i64 0, .int .u64 0, .bool false, .bool false, .slice none 0 0], .int .i64 503]) (by simp [results, Try.results12, go_sem, *]) rfl ?_
        refine ⟨?_, .inr (.inl ⟨rfl, H4.out, fun pl h => by have := h.2.2; rw [HI2.out, HP.out] at this; cases this⟩)⟩
        iterate 12 refine set_below ?_
        exact HB2.out
      | some pl =>
        have hs : partsStr ((C : Int) * 100 + (D : Int)) = ltr pl := by unfold partsStr; rw [hp]
        have HP := Lib.hid hp
        obtain ⟨hd1, hd2⟩ := ltr_dash pl
        rw [hs]
        clear hp hs
        go_wp2_with fail
        clear hd1 hd2 c1
        refine (readP_any (B := B) (gr := w.heap.size + 1) HP.out HR3.out (by omega)).mono ?_
        rintro e w3 ⟨m, a3, cap3, bs3, l3, bad3, rfl, hst⟩
        have hres3 : MeAt w3 w.heap.size (Me.of 0) none 0 := HRES2.out.keep (hst.grew.block _ HRES2.out.lt (by simp))
        have hb3 : Below w.heap.size w w3 := HB2.out.grown hst.grew (by omega) (fun k e => by cases e; omega)
        have hz3 := hst.grew.size
        have hRl := HRES2.out.lt
        have HST := Lib.hid hst
        have HRES3 := Lib.hid hres3
        have HB3 := Lib.hid hb3
        have hhead : HeadOk b pl := ⟨H4.out, by rw [← HD.out]; omega, by rw [HI2.out]; exact HP.out⟩
        have HHD := Lib.hid hhead
        clear hst hres3 hb3 hhead d0 d1 d2 d3 d4 d5 d6 d7 d8 d9 d10 d11 f0 f1 f2 f3 f4 f5 f6 f7 f8 f9 f10 f11
        have hat3 := HST.out.at_
        have HMX := Lib.hid hat3
        clear hat3
        obtain ⟨vr3, hvr3, ar3, cr3, rfl, hl3, hm3, -⟩ := HST.out.rd
        have hlt3 : w.heap.size + 1 < w3.heap.size := HST.out.rd.lt
        have hv4 : (w3.alloc (.cells #[.int .i64 m.id, .string m.name, .string m.typ, .string m.ex, .string m.key, .string m.text, .int .i64 m.code, .int .i64 m.count, .int .u64 m.tag, .bool m.flag, .bool m.back, .slice a3 m.args.length cap3] 25)).heap[w.heap.size + 1]? = some (.cells #[.slice ar3 l3.length cr3, .bool bad3] 59 (0, 0)) := (Below.heap_alloc w3 _ _ hlt3).trans hvr3
        have e0 : (w3.alloc (.cells #[.int .i64 m.id, .string m.name, .string m.typ, .string m.ex, .string m.key, .string m.text, .int .i64 m.code, .int .i64 m.count, .int .u64 m.tag, .bool m.flag, .bool m.back, .slice a3 m.args.length cap3] 25)).cell? ⟨w.heap.size + 1, 0, none⟩ = some (.slice ar3 l3.length cr3) := by rw [cell_of_row _ _ _ _ _ _ hv4]; rfl
        have e1 : (w3.alloc (.cells #[.int .i64 m.id, .string m.name, .string m.typ, .string m.ex, .string m.key, .string m.text, .int .i64 m.code, .int .i64 m.count, .int .u64 m.tag, .bool m.flag, .bool m.back, .slice a3 m.args.length cap3] 25)).cell? ⟨w.heap.size + 1, 1, none⟩ = some (.bool bad3) := by rw [cell_of_row _ _ _ _ _ _ hv4]; rfl
        have hA : MeAt (w3.alloc (.cells #[.int .i64 m.id, .string m.name, .string m.typ, .string m.ex, .string m.key, .string m.text, .int .i64 m.code, .int .i64 m.count, .int .u64 m.tag, .bool m.flag, .bool m.back, .slice a3 m.args.length cap3] 25)) w.heap.size (Me.of 0) none 0 := HRES3.out.keep (Below.heap_alloc w3 _ _ HRES3.out.lt)
        obtain ⟨⟨d0, d1, d2, d3, d4, d5⟩, d6, d7, d8, d9, d10, d11⟩ := hA.cells
        have hf := hA.frozen
        have f0 := hf 0
        have f1 := hf 1
        have f2 := hf 2
        have f3 := hf 3
        have f4 := hf 4
        have f5 := hf 5
        have f6 := hf 6
        have f7 := hf 7
        have f8 := hf 8
        have f9 := hf 9
        have f10 := hf 10
        have f11 := hf 11
        have hM : MeAt (w3.alloc (.cells #[.int .i64 m.id, .string m.name, .string m.typ, .string m.ex, .string m.key, .string m.text, .int .i64 m.code, .int .i64 m.count, .int .u64 m.tag, .bool m.flag, .bool m.back, .slice a3 m.args.length cap3] 25)) w3.heap.size m a3 cap3 := heap_alloc_new w3 _
        obtain ⟨⟨g0, g1, g2, g3, g4, g5⟩, g6, g7, g8, g9, g10, g11⟩ := hM.cells
        have HLT := Lib.hid hlt3
        clear hf hvr3 hl3 hm3 hv4 hA hM hz2 hz3 hRl hzW hlc hcm hmr hdi hlt3
        have hno : (bad3 = true ∨ ¬ l3 = []) → ∀ m2, Good m2 → putM m2 = b → False := by
          intro hbad m2 hg2 hput
          obtain ⟨pl2, k1, k2, k3, k4⟩ := putM_head m2 hg2
          rw [hput] at k2 k3 k4
          have k5 := k2.2.2
          rw [HHD.out.2.2] at k5
          obtain rfl := Option.some.inj k5
          have k6 := (mayM_iff k1).1 hg2.may
          have k7 : bad3 = false := HST.out.app m2 [] k6.1 hg2.wf hg2.few (fun _ => rfl) (by rw [List.append_nil]; exact k4)
          obtain ⟨_, k8, k9, k10⟩ := HST.out.ok k7
          rw [List.take_length] at k8 k9
          rcases hbad with h | h
          · rw [k7] at h; cases h
          · have k11 := k4.symm.trans k8
            have k12 := encL_app (x := []) hg2.wf HST.out.wf hg2.few k10 k6.1 k9 (by rw [List.append_nil]; exact k11)
            exact h k12.2.symm
        have hyes : bad3 = false → l3 = [] → Good m ∧ putM m = b := by
          intro h1 h2
          obtain ⟨_, k8, k9, k10⟩ := HST.out.ok h1
          have hpm : partsOf m.id = some pl := by rw [HST.out.id_]; exact HP.out
          rw [List.take_length] at k8 k9
          refine ⟨⟨(mayM_iff hpm).2 ⟨k9, fun p hp => HST.out.no p (by rw [List.take_length]; exact hp)⟩, HST.out.wf, k10⟩, ?_⟩
          rw [putM_eq hpm, head_of HHD.out, HST.out.id_, HI2.out, k8, h2, List.append_nil]
        have HNO := Lib.hid hno
        have HYES := Lib.hid hyes
        clear hno hyes
        unfold meC
        cases bad3
        · cases l3 with
          | nil =>
            go_wp2_with fail
            have HB4 : Below w.heap.size w (w3.alloc (.cells #[.int .i64 m.id, .string m.name, .string m.typ, .string m.ex, .string m.key, .string m.text, .int .i64 m.code, .int .i64 m.count, .int .u64 m.tag, .bool m.flag, .bool m.back, .slice a3 m.args.length cap3] 25)) := HB3.out.alloc (by have := HLT.out; omega) _
            have hk4 : ∀ b, b < w3.heap.size → (w3.alloc (.cells #[.int .i64 m.id, .string m.name, .string m.typ, .string m.ex, .string m.key, .string m.text, .int .i64 m.code, .int .i64 m.count, .int .u64 m.tag, .bool m.flag, .bool m.back, .slice a3 m.args.length cap3] 25)).heap[b]? = w3.heap[b]? := fun b hb => Below.heap_alloc w3 _ b hb
            have hz4 : w3.heap.size ≤ (w3.alloc (.cells #[.int .i64 m.id, .string m.name, .string m.typ, .string m.ex, .string m.key, .string m.text, .int .i64 m.code, .int .i64 m.count, .int .u64 m.tag, .bool m.flag, .bool m.back, .slice a3 m.args.length cap3] 25)).heap.size := by simp
            clear g0 g1 g2 g3 g4 g5 g6 g7 g8 g9 g10 g11 e0 e1
            generalize (w3.alloc (.cells #[.int .i64 m.id, .string m.name, .string m.typ, .string m.ex, .string m.key, .string m.text, .int .i64 m.code, .int .i64 m.count, .int .u64 m.tag, .bool m.flag, .bool m.back, .slice a3 m.args.length cap3] 25)) = w4 at *
            have HB4' := Lib.hid HB4
            have HK4 := Lib.hid hk4
            have HZ4 := Lib.hid hz4
            clear HB4 hk4 hz4
            refine bodyPost_ret (v := .tuple #[.agg #[.int .i64 m.id, .string m.name, .string m.typ, .string m.ex, .string m.key, .string m.text, .int .i64 m.code, .int .i64 m.count, .int .u64 m.tag, .bool m.flag, .bool m.back, .slice a3 m.args.length cap3], .int .i64 0]) (by simp [results, Try.results12, go_sem, *]) rfl ?_
            obtain ⟨hg, hput⟩ := HYES.out (by trivial) (by trivial)
            have hbs : ∀ x ∈ bs3, w.heap.size < x ∧ x < w3.heap.size := fun x hx => by
              have h1 := HST.out.own.2 x hx
              have h2 := HB2.out.size
              exact ⟨by omega, h1.2.1⟩
            refine ⟨?_, .inr (.inr ⟨m, a3, cap3, bs3, hg, hput, rfl, HST.out.sl.keep fun x hx => ?_, (HST.out.own.mono (by have := HB2.out.size; omega)).keep (fun x hx => ?_) ?_⟩)⟩
            · iterate 12 refine set_below ?_
              exact HB4'.out
            · have h1 := hbs x hx
              iterate 12 rw [Below.heap_setCell _ _ _ _ (by show x ≠ w.heap.size; omega)]
              exact HK4.out x h1.2
            · have h1 := hbs x hx
              iterate 12 rw [Below.heap_setCell _ _ _ _ (by show x ≠ w.heap.size; omega)]
              exact HK4.out x h1.2
            · simp only [set_size]
              exact HZ4.out
          | cons x r =>
            have hx : (0 : Int) < ((x :: r).length : Int) := by rw [List.length_cons]; omega
            go_wp2_with fail
            have HB4 : Below w.heap.size w (w3.alloc (.cells #[.int .i64 m.id, .string m.name, .string m.typ, .string m.ex, .string m.key, .string m.text, .int .i64 m.code, .int .i64 m.count, .int .u64 m.tag, .bool m.flag, .bool m.back, .slice a3 m.args.length cap3] 25)) := HB3.out.alloc (by have := HLT.out; omega) _
            have hk4 : ∀ b, b < w3.heap.size → (w3.alloc (.cells #[.int .i64 m.id, .string m.name, .string m.typ, .string m.ex, .string m.key, .string m.text, .int .i64 m.code, .int .i64 m.count, .int .u64 m.tag, .bool m.flag, .bool m.back, .slice a3 m.args.length cap3] 25)).heap[b]? = w3.heap[b]? := fun b hb => Below.heap_alloc w3 _ b hb
            have hz4 : w3.heap.size ≤ (w3.alloc (.cells #[.int .i64 m.id, .string m.name, .string m.typ, .string m.ex, .string m.key, .string m.text, .int .i64 m.code, .int .i64 m.count, .int .u64 m.tag, .bool m.flag, .bool m.back, .slice a3 m.args.length cap3] 25)).heap.size := by simp
            clear g0 g1 g2 g3 g4 g5 g6 g7 g8 g9 g10 g11 e0 e1
            generalize (w3.alloc (.cells #[.int .i64 m.id, .string m.name, .string m.typ, .string m.ex, .string m.key, .string m.text, .int .i64 m.code, .int .i64 m.count, .int .u64 m.tag, .bool m.flag, .bool m.back, .slice a3 m.args.length cap3] 25)) = w4 at *
            have HB4' := Lib.hid HB4
            have HK4 := Lib.hid hk4
            have HZ4 := Lib.hid hz4
            clear HB4 hk4 hz4
            refine bodyPost_ret (v := .tuple #[.agg #[.int .i64 0, .string ⟨#[]⟩, .string ⟨#[]⟩, .string ⟨#[]⟩, .string ⟨#[]⟩, .string ⟨#[]⟩, .int .i64 0, .int .i64 0, .int .u64 0, .bool false, .bool false, .slice none 0 0], .int .i64 502]) (by simp [results, Try.results12, go_sem, *]) rfl ?_
            refine ⟨?_, .inl ⟨rfl, .inr ⟨pl, HHD.out⟩, HNO.out (.inr (by simp))⟩⟩
            iterate 12 refine set_below ?_
            exact HB4'.out
        · go_wp2_with fail
          have HB4 : Below w.heap.size w (w3.alloc (.cells #[.int .i64 m.id, .string m.name, .string m.typ, .string m.ex, .string m.key, .string m.text, .int .i64 m.code, .int .i64 m.count, .int .u64 m.tag, .bool m.flag, .bool m.back, .slice a3 m.args.length cap3] 25)) := HB3.out.alloc (by have := HLT.out; omega) _
          have hk4 : ∀ b, b < w3.heap.size → (w3.alloc (.cells #[.int .i64 m.id, .string m.name, .string m.typ, .string m.ex, .string m.key, .string m.text, .int .i64 m.code, .int .i64 m.count, .int .u64 m.tag, .bool m.flag, .bool m.back, .slice a3 m.args.length cap3] 25)).heap[b]? = w3.heap[b]? := fun b hb => Below.heap_alloc w3 _ b hb
          have hz4 : w3.heap.size ≤ (w3.alloc (.cells #[.int .i64 m.id, .string m.name, .string m.typ, .string m.ex, .string m.key, .string m.text, .int .i64 m.code, .int .i64 m.count, .int .u64 m.tag, .bool m.flag, .bool m.back, .slice a3 m.args.length cap3] 25)).heap.size := by simp
          clear g0 g1 g2 g3 g4 g5 g6 g7 g8 g9 g10 g11 e0 e1
          generalize (w3.alloc (.cells #[.int .i64 m.id, .string m.name, .string m.typ, .string m.ex, .string m.key, .string m.text, .int .i64 m.code, .int .i64 m.count, .int .u64 m.tag, .bool m.flag, .bool m.back, .slice a3 m.args.length cap3] 25)) = w4 at *
          have HB4' := Lib.hid HB4
          have HK4 := Lib.hid hk4
          have HZ4 := Lib.hid hz4
          clear HB4 hk4 hz4
          refine bodyPost_ret (v := .tuple #[.agg #[.int .i64 0, .string ⟨#[]⟩, .string ⟨#[]⟩, .string ⟨#[]⟩, .string ⟨#[]⟩, .string ⟨#[]⟩, .int .i64 0, .int .i64 0, .int .u64 0, .bool false, .bool false, .slice none 0 0], .int .i64 502]) (by simp [results, Try.results12, go_sem, *]) rfl ?_
          refine ⟨?_, .inl ⟨rfl, .inr ⟨pl, HHD.out⟩, HNO.out (.inl (by trivial))⟩⟩
          iterate 12 refine set_below ?_
          exact HB4'.out

end Go.Proofs.Ytenpcadgelpbgaa
