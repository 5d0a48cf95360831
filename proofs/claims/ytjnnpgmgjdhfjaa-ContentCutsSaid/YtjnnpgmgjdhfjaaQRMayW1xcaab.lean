/-
  The document's MayMethod, walked, where its first test says no.
  The document's MayMethod, walked, its first test passed: method by method.
  The document's MayMethod, walked, its first test passed: method by method.
-/
import Derived.Test.YtjnnpgmgjdhfjaaQRPutxfeff
import Derived.Test.YtjnnpgmgjdhfjaaQRCutxaffc
import Derived.Test.YtjnnpgmgjdhfjaaQGetxcbdf
namespace Go.Proofs.Ytjnnpgmgjdhfjaa
open Go.RowKit
set_option linter.unusedVariables false

theorem size_empty {s : ByteArray} (h : s.size = 0) : s = ByteArray.empty := by
  obtain ⟨⟨x⟩⟩ := s
  obtain rfl : x = [] := List.eq_nil_of_length_eq_zero h
  rfl

set_option maxRecDepth 100000 in
set_option maxHeartbeats 8000000 in
theorem rmayM_none {w : World} {m : Me} {a : Option Addr} {cap : Nat} (hp : partsOf m.id = none) :
    Calls Try.prog 25 #[.agg (meC m a cap)] w (fun e w' => e = .returned (.bool false) ∧ Below w.heap.size w w') := by
  have hb0 : Below w.heap.size w (w.alloc (.cells (meC m a cap) 25)) := (Below.refl _ _).alloc (Nat.le_refl _) _
  have hat : MeAt (w.alloc (.cells (meC m a cap) 25)) w.heap.size m a cap := heap_alloc_new w _
  have HB := Lib.hid hb0
  obtain ⟨⟨c0, c1, c2, c3, c4, c5⟩, c6, c7, c8, c9, c10, c11⟩ := hat.cells
  have hps : partsStr m.id = ⟨#[45]⟩ := by unfold partsStr; rw [hp]
  have HP := Lib.hid hps
  clear hb0 hat hps hp
  obtain ⟨mc, hmc⟩ : ∃ c, c = meC m a cap := ⟨_, rfl⟩
  rw [← hmc] at HB c0 c1 c2 c3 c4 c5 c6 c7 c8 c9 c10 c11 ⊢
  clear hmc
  go_enter Try.func25, Try.ntmps25
  go_wp2_with fail
  generalize w.alloc (.cells mc 25) = w1 at *
  refine (rparts_any m.id _).mono ?_
  rintro e w2 ⟨rfl, rfl⟩
  rw [HP.out]
  go_wp2_with fail
  go_ret
  exact ⟨by first | rfl | (simp [*]; done), HB.out⟩

/-- the first test. -/
structure RHead (m : Me) : Prop where
  s1 : (m.name.size : Int) ≤ 255
  s2 : (m.typ.size : Int) ≤ 255
  s3 : (m.ex.size : Int) ≤ 255
  s4 : (m.key.size : Int) ≤ 255
  s5 : (m.text.size : Int) ≤ 255
  c0 : 0 ≤ m.code
  c1 : m.code ≤ 65535
  u0 : 0 ≤ m.count
  u1 : m.count ≤ 4294967295
  args : MayT 1 m.args

set_option maxRecDepth 100000 in
set_option maxHeartbeats 8000000 in
theorem rmayM_neg {w : World} {m : Me} {a : Option Addr} {cap : Nat} {l : List Pt} (ht : Tb w a cap m.args) (wf : m.Wf) (hp : partsOf m.id = some l) (hn : ¬ RHead m) :
    Calls Try.prog 25 #[.agg (meC m a cap)] w (fun e w' => e = .returned (.bool false) ∧ Below w.heap.size w w') := by
  have hb0 : Below w.heap.size w (w.alloc (.cells (meC m a cap) 25)) := (Below.refl _ _).alloc (Nat.le_refl _) _
  have hat : MeAt (w.alloc (.cells (meC m a cap) 25)) w.heap.size m a cap := heap_alloc_new w _
  have HB := Lib.hid hb0
  have HT := Lib.hid (ht.below hb0)
  have HAT := Lib.hid hat
  obtain ⟨⟨c0, c1, c2, c3, c4, c5⟩, c6, c7, c8, c9, c10, c11⟩ := hat.cells
  have s1 := wf.s1
  have s2 := wf.s2
  have s3 := wf.s3
  have s4 := wf.s4
  have s5 := wf.s5
  have st := wf.tag
  unfold maxLen at s1 s2 s3 s4 s5
  obtain ⟨d1, d2⟩ := ltr_dash l
  have hps : partsStr m.id = ltr l := by unfold partsStr; rw [hp]
  have HP := Lib.hid hps
  have HPO := Lib.hid hp
  clear ht wf hb0 hat hps hp
  obtain ⟨mc, hmc⟩ : ∃ c, c = meC m a cap := ⟨_, rfl⟩
  rw [← hmc] at HB HT HAT c0 c1 c2 c3 c4 c5 c6 c7 c8 c9 c10 c11 ⊢
  clear hmc
  by_cases h1 : (m.name.size : Int) ≤ 255
  case neg =>
    go_enter Try.func25, Try.ntmps25
    go_wp2_with fail
    generalize w.alloc (.cells mc 25) = w1 at *
    refine (rparts_any m.id _).mono ?_
    rintro e w2 ⟨rfl, rfl⟩
    rw [HP.out]
    go_wp2_with fail
    go_ret
    exact ⟨by first | rfl | (simp [*]; done), HB.out⟩
  by_cases h2 : (m.typ.size : Int) ≤ 255
  case neg =>
    go_enter Try.func25, Try.ntmps25
    go_wp2_with fail
    generalize w.alloc (.cells mc 25) = w1 at *
    refine (rparts_any m.id _).mono ?_
    rintro e w2 ⟨rfl, rfl⟩
    rw [HP.out]
    go_wp2_with fail
    go_ret
    exact ⟨by first | rfl | (simp [*]; done), HB.out⟩
  by_cases h3 : (m.ex.size : Int) ≤ 255
  case neg =>
    go_enter Try.func25, Try.ntmps25
    go_wp2_with fail
    generalize w.alloc (.cells mc 25) = w1 at *
    refine (rparts_any m.id _).mono ?_
    rintro e w2 ⟨rfl, rfl⟩
    rw [HP.out]
    go_wp2_with fail
    go_ret
    exact ⟨by first | rfl | (simp [*]; done), HB.out⟩
  by_cases h4 : (m.key.size : Int) ≤ 255
  case neg =>
    go_enter Try.func25, Try.ntmps25
    go_wp2_with fail
    generalize w.alloc (.cells mc 25) = w1 at *
    refine (rparts_any m.id _).mono ?_
    rintro e w2 ⟨rfl, rfl⟩
    rw [HP.out]
    go_wp2_with fail
    go_ret
    exact ⟨by first | rfl | (simp [*]; done), HB.out⟩
  by_cases h5 : (m.text.size : Int) ≤ 255
  case neg =>
    go_enter Try.func25, Try.ntmps25
    go_wp2_with fail
    generalize w.alloc (.cells mc 25) = w1 at *
    refine (rparts_any m.id _).mono ?_
    rintro e w2 ⟨rfl, rfl⟩
    rw [HP.out]
    go_wp2_with fail
    go_ret
    exact ⟨by first | rfl | (simp [*]; done), HB.out⟩
  by_cases h6 : 0 ≤ m.code
  case neg =>
    go_enter Try.func25, Try.ntmps25
    go_wp2_with fail
    generalize w.alloc (.cells mc 25) = w1 at *
    refine (rparts_any m.id _).mono ?_
    rintro e w2 ⟨rfl, rfl⟩
    rw [HP.out]
    go_wp2_with fail
    go_ret
    exact ⟨by first | rfl | (simp [*]; done), HB.out⟩
  by_cases h7 : m.code ≤ 65535
  case neg =>
    go_enter Try.func25, Try.ntmps25
    go_wp2_with fail
    generalize w.alloc (.cells mc 25) = w1 at *
    refine (rparts_any m.id _).mono ?_
    rintro e w2 ⟨rfl, rfl⟩
    rw [HP.out]
    go_wp2_with fail
    go_ret
    exact ⟨by first | rfl | (simp [*]; done), HB.out⟩
  by_cases h8 : 0 ≤ m.count
  case neg =>
    go_enter Try.func25, Try.ntmps25
    go_wp2_with fail
    generalize w.alloc (.cells mc 25) = w1 at *
    refine (rparts_any m.id _).mono ?_
    rintro e w2 ⟨rfl, rfl⟩
    rw [HP.out]
    go_wp2_with fail
    go_ret
    exact ⟨by first | rfl | (simp [*]; done), HB.out⟩
  by_cases h9 : m.count ≤ 4294967295
  case neg =>
    go_enter Try.func25, Try.ntmps25
    go_wp2_with fail
    generalize w.alloc (.cells mc 25) = w1 at *
    refine (rparts_any m.id _).mono ?_
    rintro e w2 ⟨rfl, rfl⟩
    rw [HP.out]
    go_wp2_with fail
    go_ret
    exact ⟨by first | rfl | (simp [*]; done), HB.out⟩
  have hnt : ¬ MayT 1 m.args := fun h => hn ⟨h1, h2, h3, h4, h5, h6, h7, h8, h9, h⟩
  have HNT := Lib.hid hnt
  clear hn hnt
  go_enter Try.func25, Try.ntmps25
  go_wp2_with fail
  generalize w.alloc (.cells mc 25) = w1 at *
  refine (rparts_any m.id _).mono ?_
  rintro e w2 ⟨rfl, rfl⟩
  rw [HP.out]
  go_wp2_with fail
  refine (rmayTable_any _ HT.out).mono ?_
  rintro e w3 ⟨r, hr, rfl, hb⟩
  obtain rfl : r = false := by
    cases r
    · rfl
    · exact (HNT.out (hr.1 rfl)).elim
  have HB2 := Lib.hid (HB.out.trans (hb.mono HB.out.size))
  clear hr hb
  go_wp2_with fail
  go_ret
  exact ⟨by first | rfl | (simp [*]; done), HB2.out⟩

end Go.Proofs.Ytjnnpgmgjdhfjaa

namespace Go.Proofs.Ytjnnpgmgjdhfjaa
open Go.RowKit
set_option linter.unusedVariables false

set_option maxRecDepth 100000 in
set_option maxHeartbeats 8000000 in
theorem rmayM_0 {w : World} {m : Me} {a : Option Addr} {cap : Nat} (ht : Tb w a cap m.args) (wf : m.Wf) (hp : partsOf m.id = some []) (hh : RHead m) :
    Calls Try.prog 25 #[.agg (meC m a cap)] w (SaysB (∀ p, p ∉ ([] : List Pt) → m.No p) w) := by
  have hl := ht.len
  unfold maxLen at hl
  have hb0 : Below w.heap.size w (w.alloc (.cells (meC m a cap) 25)) := (Below.refl _ _).alloc (Nat.le_refl _) _
  have hat : MeAt (w.alloc (.cells (meC m a cap) 25)) w.heap.size m a cap := heap_alloc_new w _
  have HB := Lib.hid hb0
  have HT := Lib.hid (ht.below hb0)
  have HAT := Lib.hid hat
  obtain ⟨⟨c0, c1, c2, c3, c4, c5⟩, c6, c7, c8, c9, c10, c11⟩ := hat.cells
  have s1 := wf.s1
  have s2 := wf.s2
  have s3 := wf.s3
  have s4 := wf.s4
  have s5 := wf.s5
  have st := wf.tag
  unfold maxLen at s1 s2 s3 s4 s5
  obtain ⟨d1, d2⟩ := ltr_dash []
  have hps : partsStr m.id = ltr [] := by unfold partsStr; rw [hp]
  have HP := Lib.hid hps
  have HPO := Lib.hid hp
  clear ht wf hb0 hat hps hp
  obtain ⟨mc, hmc⟩ : ∃ c, c = meC m a cap := ⟨_, rfl⟩
  rw [← hmc] at HB HT HAT c0 c1 c2 c3 c4 c5 c6 c7 c8 c9 c10 c11 ⊢
  clear hmc
  obtain ⟨h1, h2, h3, h4, h5, h6, h7, h8, h9, hm⟩ := hh
  go_enter Try.func25, Try.ntmps25
  go_wp2_with fail
  generalize w.alloc (.cells mc 25) = w1 at *
  refine (rparts_any m.id _).mono ?_
  rintro e w2 ⟨rfl, rfl⟩
  rw [HP.out]
  go_wp2_with fail
  refine (rmayTable_any _ HT.out).mono ?_
  rintro e w3 ⟨r, hr, rfl, hb⟩
  obtain rfl : r = true := hr.2 hm
  have hat := HAT.out.keep (hb.block _ HAT.out.lt)
  have HB2 := Lib.hid (HB.out.trans (hb.mono HB.out.size))
  clear hr hb c0 c1 c2 c3 c4 c5 c6 c7 c8 c9 c10 c11 d1 d2 hm HAT HB HT
  obtain ⟨⟨c0, c1, c2, c3, c4, c5⟩, c6, c7, c8, c9, c10, c11⟩ := hat.cells
  clear hat
  simp only [show decide (255 < (m.name.size : Int)) = false from decide_eq_false (by omega), show decide (255 < (m.typ.size : Int)) = false from decide_eq_false (by omega), show decide (255 < (m.ex.size : Int)) = false from decide_eq_false (by omega), show decide (255 < (m.key.size : Int)) = false from decide_eq_false (by omega), show decide (255 < (m.text.size : Int)) = false from decide_eq_false (by omega), show decide (m.code < 0) = false from decide_eq_false (by omega), show decide (65535 < m.code) = false from decide_eq_false (by omega), show decide (m.count < 0) = false from decide_eq_false (by omega), show decide (4294967295 < m.count) = false from decide_eq_false (by omega), Bool.or_self]
  clear h1 h2 h3 h4 h5 h6 h7 h8 h9
  go_wp2_with fail
  refine (rhas_any HPO.out .n _).mono ?_
  rintro e wx ⟨rfl, rfl⟩
  rw [show decide (Pt.n ∈ ([] : List Pt)) = false from by decide]
  simp only []
  go_step
  dsimp only [List.append]
  by_cases hno : m.No .n
  case neg =>
    have HN := Lib.hid hno
    obtain ⟨hq, hq2⟩ := full_str (show ¬ m.name.size = 0 from fun h => hno (size_empty h))
    clear hno
    go_wp2_with fail
    go_ret
    exact ⟨false, ⟨(fun h => by cases h), fun h => (HN.out (h .n (by decide))).elim⟩, by first | rfl | (simp [*]; done), HB2.out⟩
  have Nn := Lib.hid hno
  obtain ⟨hq, hq2⟩ := empty_str (show m.name.size = 0 by rw [show m.name = ByteArray.empty from hno]; rfl)
  clear hno
  go_wp2_with fail
  refine (rhas_any HPO.out .y _).mono ?_
  rintro e wx ⟨rfl, rfl⟩
  rw [show decide (Pt.y ∈ ([] : List Pt)) = false from by decide]
  by_cases hno : m.No .y
  case neg =>
    have HN := Lib.hid hno
    obtain ⟨hq, hq2⟩ := full_str (show ¬ m.typ.size = 0 from fun h => hno (size_empty h))
    clear hno
    go_wp2_with fail
    go_ret
    exact ⟨false, ⟨(fun h => by cases h), fun h => (HN.out (h .y (by decide))).elim⟩, by first | rfl | (simp [*]; done), HB2.out⟩
  have Ny := Lib.hid hno
  obtain ⟨hq, hq2⟩ := empty_str (show m.typ.size = 0 by rw [show m.typ = ByteArray.empty from hno]; rfl)
  clear hno
  go_wp2_with fail
  refine (rhas_any HPO.out .e _).mono ?_
  rintro e wx ⟨rfl, rfl⟩
  rw [show decide (Pt.e ∈ ([] : List Pt)) = false from by decide]
  by_cases hno : m.No .e
  case neg =>
    have HN := Lib.hid hno
    obtain ⟨hq, hq2⟩ := full_str (show ¬ m.ex.size = 0 from fun h => hno (size_empty h))
    clear hno
    go_wp2_with fail
    go_ret
    exact ⟨false, ⟨(fun h => by cases h), fun h => (HN.out (h .e (by decide))).elim⟩, by first | rfl | (simp [*]; done), HB2.out⟩
  have Ne := Lib.hid hno
  obtain ⟨hq, hq2⟩ := empty_str (show m.ex.size = 0 by rw [show m.ex = ByteArray.empty from hno]; rfl)
  clear hno
  go_wp2_with fail
  refine (rhas_any HPO.out .k _).mono ?_
  rintro e wx ⟨rfl, rfl⟩
  rw [show decide (Pt.k ∈ ([] : List Pt)) = false from by decide]
  by_cases hno : m.No .k
  case neg =>
    have HN := Lib.hid hno
    obtain ⟨hq, hq2⟩ := full_str (show ¬ m.key.size = 0 from fun h => hno (size_empty h))
    clear hno
    go_wp2_with fail
    go_ret
    exact ⟨false, ⟨(fun h => by cases h), fun h => (HN.out (h .k (by decide))).elim⟩, by first | rfl | (simp [*]; done), HB2.out⟩
  have Nk := Lib.hid hno
  obtain ⟨hq, hq2⟩ := empty_str (show m.key.size = 0 by rw [show m.key = ByteArray.empty from hno]; rfl)
  clear hno
  go_wp2_with fail
  refine (rhas_any HPO.out .x _).mono ?_
  rintro e wx ⟨rfl, rfl⟩
  rw [show decide (Pt.x ∈ ([] : List Pt)) = false from by decide]
  by_cases hno : m.No .x
  case neg =>
    have HN := Lib.hid hno
    obtain ⟨hq, hq2⟩ := full_str (show ¬ m.text.size = 0 from fun h => hno (size_empty h))
    clear hno
    go_wp2_with fail
    go_ret
    exact ⟨false, ⟨(fun h => by cases h), fun h => (HN.out (h .x (by decide))).elim⟩, by first | rfl | (simp [*]; done), HB2.out⟩
  have Nx := Lib.hid hno
  obtain ⟨hq, hq2⟩ := empty_str (show m.text.size = 0 by rw [show m.text = ByteArray.empty from hno]; rfl)
  clear hno
  go_wp2_with fail
  refine (rhas_any HPO.out .c _).mono ?_
  rintro e wx ⟨rfl, rfl⟩
  rw [show decide (Pt.c ∈ ([] : List Pt)) = false from by decide]
  by_cases hno : m.No .c
  case neg =>
    have HN := Lib.hid hno
    have hq : (m.code == 0) = false := beq_eq_false_iff_ne.2 hno
    clear hno
    go_wp2_with fail
    go_ret
    exact ⟨false, ⟨(fun h => by cases h), fun h => (HN.out (h .c (by decide))).elim⟩, by first | rfl | (simp [*]; done), HB2.out⟩
  have Nc := Lib.hid hno
  have hq : (m.code == 0) = true := beq_iff_eq.2 hno
  clear hno
  go_wp2_with fail
  refine (rhas_any HPO.out .u _).mono ?_
  rintro e wx ⟨rfl, rfl⟩
  rw [show decide (Pt.u ∈ ([] : List Pt)) = false from by decide]
  by_cases hno : m.No .u
  case neg =>
    have HN := Lib.hid hno
    have hq : (m.count == 0) = false := beq_eq_false_iff_ne.2 hno
    clear hno
    go_wp2_with fail
    go_ret
    exact ⟨false, ⟨(fun h => by cases h), fun h => (HN.out (h .u (by decide))).elim⟩, by first | rfl | (simp [*]; done), HB2.out⟩
  have Nu := Lib.hid hno
  have hq : (m.count == 0) = true := beq_iff_eq.2 hno
  clear hno
  go_wp2_with fail
  refine (rhas_any HPO.out .t _).mono ?_
  rintro e wx ⟨rfl, rfl⟩
  rw [show decide (Pt.t ∈ ([] : List Pt)) = false from by decide]
  by_cases hno : m.No .t
  case neg =>
    have HN := Lib.hid hno
    have hq : ((m.tag : Int) == 0) = false := by rw [beq_eq_false_iff_ne]; intro h; exact hno (show m.tag = 0 by omega)
    clear hno
    go_wp2_with fail
    go_ret
    exact ⟨false, ⟨(fun h => by cases h), fun h => (HN.out (h .t (by decide))).elim⟩, by first | rfl | (simp [*]; done), HB2.out⟩
  have Nt := Lib.hid hno
  have hq : ((m.tag : Int) == 0) = true := by rw [beq_iff_eq, show m.tag = 0 from hno]; rfl
  clear hno
  go_wp2_with fail
  refine (rhas_any HPO.out .f _).mono ?_
  rintro e wx ⟨rfl, rfl⟩
  rw [show decide (Pt.f ∈ ([] : List Pt)) = false from by decide]
  by_cases hno : m.No .f
  case neg =>
    have HN := Lib.hid hno
    have hq : m.flag = true := by cases h : m.flag with | true => rfl | false => exact (hno h).elim
    clear hno
    go_wp2_with fail
    go_ret
    exact ⟨false, ⟨(fun h => by cases h), fun h => (HN.out (h .f (by decide))).elim⟩, by first | rfl | (simp [*]; done), HB2.out⟩
  have Nf := Lib.hid hno
  have hq : m.flag = false := hno
  clear hno
  go_wp2_with fail
  refine (rhas_any HPO.out .b _).mono ?_
  rintro e wx ⟨rfl, rfl⟩
  rw [show decide (Pt.b ∈ ([] : List Pt)) = false from by decide]
  by_cases hno : m.No .b
  case neg =>
    have HN := Lib.hid hno
    have hq : m.back = true := by cases h : m.back with | true => rfl | false => exact (hno h).elim
    clear hno
    go_wp2_with fail
    go_ret
    exact ⟨false, ⟨(fun h => by cases h), fun h => (HN.out (h .b (by decide))).elim⟩, by first | rfl | (simp [*]; done), HB2.out⟩
  have Nb := Lib.hid hno
  have hq : m.back = false := hno
  clear hno
  go_wp2_with fail
  refine (rhas_any HPO.out .a _).mono ?_
  rintro e wx ⟨rfl, rfl⟩
  rw [show decide (Pt.a ∈ ([] : List Pt)) = false from by decide]
  by_cases hno : m.No .a
  case neg =>
    have HN := Lib.hid hno
    have hq : ((m.args.length : Int) == 0) = false := by rw [beq_eq_false_iff_ne]; intro h; exact hno (show m.args = [] from List.eq_nil_of_length_eq_zero (by omega))
    clear hno
    go_wp2_with fail
    go_ret
    exact ⟨false, ⟨(fun h => by cases h), fun h => (HN.out (h .a (by decide))).elim⟩, by first | rfl | (simp [*]; done), HB2.out⟩
  have Na := Lib.hid hno
  have hq : ((m.args.length : Int) == 0) = true := by rw [beq_iff_eq, show m.args = [] from hno]; rfl
  clear hno
  go_wp2_with fail
  go_ret
  refine ⟨true, ⟨fun _ p hp => ?_, fun _ => rfl⟩, by first | rfl | (simp [*]; done), HB2.out⟩
  cases p
  case n => exact Nn.out
  case y => exact Ny.out
  case e => exact Ne.out
  case k => exact Nk.out
  case x => exact Nx.out
  case c => exact Nc.out
  case u => exact Nu.out
  case t => exact Nt.out
  case f => exact Nf.out
  case b => exact Nb.out
  case a => exact Na.out

set_option maxRecDepth 100000 in
set_option maxHeartbeats 8000000 in
theorem rmayM_1 {w : World} {m : Me} {a : Option Addr} {cap : Nat} (ht : Tb w a cap m.args) (wf : m.Wf) (hp : partsOf m.id = some [.c, .x]) (hh : RHead m) :
    Calls Try.prog 25 #[.agg (meC m a cap)] w (SaysB (∀ p, p ∉ ([.c, .x] : List Pt) → m.No p) w) := by
  have hl := ht.len
  unfold maxLen at hl
  have hb0 : Below w.heap.size w (w.alloc (.cells (meC m a cap) 25)) := (Below.refl _ _).alloc (Nat.le_refl _) _
  have hat : MeAt (w.alloc (.cells (meC m a cap) 25)) w.heap.size m a cap := heap_alloc_new w _
  have HB := Lib.hid hb0
  have HT := Lib.hid (ht.below hb0)
  have HAT := Lib.hid hat
  obtain ⟨⟨c0, c1, c2, c3, c4, c5⟩, c6, c7, c8, c9, c10, c11⟩ := hat.cells
  have s1 := wf.s1
  have s2 := wf.s2
  have s3 := wf.s3
  have s4 := wf.s4
  have s5 := wf.s5
  have st := wf.tag
  unfold maxLen at s1 s2 s3 s4 s5
  obtain ⟨d1, d2⟩ := ltr_dash [.c, .x]
  have hps : partsStr m.id = ltr [.c, .x] := by unfold partsStr; rw [hp]
  have HP := Lib.hid hps
  have HPO := Lib.hid hp
  clear ht wf hb0 hat hps hp
  obtain ⟨mc, hmc⟩ : ∃ c, c = meC m a cap := ⟨_, rfl⟩
  rw [← hmc] at HB HT HAT c0 c1 c2 c3 c4 c5 c6 c7 c8 c9 c10 c11 ⊢
  clear hmc
  obtain ⟨h1, h2, h3, h4, h5, h6, h7, h8, h9, hm⟩ := hh
  go_enter Try.func25, Try.ntmps25
  go_wp2_with fail
  generalize w.alloc (.cells mc 25) = w1 at *
  refine (rparts_any m.id _).mono ?_
  rintro e w2 ⟨rfl, rfl⟩
  rw [HP.out]
  go_wp2_with fail
  refine (rmayTable_any _ HT.out).mono ?_
  rintro e w3 ⟨r, hr, rfl, hb⟩
  obtain rfl : r = true := hr.2 hm
  have hat := HAT.out.keep (hb.block _ HAT.out.lt)
  have HB2 := Lib.hid (HB.out.trans (hb.mono HB.out.size))
  clear hr hb c0 c1 c2 c3 c4 c5 c6 c7 c8 c9 c10 c11 d1 d2 hm HAT HB HT
  obtain ⟨⟨c0, c1, c2, c3, c4, c5⟩, c6, c7, c8, c9, c10, c11⟩ := hat.cells
  clear hat
  simp only [show decide (255 < (m.name.size : Int)) = false from decide_eq_false (by omega), show decide (255 < (m.typ.size : Int)) = false from decide_eq_false (by omega), show decide (255 < (m.ex.size : Int)) = false from decide_eq_false (by omega), show decide (255 < (m.key.size : Int)) = false from decide_eq_false (by omega), show decide (255 < (m.text.size : Int)) = false from decide_eq_false (by omega), show decide (m.code < 0) = false from decide_eq_false (by omega), show decide (65535 < m.code) = false from decide_eq_false (by omega), show decide (m.count < 0) = false from decide_eq_false (by omega), show decide (4294967295 < m.count) = false from decide_eq_false (by omega), Bool.or_self]
  clear h1 h2 h3 h4 h5 h6 h7 h8 h9
  go_wp2_with fail
  refine (rhas_any HPO.out .n _).mono ?_
  rintro e wx ⟨rfl, rfl⟩
  rw [show decide (Pt.n ∈ ([.c, .x] : List Pt)) = false from by decide]
  simp only []
  go_step
  dsimp only [List.append]
  by_cases hno : m.No .n
  case neg =>
    have HN := Lib.hid hno
    obtain ⟨hq, hq2⟩ := full_str (show ¬ m.name.size = 0 from fun h => hno (size_empty h))
    clear hno
    go_wp2_with fail
    go_ret
    exact ⟨false, ⟨(fun h => by cases h), fun h => (HN.out (h .n (by decide))).elim⟩, by first | rfl | (simp [*]; done), HB2.out⟩
  have Nn := Lib.hid hno
  obtain ⟨hq, hq2⟩ := empty_str (show m.name.size = 0 by rw [show m.name = ByteArray.empty from hno]; rfl)
  clear hno
  go_wp2_with fail
  refine (rhas_any HPO.out .y _).mono ?_
  rintro e wx ⟨rfl, rfl⟩
  rw [show decide (Pt.y ∈ ([.c, .x] : List Pt)) = false from by decide]
  by_cases hno : m.No .y
  case neg =>
    have HN := Lib.hid hno
    obtain ⟨hq, hq2⟩ := full_str (show ¬ m.typ.size = 0 from fun h => hno (size_empty h))
    clear hno
    go_wp2_with fail
    go_ret
    exact ⟨false, ⟨(fun h => by cases h), fun h => (HN.out (h .y (by decide))).elim⟩, by first | rfl | (simp [*]; done), HB2.out⟩
  have Ny := Lib.hid hno
  obtain ⟨hq, hq2⟩ := empty_str (show m.typ.size = 0 by rw [show m.typ = ByteArray.empty from hno]; rfl)
  clear hno
  go_wp2_with fail
  refine (rhas_any HPO.out .e _).mono ?_
  rintro e wx ⟨rfl, rfl⟩
  rw [show decide (Pt.e ∈ ([.c, .x] : List Pt)) = false from by decide]
  by_cases hno : m.No .e
  case neg =>
    have HN := Lib.hid hno
    obtain ⟨hq, hq2⟩ := full_str (show ¬ m.ex.size = 0 from fun h => hno (size_empty h))
    clear hno
    go_wp2_with fail
    go_ret
    exact ⟨false, ⟨(fun h => by cases h), fun h => (HN.out (h .e (by decide))).elim⟩, by first | rfl | (simp [*]; done), HB2.out⟩
  have Ne := Lib.hid hno
  obtain ⟨hq, hq2⟩ := empty_str (show m.ex.size = 0 by rw [show m.ex = ByteArray.empty from hno]; rfl)
  clear hno
  go_wp2_with fail
  refine (rhas_any HPO.out .k _).mono ?_
  rintro e wx ⟨rfl, rfl⟩
  rw [show decide (Pt.k ∈ ([.c, .x] : List Pt)) = false from by decide]
  by_cases hno : m.No .k
  case neg =>
    have HN := Lib.hid hno
    obtain ⟨hq, hq2⟩ := full_str (show ¬ m.key.size = 0 from fun h => hno (size_empty h))
    clear hno
    go_wp2_with fail
    go_ret
    exact ⟨false, ⟨(fun h => by cases h), fun h => (HN.out (h .k (by decide))).elim⟩, by first | rfl | (simp [*]; done), HB2.out⟩
  have Nk := Lib.hid hno
  obtain ⟨hq, hq2⟩ := empty_str (show m.key.size = 0 by rw [show m.key = ByteArray.empty from hno]; rfl)
  clear hno
  go_wp2_with fail
  refine (rhas_any HPO.out .x _).mono ?_
  rintro e wx ⟨rfl, rfl⟩
  rw [show decide (Pt.x ∈ ([.c, .x] : List Pt)) = true from by decide]
  go_wp2_with fail
  refine (rhas_any HPO.out .c _).mono ?_
  rintro e wx ⟨rfl, rfl⟩
  rw [show decide (Pt.c ∈ ([.c, .x] : List Pt)) = true from by decide]
  go_wp2_with fail
  refine (rhas_any HPO.out .u _).mono ?_
  rintro e wx ⟨rfl, rfl⟩
  rw [show decide (Pt.u ∈ ([.c, .x] : List Pt)) = false from by decide]
  by_cases hno : m.No .u
  case neg =>
    have HN := Lib.hid hno
    have hq : (m.count == 0) = false := beq_eq_false_iff_ne.2 hno
    clear hno
    go_wp2_with fail
    go_ret
    exact ⟨false, ⟨(fun h => by cases h), fun h => (HN.out (h .u (by decide))).elim⟩, by first | rfl | (simp [*]; done), HB2.out⟩
  have Nu := Lib.hid hno
  have hq : (m.count == 0) = true := beq_iff_eq.2 hno
  clear hno
  go_wp2_with fail
  refine (rhas_any HPO.out .t _).mono ?_
  rintro e wx ⟨rfl, rfl⟩
  rw [show decide (Pt.t ∈ ([.c, .x] : List Pt)) = false from by decide]
  by_cases hno : m.No .t
  case neg =>
    have HN := Lib.hid hno
    have hq : ((m.tag : Int) == 0) = false := by rw [beq_eq_false_iff_ne]; intro h; exact hno (show m.tag = 0 by omega)
    clear hno
    go_wp2_with fail
    go_ret
    exact ⟨false, ⟨(fun h => by cases h), fun h => (HN.out (h .t (by decide))).elim⟩, by first | rfl | (simp [*]; done), HB2.out⟩
  have Nt := Lib.hid hno
  have hq : ((m.tag : Int) == 0) = true := by rw [beq_iff_eq, show m.tag = 0 from hno]; rfl
  clear hno
  go_wp2_with fail
  refine (rhas_any HPO.out .f _).mono ?_
  rintro e wx ⟨rfl, rfl⟩
  rw [show decide (Pt.f ∈ ([.c, .x] : List Pt)) = false from by decide]
  by_cases hno : m.No .f
  case neg =>
    have HN := Lib.hid hno
    have hq : m.flag = true := by cases h : m.flag with | true => rfl | false => exact (hno h).elim
    clear hno
    go_wp2_with fail
    go_ret
    exact ⟨false, ⟨(fun h => by cases h), fun h => (HN.out (h .f (by decide))).elim⟩, by first | rfl | (simp [*]; done), HB2.out⟩
  have Nf := Lib.hid hno
  have hq : m.flag = false := hno
  clear hno
  go_wp2_with fail
  refine (rhas_any HPO.out .b _).mono ?_
  rintro e wx ⟨rfl, rfl⟩
  rw [show decide (Pt.b ∈ ([.c, .x] : List Pt)) = false from by decide]
  by_cases hno : m.No .b
  case neg =>
    have HN := Lib.hid hno
    have hq : m.back = true := by cases h : m.back with | true => rfl | false => exact (hno h).elim
    clear hno
    go_wp2_with fail
    go_ret
    exact ⟨false, ⟨(fun h => by cases h), fun h => (HN.out (h .b (by decide))).elim⟩, by first | rfl | (simp [*]; done), HB2.out⟩
  have Nb := Lib.hid hno
  have hq : m.back = false := hno
  clear hno
  go_wp2_with fail
  refine (rhas_any HPO.out .a _).mono ?_
  rintro e wx ⟨rfl, rfl⟩
  rw [show decide (Pt.a ∈ ([.c, .x] : List Pt)) = false from by decide]
  by_cases hno : m.No .a
  case neg =>
    have HN := Lib.hid hno
    have hq : ((m.args.length : Int) == 0) = false := by rw [beq_eq_false_iff_ne]; intro h; exact hno (show m.args = [] from List.eq_nil_of_length_eq_zero (by omega))
    clear hno
    go_wp2_with fail
    go_ret
    exact ⟨false, ⟨(fun h => by cases h), fun h => (HN.out (h .a (by decide))).elim⟩, by first | rfl | (simp [*]; done), HB2.out⟩
  have Na := Lib.hid hno
  have hq : ((m.args.length : Int) == 0) = true := by rw [beq_iff_eq, show m.args = [] from hno]; rfl
  clear hno
  go_wp2_with fail
  go_ret
  refine ⟨true, ⟨fun _ p hp => ?_, fun _ => rfl⟩, by first | rfl | (simp [*]; done), HB2.out⟩
  cases p
  case n => exact Nn.out
  case y => exact Ny.out
  case e => exact Ne.out
  case k => exact Nk.out
  case x => exact absurd (by decide) hp
  case c => exact absurd (by decide) hp
  case u => exact Nu.out
  case t => exact Nt.out
  case f => exact Nf.out
  case b => exact Nb.out
  case a => exact Na.out

end Go.Proofs.Ytjnnpgmgjdhfjaa

namespace Go.Proofs.Ytjnnpgmgjdhfjaa
open Go.RowKit
set_option linter.unusedVariables false

set_option maxRecDepth 100000 in
set_option maxHeartbeats 8000000 in
theorem rmayM_2 {w : World} {m : Me} {a : Option Addr} {cap : Nat} (ht : Tb w a cap m.args) (wf : m.Wf) (hp : partsOf m.id = some [.n, .y]) (hh : RHead m) :
    Calls Try.prog 25 #[.agg (meC m a cap)] w (SaysB (∀ p, p ∉ ([.n, .y] : List Pt) → m.No p) w) := by
  have hl := ht.len
  unfold maxLen at hl
  have hb0 : Below w.heap.size w (w.alloc (.cells (meC m a cap) 25)) := (Below.refl _ _).alloc (Nat.le_refl _) _
  have hat : MeAt (w.alloc (.cells (meC m a cap) 25)) w.heap.size m a cap := heap_alloc_new w _
  have HB := Lib.hid hb0
  have HT := Lib.hid (ht.below hb0)
  have HAT := Lib.hid hat
  obtain ⟨⟨c0, c1, c2, c3, c4, c5⟩, c6, c7, c8, c9, c10, c11⟩ := hat.cells
  have s1 := wf.s1
  have s2 := wf.s2
  have s3 := wf.s3
  have s4 := wf.s4
  have s5 := wf.s5
  have st := wf.tag
  unfold maxLen at s1 s2 s3 s4 s5
  obtain ⟨d1, d2⟩ := ltr_dash [.n, .y]
  have hps : partsStr m.id = ltr [.n, .y] := by unfold partsStr; rw [hp]
  have HP := Lib.hid hps
  have HPO := Lib.hid hp
  clear ht wf hb0 hat hps hp
  obtain ⟨mc, hmc⟩ : ∃ c, c = meC m a cap := ⟨_, rfl⟩
  rw [← hmc] at HB HT HAT c0 c1 c2 c3 c4 c5 c6 c7 c8 c9 c10 c11 ⊢
  clear hmc
  obtain ⟨h1, h2, h3, h4, h5, h6, h7, h8, h9, hm⟩ := hh
  go_enter Try.func25, Try.ntmps25
  go_wp2_with fail
  generalize w.alloc (.cells mc 25) = w1 at *
  refine (rparts_any m.id _).mono ?_
  rintro e w2 ⟨rfl, rfl⟩
  rw [HP.out]
  go_wp2_with fail
  refine (rmayTable_any _ HT.out).mono ?_
  rintro e w3 ⟨r, hr, rfl, hb⟩
  obtain rfl : r = true := hr.2 hm
  have hat := HAT.out.keep (hb.block _ HAT.out.lt)
  have HB2 := Lib.hid (HB.out.trans (hb.mono HB.out.size))
  clear hr hb c0 c1 c2 c3 c4 c5 c6 c7 c8 c9 c10 c11 d1 d2 hm HAT HB HT
  obtain ⟨⟨c0, c1, c2, c3, c4, c5⟩, c6, c7, c8, c9, c10, c11⟩ := hat.cells
  clear hat
  simp only [show decide (255 < (m.name.size : Int)) = false from decide_eq_false (by omega), show decide (255 < (m.typ.size : Int)) = false from decide_eq_false (by omega), show decide (255 < (m.ex.size : Int)) = false from decide_eq_false (by omega), show decide (255 < (m.key.size : Int)) = false from decide_eq_false (by omega), show decide (255 < (m.text.size : Int)) = false from decide_eq_false (by omega), show decide (m.code < 0) = false from decide_eq_false (by omega), show decide (65535 < m.code) = false from decide_eq_false (by omega), show decide (m.count < 0) = false from decide_eq_false (by omega), show decide (4294967295 < m.count) = false from decide_eq_false (by omega), Bool.or_self]
  clear h1 h2 h3 h4 h5 h6 h7 h8 h9
  go_wp2_with fail
  refine (rhas_any HPO.out .n _).mono ?_
  rintro e wx ⟨rfl, rfl⟩
  rw [show decide (Pt.n ∈ ([.n, .y] : List Pt)) = true from by decide]
  simp only []
  go_step
  dsimp only [List.append]
  go_wp2_with fail
  refine (rhas_any HPO.out .y _).mono ?_
  rintro e wx ⟨rfl, rfl⟩
  rw [show decide (Pt.y ∈ ([.n, .y] : List Pt)) = true from by decide]
  go_wp2_with fail
  refine (rhas_any HPO.out .e _).mono ?_
  rintro e wx ⟨rfl, rfl⟩
  rw [show decide (Pt.e ∈ ([.n, .y] : List Pt)) = false from by decide]
  by_cases hno : m.No .e
  case neg =>
    have HN := Lib.hid hno
    obtain ⟨hq, hq2⟩ := full_str (show ¬ m.ex.size = 0 from fun h => hno (size_empty h))
    clear hno
    go_wp2_with fail
    go_ret
    exact ⟨false, ⟨(fun h => by cases h), fun h => (HN.out (h .e (by decide))).elim⟩, by first | rfl | (simp [*]; done), HB2.out⟩
  have Ne := Lib.hid hno
  obtain ⟨hq, hq2⟩ := empty_str (show m.ex.size = 0 by rw [show m.ex = ByteArray.empty from hno]; rfl)
  clear hno
  go_wp2_with fail
  refine (rhas_any HPO.out .k _).mono ?_
  rintro e wx ⟨rfl, rfl⟩
  rw [show decide (Pt.k ∈ ([.n, .y] : List Pt)) = false from by decide]
  by_cases hno : m.No .k
  case neg =>
    have HN := Lib.hid hno
    obtain ⟨hq, hq2⟩ := full_str (show ¬ m.key.size = 0 from fun h => hno (size_empty h))
    clear hno
    go_wp2_with fail
    go_ret
    exact ⟨false, ⟨(fun h => by cases h), fun h => (HN.out (h .k (by decide))).elim⟩, by first | rfl | (simp [*]; done), HB2.out⟩
  have Nk := Lib.hid hno
  obtain ⟨hq, hq2⟩ := empty_str (show m.key.size = 0 by rw [show m.key = ByteArray.empty from hno]; rfl)
  clear hno
  go_wp2_with fail
  refine (rhas_any HPO.out .x _).mono ?_
  rintro e wx ⟨rfl, rfl⟩
  rw [show decide (Pt.x ∈ ([.n, .y] : List Pt)) = false from by decide]
  by_cases hno : m.No .x
  case neg =>
    have HN := Lib.hid hno
    obtain ⟨hq, hq2⟩ := full_str (show ¬ m.text.size = 0 from fun h => hno (size_empty h))
    clear hno
    go_wp2_with fail
    go_ret
    exact ⟨false, ⟨(fun h => by cases h), fun h => (HN.out (h .x (by decide))).elim⟩, by first | rfl | (simp [*]; done), HB2.out⟩
  have Nx := Lib.hid hno
  obtain ⟨hq, hq2⟩ := empty_str (show m.text.size = 0 by rw [show m.text = ByteArray.empty from hno]; rfl)
  clear hno
  go_wp2_with fail
  refine (rhas_any HPO.out .c _).mono ?_
  rintro e wx ⟨rfl, rfl⟩
  rw [show decide (Pt.c ∈ ([.n, .y] : List Pt)) = false from by decide]
  by_cases hno : m.No .c
  case neg =>
    have HN := Lib.hid hno
    have hq : (m.code == 0) = false := beq_eq_false_iff_ne.2 hno
    clear hno
    go_wp2_with fail
    go_ret
    exact ⟨false, ⟨(fun h => by cases h), fun h => (HN.out (h .c (by decide))).elim⟩, by first | rfl | (simp [*]; done), HB2.out⟩
  have Nc := Lib.hid hno
  have hq : (m.code == 0) = true := beq_iff_eq.2 hno
  clear hno
  go_wp2_with fail
  refine (rhas_any HPO.out .u _).mono ?_
  rintro e wx ⟨rfl, rfl⟩
  rw [show decide (Pt.u ∈ ([.n, .y] : List Pt)) = false from by decide]
  by_cases hno : m.No .u
  case neg =>
    have HN := Lib.hid hno
    have hq : (m.count == 0) = false := beq_eq_false_iff_ne.2 hno
    clear hno
    go_wp2_with fail
    go_ret
    exact ⟨false, ⟨(fun h => by cases h), fun h => (HN.out (h .u (by decide))).elim⟩, by first | rfl | (simp [*]; done), HB2.out⟩
  have Nu := Lib.hid hno
  have hq : (m.count == 0) = true := beq_iff_eq.2 hno
  clear hno
  go_wp2_with fail
  refine (rhas_any HPO.out .t _).mono ?_
  rintro e wx ⟨rfl, rfl⟩
  rw [show decide (Pt.t ∈ ([.n, .y] : List Pt)) = false from by decide]
  by_cases hno : m.No .t
  case neg =>
    have HN := Lib.hid hno
    have hq : ((m.tag : Int) == 0) = false := by rw [beq_eq_false_iff_ne]; intro h; exact hno (show m.tag = 0 by omega)
    clear hno
    go_wp2_with fail
    go_ret
    exact ⟨false, ⟨(fun h => by cases h), fun h => (HN.out (h .t (by decide))).elim⟩, by first | rfl | (simp [*]; done), HB2.out⟩
  have Nt := Lib.hid hno
  have hq : ((m.tag : Int) == 0) = true := by rw [beq_iff_eq, show m.tag = 0 from hno]; rfl
  clear hno
  go_wp2_with fail
  refine (rhas_any HPO.out .f _).mono ?_
  rintro e wx ⟨rfl, rfl⟩
  rw [show decide (Pt.f ∈ ([.n, .y] : List Pt)) = false from by decide]
  by_cases hno : m.No .f
  case neg =>
    have HN := Lib.hid hno
    have hq : m.flag = true := by cases h : m.flag with | true => rfl | false => exact (hno h).elim
    clear hno
    go_wp2_with fail
    go_ret
    exact ⟨false, ⟨(fun h => by cases h), fun h => (HN.out (h .f (by decide))).elim⟩, by first | rfl | (simp [*]; done), HB2.out⟩
  have Nf := Lib.hid hno
  have hq : m.flag = false := hno
  clear hno
  go_wp2_with fail
  refine (rhas_any HPO.out .b _).mono ?_
  rintro e wx ⟨rfl, rfl⟩
  rw [show decide (Pt.b ∈ ([.n, .y] : List Pt)) = false from by decide]
  by_cases hno : m.No .b
  case neg =>
    have HN := Lib.hid hno
    have hq : m.back = true := by cases h : m.back with | true => rfl | false => exact (hno h).elim
    clear hno
    go_wp2_with fail
    go_ret
    exact ⟨false, ⟨(fun h => by cases h), fun h => (HN.out (h .b (by decide))).elim⟩, by first | rfl | (simp [*]; done), HB2.out⟩
  have Nb := Lib.hid hno
  have hq : m.back = false := hno
  clear hno
  go_wp2_with fail
  refine (rhas_any HPO.out .a _).mono ?_
  rintro e wx ⟨rfl, rfl⟩
  rw [show decide (Pt.a ∈ ([.n, .y] : List Pt)) = false from by decide]
  by_cases hno : m.No .a
  case neg =>
    have HN := Lib.hid hno
    have hq : ((m.args.length : Int) == 0) = false := by rw [beq_eq_false_iff_ne]; intro h; exact hno (show m.args = [] from List.eq_nil_of_length_eq_zero (by omega))
    clear hno
    go_wp2_with fail
    go_ret
    exact ⟨false, ⟨(fun h => by cases h), fun h => (HN.out (h .a (by decide))).elim⟩, by first | rfl | (simp [*]; done), HB2.out⟩
  have Na := Lib.hid hno
  have hq : ((m.args.length : Int) == 0) = true := by rw [beq_iff_eq, show m.args = [] from hno]; rfl
  clear hno
  go_wp2_with fail
  go_ret
  refine ⟨true, ⟨fun _ p hp => ?_, fun _ => rfl⟩, by first | rfl | (simp [*]; done), HB2.out⟩
  cases p
  case n => exact absurd (by decide) hp
  case y => exact absurd (by decide) hp
  case e => exact Ne.out
  case k => exact Nk.out
  case x => exact Nx.out
  case c => exact Nc.out
  case u => exact Nu.out
  case t => exact Nt.out
  case f => exact Nf.out
  case b => exact Nb.out
  case a => exact Na.out

set_option maxRecDepth 100000 in
set_option maxHeartbeats 8000000 in
theorem rmayM_3 {w : World} {m : Me} {a : Option Addr} {cap : Nat} (ht : Tb w a cap m.args) (wf : m.Wf) (hp : partsOf m.id = some [.n]) (hh : RHead m) :
    Calls Try.prog 25 #[.agg (meC m a cap)] w (SaysB (∀ p, p ∉ ([.n] : List Pt) → m.No p) w) := by
  have hl := ht.len
  unfold maxLen at hl
  have hb0 : Below w.heap.size w (w.alloc (.cells (meC m a cap) 25)) := (Below.refl _ _).alloc (Nat.le_refl _) _
  have hat : MeAt (w.alloc (.cells (meC m a cap) 25)) w.heap.size m a cap := heap_alloc_new w _
  have HB := Lib.hid hb0
  have HT := Lib.hid (ht.below hb0)
  have HAT := Lib.hid hat
  obtain ⟨⟨c0, c1, c2, c3, c4, c5⟩, c6, c7, c8, c9, c10, c11⟩ := hat.cells
  have s1 := wf.s1
  have s2 := wf.s2
  have s3 := wf.s3
  have s4 := wf.s4
  have s5 := wf.s5
  have st := wf.tag
  unfold maxLen at s1 s2 s3 s4 s5
  obtain ⟨d1, d2⟩ := ltr_dash [.n]
  have hps : partsStr m.id = ltr [.n] := by unfold partsStr; rw [hp]
  have HP := Lib.hid hps
  have HPO := Lib.hid hp
  clear ht wf hb0 hat hps hp
  obtain ⟨mc, hmc⟩ : ∃ c, c = meC m a cap := ⟨_, rfl⟩
  rw [← hmc] at HB HT HAT c0 c1 c2 c3 c4 c5 c6 c7 c8 c9 c10 c11 ⊢
  clear hmc
  obtain ⟨h1, h2, h3, h4, h5, h6, h7, h8, h9, hm⟩ := hh
  go_enter Try.func25, Try.ntmps25
  go_wp2_with fail
  generalize w.alloc (.cells mc 25) = w1 at *
  refine (rparts_any m.id _).mono ?_
  rintro e w2 ⟨rfl, rfl⟩
  rw [HP.out]
  go_wp2_with fail
  refine (rmayTable_any _ HT.out).mono ?_
  rintro e w3 ⟨r, hr, rfl, hb⟩
  obtain rfl : r = true := hr.2 hm
  have hat := HAT.out.keep (hb.block _ HAT.out.lt)
  have HB2 := Lib.hid (HB.out.trans (hb.mono HB.out.size))
  clear hr hb c0 c1 c2 c3 c4 c5 c6 c7 c8 c9 c10 c11 d1 d2 hm HAT HB HT
  obtain ⟨⟨c0, c1, c2, c3, c4, c5⟩, c6, c7, c8, c9, c10, c11⟩ := hat.cells
  clear hat
  simp only [show decide (255 < (m.name.size : Int)) = false from decide_eq_false (by omega), show decide (255 < (m.typ.size : Int)) = false from decide_eq_false (by omega), show decide (255 < (m.ex.size : Int)) = false from decide_eq_false (by omega), show decide (255 < (m.key.size : Int)) = false from decide_eq_false (by omega), show decide (255 < (m.text.size : Int)) = false from decide_eq_false (by omega), show decide (m.code < 0) = false from decide_eq_false (by omega), show decide (65535 < m.code) = false from decide_eq_false (by omega), show decide (m.count < 0) = false from decide_eq_false (by omega), show decide (4294967295 < m.count) = false from decide_eq_false (by omega), Bool.or_self]
  clear h1 h2 h3 h4 h5 h6 h7 h8 h9
  go_wp2_with fail
  refine (rhas_any HPO.out .n _).mono ?_
  rintro e wx ⟨rfl, rfl⟩
  rw [show decide (Pt.n ∈ ([.n] : List Pt)) = true from by decide]
  simp only []
  go_step
  dsimp only [List.append]
  go_wp2_with fail
  refine (rhas_any HPO.out .y _).mono ?_
  rintro e wx ⟨rfl, rfl⟩
  rw [show decide (Pt.y ∈ ([.n] : List Pt)) = false from by decide]
  by_cases hno : m.No .y
  case neg =>
    have HN := Lib.hid hno
    obtain ⟨hq, hq2⟩ := full_str (show ¬ m.typ.size = 0 from fun h => hno (size_empty h))
    clear hno
    go_wp2_with fail
    go_ret
    exact ⟨false, ⟨(fun h => by cases h), fun h => (HN.out (h .y (by decide))).elim⟩, by first | rfl | (simp [*]; done), HB2.out⟩
  have Ny := Lib.hid hno
  obtain ⟨hq, hq2⟩ := empty_str (show m.typ.size = 0 by rw [show m.typ = ByteArray.empty from hno]; rfl)
  clear hno
  go_wp2_with fail
  refine (rhas_any HPO.out .e _).mono ?_
  rintro e wx ⟨rfl, rfl⟩
  rw [show decide (Pt.e ∈ ([.n] : List Pt)) = false from by decide]
  by_cases hno : m.No .e
  case neg =>
    have HN := Lib.hid hno
    obtain ⟨hq, hq2⟩ := full_str (show ¬ m.ex.size = 0 from fun h => hno (size_empty h))
    clear hno
    go_wp2_with fail
    go_ret
    exact ⟨false, ⟨(fun h => by cases h), fun h => (HN.out (h .e (by decide))).elim⟩, by first | rfl | (simp [*]; done), HB2.out⟩
  have Ne := Lib.hid hno
  obtain ⟨hq, hq2⟩ := empty_str (show m.ex.size = 0 by rw [show m.ex = ByteArray.empty from hno]; rfl)
  clear hno
  go_wp2_with fail
  refine (rhas_any HPO.out .k _).mono ?_
  rintro e wx ⟨rfl, rfl⟩
  rw [show decide (Pt.k ∈ ([.n] : List Pt)) = false from by decide]
  by_cases hno : m.No .k
  case neg =>
    have HN := Lib.hid hno
    obtain ⟨hq, hq2⟩ := full_str (show ¬ m.key.size = 0 from fun h => hno (size_empty h))
    clear hno
    go_wp2_with fail
    go_ret
    exact ⟨false, ⟨(fun h => by cases h), fun h => (HN.out (h .k (by decide))).elim⟩, by first | rfl | (simp [*]; done), HB2.out⟩
  have Nk := Lib.hid hno
  obtain ⟨hq, hq2⟩ := empty_str (show m.key.size = 0 by rw [show m.key = ByteArray.empty from hno]; rfl)
  clear hno
  go_wp2_with fail
  refine (rhas_any HPO.out .x _).mono ?_
  rintro e wx ⟨rfl, rfl⟩
  rw [show decide (Pt.x ∈ ([.n] : List Pt)) = false from by decide]
  by_cases hno : m.No .x
  case neg =>
    have HN := Lib.hid hno
    obtain ⟨hq, hq2⟩ := full_str (show ¬ m.text.size = 0 from fun h => hno (size_empty h))
    clear hno
    go_wp2_with fail
    go_ret
    exact ⟨false, ⟨(fun h => by cases h), fun h => (HN.out (h .x (by decide))).elim⟩, by first | rfl | (simp [*]; done), HB2.out⟩
  have Nx := Lib.hid hno
  obtain ⟨hq, hq2⟩ := empty_str (show m.text.size = 0 by rw [show m.text = ByteArray.empty from hno]; rfl)
  clear hno
  go_wp2_with fail
  refine (rhas_any HPO.out .c _).mono ?_
  rintro e wx ⟨rfl, rfl⟩
  rw [show decide (Pt.c ∈ ([.n] : List Pt)) = false from by decide]
  by_cases hno : m.No .c
  case neg =>
    have HN := Lib.hid hno
    have hq : (m.code == 0) = false := beq_eq_false_iff_ne.2 hno
    clear hno
    go_wp2_with fail
    go_ret
    exact ⟨false, ⟨(fun h => by cases h), fun h => (HN.out (h .c (by decide))).elim⟩, by first | rfl | (simp [*]; done), HB2.out⟩
  have Nc := Lib.hid hno
  have hq : (m.code == 0) = true := beq_iff_eq.2 hno
  clear hno
  go_wp2_with fail
  refine (rhas_any HPO.out .u _).mono ?_
  rintro e wx ⟨rfl, rfl⟩
  rw [show decide (Pt.u ∈ ([.n] : List Pt)) = false from by decide]
  by_cases hno : m.No .u
  case neg =>
    have HN := Lib.hid hno
    have hq : (m.count == 0) = false := beq_eq_false_iff_ne.2 hno
    clear hno
    go_wp2_with fail
    go_ret
    exact ⟨false, ⟨(fun h => by cases h), fun h => (HN.out (h .u (by decide))).elim⟩, by first | rfl | (simp [*]; done), HB2.out⟩
  have Nu := Lib.hid hno
  have hq : (m.count == 0) = true := beq_iff_eq.2 hno
  clear hno
  go_wp2_with fail
  refine (rhas_any HPO.out .t _).mono ?_
  rintro e wx ⟨rfl, rfl⟩
  rw [show decide (Pt.t ∈ ([.n] : List Pt)) = false from by decide]
  by_cases hno : m.No .t
  case neg =>
    have HN := Lib.hid hno
    have hq : ((m.tag : Int) == 0) = false := by rw [beq_eq_false_iff_ne]; intro h; exact hno (show m.tag = 0 by omega)
    clear hno
    go_wp2_with fail
    go_ret
    exact ⟨false, ⟨(fun h => by cases h), fun h => (HN.out (h .t (by decide))).elim⟩, by first | rfl | (simp [*]; done), HB2.out⟩
  have Nt := Lib.hid hno
  have hq : ((m.tag : Int) == 0) = true := by rw [beq_iff_eq, show m.tag = 0 from hno]; rfl
  clear hno
  go_wp2_with fail
  refine (rhas_any HPO.out .f _).mono ?_
  rintro e wx ⟨rfl, rfl⟩
  rw [show decide (Pt.f ∈ ([.n] : List Pt)) = false from by decide]
  by_cases hno : m.No .f
  case neg =>
    have HN := Lib.hid hno
    have hq : m.flag = true := by cases h : m.flag with | true => rfl | false => exact (hno h).elim
    clear hno
    go_wp2_with fail
    go_ret
    exact ⟨false, ⟨(fun h => by cases h), fun h => (HN.out (h .f (by decide))).elim⟩, by first | rfl | (simp [*]; done), HB2.out⟩
  have Nf := Lib.hid hno
  have hq : m.flag = false := hno
  clear hno
  go_wp2_with fail
  refine (rhas_any HPO.out .b _).mono ?_
  rintro e wx ⟨rfl, rfl⟩
  rw [show decide (Pt.b ∈ ([.n] : List Pt)) = false from by decide]
  by_cases hno : m.No .b
  case neg =>
    have HN := Lib.hid hno
    have hq : m.back = true := by cases h : m.back with | true => rfl | false => exact (hno h).elim
    clear hno
    go_wp2_with fail
    go_ret
    exact ⟨false, ⟨(fun h => by cases h), fun h => (HN.out (h .b (by decide))).elim⟩, by first | rfl | (simp [*]; done), HB2.out⟩
  have Nb := Lib.hid hno
  have hq : m.back = false := hno
  clear hno
  go_wp2_with fail
  refine (rhas_any HPO.out .a _).mono ?_
  rintro e wx ⟨rfl, rfl⟩
  rw [show decide (Pt.a ∈ ([.n] : List Pt)) = false from by decide]
  by_cases hno : m.No .a
  case neg =>
    have HN := Lib.hid hno
    have hq : ((m.args.length : Int) == 0) = false := by rw [beq_eq_false_iff_ne]; intro h; exact hno (show m.args = [] from List.eq_nil_of_length_eq_zero (by omega))
    clear hno
    go_wp2_with fail
    go_ret
    exact ⟨false, ⟨(fun h => by cases h), fun h => (HN.out (h .a (by decide))).elim⟩, by first | rfl | (simp [*]; done), HB2.out⟩
  have Na := Lib.hid hno
  have hq : ((m.args.length : Int) == 0) = true := by rw [beq_iff_eq, show m.args = [] from hno]; rfl
  clear hno
  go_wp2_with fail
  go_ret
  refine ⟨true, ⟨fun _ p hp => ?_, fun _ => rfl⟩, by first | rfl | (simp [*]; done), HB2.out⟩
  cases p
  case n => exact absurd (by decide) hp
  case y => exact Ny.out
  case e => exact Ne.out
  case k => exact Nk.out
  case x => exact Nx.out
  case c => exact Nc.out
  case u => exact Nu.out
  case t => exact Nt.out
  case f => exact Nf.out
  case b => exact Nb.out
  case a => exact Na.out

end Go.Proofs.Ytjnnpgmgjdhfjaa
