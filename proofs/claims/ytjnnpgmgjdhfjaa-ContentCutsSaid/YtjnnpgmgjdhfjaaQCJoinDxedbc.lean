/-
  The document's MayMethod, walked, its first test passed: method by method.
  The document's MayMethod, walked, its first test passed: method by method.
  The document's MayMethod, walked, its first test passed: method by method.
  The document's MayMethod: which calls may be.
  A join in memory; New, takeCall, takeHeader, take, Add, Done, walked.
-/
import Derived.Test.YtjnnpgmgjdhfjaaQRMayW1xcaab
import Derived.Test.YtjnnpgmgjdhfjaaQRMayW4xafbd
import Derived.Test.YtjnnpgmgjdhfjaaQCLeafxefbf
import Derived.Test.YtjnnpgmgjdhfjaaQMEndxdafb
import Derived.BigRegion
import Derived.Laws.Cells
namespace Go.Proofs.Ytjnnpgmgjdhfjaa
open Go.RowKit
set_option linter.unusedVariables false

set_option maxRecDepth 100000 in
set_option maxHeartbeats 8000000 in
theorem rmayM_10 {w : World} {m : Me} {a : Option Addr} {cap : Nat} (ht : Tb w a cap m.args) (wf : m.Wf) (hp : partsOf m.id = some [.c, .x, .e, .k]) (hh : RHead m) :
    Calls Try.prog 25 #[.agg (meC m a cap)] w (SaysB (∀ p, p ∉ ([.c, .x, .e, .k] : List Pt) → m.No p) w) := by
  have hl := ht.len
  unfold maxLen at hl
  have hb0 : Below w.heap.size w (w.alloc (.cells (meC m a cap) 25)) := (Below.refl _ _).alloc (Nat.le_refl _) _
  have hat : MeAt (w.alloc (.cells (meC m a cap) 25)) w.heap.size m a cap := heap_alloc_new w _
  have HB := Lib.hid hb0
  have HT := Lib.hid (ht.below hb0)
  have HAT := Lib.hid hat
  obtain ⟨⟨c0, c1, c2, c3, c4, c5⟩, c6, c7, c8, c9, c10, c11⟩ := hat.cells
  have s1 := wf.s1
  have s2 := wf.s2
  have s3 := wf.s3
  have s4 := wf.s4
  have s5 := wf.s5
  have st := wf.tag
  unfold maxLen at s1 s2 s3 s4 s5
  obtain ⟨d1, d2⟩ := ltr_dash [.c, .x, .e, .k]
  have hps : partsStr m.id = ltr [.c, .x, .e, .k] := by unfold partsStr; rw [hp]
  have HP := Lib.hid hps
  have HPO := Lib.hid hp
  clear ht wf hb0 hat hps hp
  obtain ⟨mc, hmc⟩ : ∃ c, c = meC m a cap := ⟨_, rfl⟩
  rw [← hmc] at HB HT HAT c0 c1 c2 c3 c4 c5 c6 c7 c8 c9 c10 c11 ⊢
  clear hmc
  obtain ⟨h1, h2, h3, h4, h5, h6, h7, h8, h9, hm⟩ := hh
  go_enter Try.func25, Try.ntmps25
  go_wp2_with fail
  generalize w.alloc (.cells mc 25) = w1 at *
  refine (rparts_any m.id _).mono ?_
  rintro e w2 ⟨rfl, rfl⟩
  rw [HP.out]
  go_wp2_with fail
  refine (rmayTable_any _ HT.out).mono ?_
  rintro e w3 ⟨r, hr, rfl, hb⟩
  obtain rfl : r = true := hr.2 hm
  have hat := HAT.out.keep (hb.block _ HAT.out.lt)
  have HB2 := Lib.hid (HB.out.trans (hb.mono HB.out.size))
  clear hr hb c0 c1 c2 c3 c4 c5 c6 c7 c8 c9 c10 c11 d1 d2 hm HAT HB HT
  obtain ⟨⟨c0, c1, c2, c3, c4, c5⟩, c6, c7, c8, c9, c10, c11⟩ := hat.cells
  clear hat
  simp only [show decide (255 < (m.name.size : Int)) = false from decide_eq_false (by omega), show decide (255 < (m.typ.size : Int)) = false from decide_eq_false (by omega), show decide (255 < (m.ex.size : Int)) = false from decide_eq_false (by omega), show decide (255 < (m.key.size : Int)) = false from decide_eq_false (by omega), show decide (255 < (m.text.size : Int)) = false from decide_eq_false (by omega), show decide (m.code < 0) = false from decide_eq_false (by omega), show decide (65535 < m.code) = false from decide_eq_false (by omega), show decide (m.count < 0) = false from decide_eq_false (by omega), show decide (4294967295 < m.count) = false from decide_eq_false (by omega), Bool.or_self]
  clear h1 h2 h3 h4 h5 h6 h7 h8 h9
  go_wp2_with fail
  refine (rhas_any HPO.out .n _).mono ?_
  rintro e wx ⟨rfl, rfl⟩
  rw [show decide (Pt.n ∈ ([.c, .x, .e, .k] : List Pt)) = false from by decide]
  simp only []
  go_step
  dsimp only [List.append]
  by_cases hno : m.No .n
  case neg =>
    have HN := Lib.hid hno
    obtain ⟨hq, hq2⟩ := full_str (show ¬ m.name.size = 0 from fun h => hno (size_empty h))
    clear hno
    go_wp2_with fail
    go_ret
    exact ⟨false, ⟨(fun h => by cases h), fun h => (HN.out (h .n (by decide))).elim⟩, by first | rfl | (simp [*]; done), HB2.out⟩
  have Nn := Lib.hid hno
  obtain ⟨hq, hq2⟩ := empty_str (show m.name.size = 0 by rw [show m.name = ByteArray.empty from hno]; rfl)
  clear hno
  go_wp2_with fail
  refine (rhas_any HPO.out .y _).mono ?_
  rintro e wx ⟨rfl, rfl⟩
  rw [show decide (Pt.y ∈ ([.c, .x, .e, .k] : List Pt)) = false from by decide]
  by_cases hno : m.No .y
  case neg =>
    have HN := Lib.hid hno
    obtain ⟨hq, hq2⟩ := full_str (show ¬ m.typ.size = 0 from fun h => hno (size_empty h))
    clear hno
    go_wp2_with fail
    go_ret
    exact ⟨false, ⟨(fun h => by cases h), fun h => (HN.out (h .y (by decide))).elim⟩, by first | rfl | (simp [*]; done), HB2.out⟩
  have Ny := Lib.hid hno
  obtain ⟨hq, hq2⟩ := empty_str (show m.typ.size = 0 by rw [show m.typ = ByteArray.empty from hno]; rfl)
  clear hno
  go_wp2_with fail
  refine (rhas_any HPO.out .e _).mono ?_
  rintro e wx ⟨rfl, rfl⟩
  rw [show decide (Pt.e ∈ ([.c, .x, .e, .k] : List Pt)) = true from by decide]
  go_wp2_with fail
  refine (rhas_any HPO.out .k _).mono ?_
  rintro e wx ⟨rfl, rfl⟩
  rw [show decide (Pt.k ∈ ([.c, .x, .e, .k] : List Pt)) = true from by decide]
  go_wp2_with fail
  refine (rhas_any HPO.out .x _).mono ?_
  rintro e wx ⟨rfl, rfl⟩
  rw [show decide (Pt.x ∈ ([.c, .x, .e, .k] : List Pt)) = true from by decide]
  go_wp2_with fail
  refine (rhas_any HPO.out .c _).mono ?_
  rintro e wx ⟨rfl, rfl⟩
  rw [show decide (Pt.c ∈ ([.c, .x, .e, .k] : List Pt)) = true from by decide]
  go_wp2_with fail
  refine (rhas_any HPO.out .u _).mono ?_
  rintro e wx ⟨rfl, rfl⟩
  rw [show decide (Pt.u ∈ ([.c, .x, .e, .k] : List Pt)) = false from by decide]
  by_cases hno : m.No .u
  case neg =>
    have HN := Lib.hid hno
    have hq : (m.count == 0) = false := beq_eq_false_iff_ne.2 hno
    clear hno
    go_wp2_with fail
    go_ret
    exact ⟨false, ⟨(fun h => by cases h), fun h => (HN.out (h .u (by decide))).elim⟩, by first | rfl | (simp [*]; done), HB2.out⟩
  have Nu := Lib.hid hno
  have hq : (m.count == 0) = true := beq_iff_eq.2 hno
  clear hno
  go_wp2_with fail
  refine (rhas_any HPO.out .t _).mono ?_
  rintro e wx ⟨rfl, rfl⟩
  rw [show decide (Pt.t ∈ ([.c, .x, .e, .k] : List Pt)) = false from by decide]
  by_cases hno : m.No .t
  case neg =>
    have HN := Lib.hid hno
    have hq : ((m.tag : Int) == 0) = false := by rw [beq_eq_false_iff_ne]; intro h; exact hno (show m.tag = 0 by omega)
    clear hno
    go_wp2_with fail
    go_ret
    exact ⟨false, ⟨(fun h => by cases h), fun h => (HN.out (h .t (by decide))).elim⟩, by first | rfl | (simp [*]; done), HB2.out⟩
  have Nt := Lib.hid hno
  have hq : ((m.tag : Int) == 0) = true := by rw [beq_iff_eq, show m.tag = 0 from hno]; rfl
  clear hno
  go_wp2_with fail
  refine (rhas_any HPO.out .f _).mono ?_
  rintro e wx ⟨rfl, rfl⟩
  rw [show decide (Pt.f ∈ ([.c, .x, .e, .k] : List Pt)) = false from by decide]
  by_cases hno : m.No .f
  case neg =>
    have HN := Lib.hid hno
    have hq : m.flag = true := by cases h : m.flag with | true => rfl | false => exact (hno h).elim
    clear hno
    go_wp2_with fail
    go_ret
    exact ⟨false, ⟨(fun h => by cases h), fun h => (HN.out (h .f (by decide))).elim⟩, by first | rfl | (simp [*]; done), HB2.out⟩
  have Nf := Lib.hid hno
  have hq : m.flag = false := hno
  clear hno
  go_wp2_with fail
  refine (rhas_any HPO.out .b _).mono ?_
  rintro e wx ⟨rfl, rfl⟩
  rw [show decide (Pt.b ∈ ([.c, .x, .e, .k] : List Pt)) = false from by decide]
  by_cases hno : m.No .b
  case neg =>
    have HN := Lib.hid hno
    have hq : m.back = true := by cases h : m.back with | true => rfl | false => exact (hno h).elim
    clear hno
    go_wp2_with fail
    go_ret
    exact ⟨false, ⟨(fun h => by cases h), fun h => (HN.out (h .b (by decide))).elim⟩, by first | rfl | (simp [*]; done), HB2.out⟩
  have Nb := Lib.hid hno
  have hq : m.back = false := hno
  clear hno
  go_wp2_with fail
  refine (rhas_any HPO.out .a _).mono ?_
  rintro e wx ⟨rfl, rfl⟩
  rw [show decide (Pt.a ∈ ([.c, .x, .e, .k] : List Pt)) = false from by decide]
  by_cases hno : m.No .a
  case neg =>
    have HN := Lib.hid hno
    have hq : ((m.args.length : Int) == 0) = false := by rw [beq_eq_false_iff_ne]; intro h; exact hno (show m.args = [] from List.eq_nil_of_length_eq_zero (by omega))
    clear hno
    go_wp2_with fail
    go_ret
    exact ⟨false, ⟨(fun h => by cases h), fun h => (HN.out (h .a (by decide))).elim⟩, by first | rfl | (simp [*]; done), HB2.out⟩
  have Na := Lib.hid hno
  have hq : ((m.args.length : Int) == 0) = true := by rw [beq_iff_eq, show m.args = [] from hno]; rfl
  clear hno
  go_wp2_with fail
  go_ret
  refine ⟨true, ⟨fun _ p hp => ?_, fun _ => rfl⟩, by first | rfl | (simp [*]; done), HB2.out⟩
  cases p
  case n => exact Nn.out
  case y => exact Ny.out
  case e => exact absurd (by decide) hp
  case k => exact absurd (by decide) hp
  case x => exact absurd (by decide) hp
  case c => exact absurd (by decide) hp
  case u => exact Nu.out
  case t => exact Nt.out
  case f => exact Nf.out
  case b => exact Nb.out
  case a => exact Na.out

set_option maxRecDepth 100000 in
set_option maxHeartbeats 8000000 in
theorem rmayM_11 {w : World} {m : Me} {a : Option Addr} {cap : Nat} (ht : Tb w a cap m.args) (wf : m.Wf) (hp : partsOf m.id = some [.x, .t, .f, .e, .k]) (hh : RHead m) :
    Calls Try.prog 25 #[.agg (meC m a cap)] w (SaysB (∀ p, p ∉ ([.x, .t, .f, .e, .k] : List Pt) → m.No p) w) := by
  have hl := ht.len
  unfold maxLen at hl
  have hb0 : Below w.heap.size w (w.alloc (.cells (meC m a cap) 25)) := (Below.refl _ _).alloc (Nat.le_refl _) _
  have hat : MeAt (w.alloc (.cells (meC m a cap) 25)) w.heap.size m a cap := heap_alloc_new w _
  have HB := Lib.hid hb0
  have HT := Lib.hid (ht.below hb0)
  have HAT := Lib.hid hat
  obtain ⟨⟨c0, c1, c2, c3, c4, c5⟩, c6, c7, c8, c9, c10, c11⟩ := hat.cells
  have s1 := wf.s1
  have s2 := wf.s2
  have s3 := wf.s3
  have s4 := wf.s4
  have s5 := wf.s5
  have st := wf.tag
  unfold maxLen at s1 s2 s3 s4 s5
  obtain ⟨d1, d2⟩ := ltr_dash [.x, .t, .f, .e, .k]
  have hps : partsStr m.id = ltr [.x, .t, .f, .e, .k] := by unfold partsStr; rw [hp]
  have HP := Lib.hid hps
  have HPO := Lib.hid hp
  clear ht wf hb0 hat hps hp
  obtain ⟨mc, hmc⟩ : ∃ c, c = meC m a cap := ⟨_, rfl⟩
  rw [← hmc] at HB HT HAT c0 c1 c2 c3 c4 c5 c6 c7 c8 c9 c10 c11 ⊢
  clear hmc
  obtain ⟨h1, h2, h3, h4, h5, h6, h7, h8, h9, hm⟩ := hh
  go_enter Try.func25, Try.ntmps25
  go_wp2_with fail
  generalize w.alloc (.cells mc 25) = w1 at *
  refine (rparts_any m.id _).mono ?_
  rintro e w2 ⟨rfl, rfl⟩
  rw [HP.out]
  go_wp2_with fail
  refine (rmayTable_any _ HT.out).mono ?_
  rintro e w3 ⟨r, hr, rfl, hb⟩
  obtain rfl : r = true := hr.2 hm
  have hat := HAT.out.keep (hb.block _ HAT.out.lt)
  have HB2 := Lib.hid (HB.out.trans (hb.mono HB.out.size))
  clear hr hb c0 c1 c2 c3 c4 c5 c6 c7 c8 c9 c10 c11 d1 d2 hm HAT HB HT
  obtain ⟨⟨c0, c1, c2, c3, c4, c5⟩, c6, c7, c8, c9, c10, c11⟩ := hat.cells
  clear hat
  simp only [show decide (255 < (m.name.size : Int)) = false from decide_eq_false (by omega), show decide (255 < (m.typ.size : Int)) = false from decide_eq_false (by omega), show decide (255 < (m.ex.size : Int)) = false from decide_eq_false (by omega), show decide (255 < (m.key.size : Int)) = false from decide_eq_false (by omega), show decide (255 < (m.text.size : Int)) = false from decide_eq_false (by omega), show decide (m.code < 0) = false from decide_eq_false (by omega), show decide (65535 < m.code) = false from decide_eq_false (by omega), show decide (m.count < 0) = false from decide_eq_false (by omega), show decide (4294967295 < m.count) = false from decide_eq_false (by omega), Bool.or_self]
  clear h1 h2 h3 h4 h5 h6 h7 h8 h9
  go_wp2_with fail
  refine (rhas_any HPO.out .n _).mono ?_
  rintro e wx ⟨rfl, rfl⟩
  rw [show decide (Pt.n ∈ ([.x, .t, .f, .e, .k] : List Pt)) = false from by decide]
  simp only []
  go_step
  dsimp only [List.append]
  by_cases hno : m.No .n
  case neg =>
    have HN := Lib.hid hno
    obtain ⟨hq, hq2⟩ := full_str (show ¬ m.name.size = 0 from fun h => hno (size_empty h))
    clear hno
    go_wp2_with fail
    go_ret
    exact ⟨false, ⟨(fun h => by cases h), fun h => (HN.out (h .n (by decide))).elim⟩, by first | rfl | (simp [*]; done), HB2.out⟩
  have Nn := Lib.hid hno
  obtain ⟨hq, hq2⟩ := empty_str (show m.name.size = 0 by rw [show m.name = ByteArray.empty from hno]; rfl)
  clear hno
  go_wp2_with fail
  refine (rhas_any HPO.out .y _).mono ?_
  rintro e wx ⟨rfl, rfl⟩
  rw [show decide (Pt.y ∈ ([.x, .t, .f, .e, .k] : List Pt)) = false from by decide]
  by_cases hno : m.No .y
  case neg =>
    have HN := Lib.hid hno
    obtain ⟨hq, hq2⟩ := full_str (show ¬ m.typ.size = 0 from fun h => hno (size_empty h))
    clear hno
    go_wp2_with fail
    go_ret
    exact ⟨false, ⟨(fun h => by cases h), fun h => (HN.out (h .y (by decide))).elim⟩, by first | rfl | (simp [*]; done), HB2.out⟩
  have Ny := Lib.hid hno
  obtain ⟨hq, hq2⟩ := empty_str (show m.typ.size = 0 by rw [show m.typ = ByteArray.empty from hno]; rfl)
  clear hno
  go_wp2_with fail
  refine (rhas_any HPO.out .e _).mono ?_
  rintro e wx ⟨rfl, rfl⟩
  rw [show decide (Pt.e ∈ ([.x, .t, .f, .e, .k] : List Pt)) = true from by decide]
  go_wp2_with fail
  refine (rhas_any HPO.out .k _).mono ?_
  rintro e wx ⟨rfl, rfl⟩
  rw [show decide (Pt.k ∈ ([.x, .t, .f, .e, .k] : List Pt)) = true from by decide]
  go_wp2_with fail
  refine (rhas_any HPO.out .x _).mono ?_
  rintro e wx ⟨rfl, rfl⟩
  rw [show decide (Pt.x ∈ ([.x, .t, .f, .e, .k] : List Pt)) = true from by decide]
  go_wp2_with fail
  refine (rhas_any HPO.out .c _).mono ?_
  rintro e wx ⟨rfl, rfl⟩
  rw [show decide (Pt.c ∈ ([.x, .t, .f, .e, .k] : List Pt)) = false from by decide]
  by_cases hno : m.No .c
  case neg =>
    have HN := Lib.hid hno
    have hq : (m.code == 0) = false := beq_eq_false_iff_ne.2 hno
    clear hno
    go_wp2_with fail
    go_ret
    exact ⟨false, ⟨(fun h => by cases h), fun h => (HN.out (h .c (by decide))).elim⟩, by first | rfl | (simp [*]; done), HB2.out⟩
  have Nc := Lib.hid hno
  have hq : (m.code == 0) = true := beq_iff_eq.2 hno
  clear hno
  go_wp2_with fail
  refine (rhas_any HPO.out .u _).mono ?_
  rintro e wx ⟨rfl, rfl⟩
  rw [show decide (Pt.u ∈ ([.x, .t, .f, .e, .k] : List Pt)) = false from by decide]
  by_cases hno : m.No .u
  case neg =>
    have HN := Lib.hid hno
    have hq : (m.count == 0) = false := beq_eq_false_iff_ne.2 hno
    clear hno
    go_wp2_with fail
    go_ret
    exact ⟨false, ⟨(fun h => by cases h), fun h => (HN.out (h .u (by decide))).elim⟩, by first | rfl | (simp [*]; done), HB2.out⟩
  have Nu := Lib.hid hno
  have hq : (m.count == 0) = true := beq_iff_eq.2 hno
  clear hno
  go_wp2_with fail
  refine (rhas_any HPO.out .t _).mono ?_
  rintro e wx ⟨rfl, rfl⟩
  rw [show decide (Pt.t ∈ ([.x, .t, .f, .e, .k] : List Pt)) = true from by decide]
  go_wp2_with fail
  refine (rhas_any HPO.out .f _).mono ?_
  rintro e wx ⟨rfl, rfl⟩
  rw [show decide (Pt.f ∈ ([.x, .t, .f, .e, .k] : List Pt)) = true from by decide]
  go_wp2_with fail
  refine (rhas_any HPO.out .b _).mono ?_
  rintro e wx ⟨rfl, rfl⟩
  rw [show decide (Pt.b ∈ ([.x, .t, .f, .e, .k] : List Pt)) = false from by decide]
  by_cases hno : m.No .b
  case neg =>
    have HN := Lib.hid hno
    have hq : m.back = true := by cases h : m.back with | true => rfl | false => exact (hno h).elim
    clear hno
    go_wp2_with fail
    go_ret
    exact ⟨false, ⟨(fun h => by cases h), fun h => (HN.out (h .b (by decide))).elim⟩, by first | rfl | (simp [*]; done), HB2.out⟩
  have Nb := Lib.hid hno
  have hq : m.back = false := hno
  clear hno
  go_wp2_with fail
  refine (rhas_any HPO.out .a _).mono ?_
  rintro e wx ⟨rfl, rfl⟩
  rw [show decide (Pt.a ∈ ([.x, .t, .f, .e, .k] : List Pt)) = false from by decide]
  by_cases hno : m.No .a
  case neg =>
    have HN := Lib.hid hno
    have hq : ((m.args.length : Int) == 0) = false := by rw [beq_eq_false_iff_ne]; intro h; exact hno (show m.args = [] from List.eq_nil_of_length_eq_zero (by omega))
    clear hno
    go_wp2_with fail
    go_ret
    exact ⟨false, ⟨(fun h => by cases h), fun h => (HN.out (h .a (by decide))).elim⟩, by first | rfl | (simp [*]; done), HB2.out⟩
  have Na := Lib.hid hno
  have hq : ((m.args.length : Int) == 0) = true := by rw [beq_iff_eq, show m.args = [] from hno]; rfl
  clear hno
  go_wp2_with fail
  go_ret
  refine ⟨true, ⟨fun _ p hp => ?_, fun _ => rfl⟩, by first | rfl | (simp [*]; done), HB2.out⟩
  cases p
  case n => exact Nn.out
  case y => exact Ny.out
  case e => exact absurd (by decide) hp
  case k => exact absurd (by decide) hp
  case x => exact absurd (by decide) hp
  case c => exact Nc.out
  case u => exact Nu.out
  case t => exact absurd (by decide) hp
  case f => exact absurd (by decide) hp
  case b => exact Nb.out
  case a => exact Na.out

end Go.Proofs.Ytjnnpgmgjdhfjaa

namespace Go.Proofs.Ytjnnpgmgjdhfjaa
open Go.RowKit
set_option linter.unusedVariables false

set_option maxRecDepth 100000 in
set_option maxHeartbeats 8000000 in
theorem rmayM_12 {w : World} {m : Me} {a : Option Addr} {cap : Nat} (ht : Tb w a cap m.args) (wf : m.Wf) (hp : partsOf m.id = some [.t, .f, .e, .k, .u]) (hh : RHead m) :
    Calls Try.prog 25 #[.agg (meC m a cap)] w (SaysB (∀ p, p ∉ ([.t, .f, .e, .k, .u] : List Pt) → m.No p) w) := by
  have hl := ht.len
  unfold maxLen at hl
  have hb0 : Below w.heap.size w (w.alloc (.cells (meC m a cap) 25)) := (Below.refl _ _).alloc (Nat.le_refl _) _
  have hat : MeAt (w.alloc (.cells (meC m a cap) 25)) w.heap.size m a cap := heap_alloc_new w _
  have HB := Lib.hid hb0
  have HT := Lib.hid (ht.below hb0)
  have HAT := Lib.hid hat
  obtain ⟨⟨c0, c1, c2, c3, c4, c5⟩, c6, c7, c8, c9, c10, c11⟩ := hat.cells
  have s1 := wf.s1
  have s2 := wf.s2
  have s3 := wf.s3
  have s4 := wf.s4
  have s5 := wf.s5
  have st := wf.tag
  unfold maxLen at s1 s2 s3 s4 s5
  obtain ⟨d1, d2⟩ := ltr_dash [.t, .f, .e, .k, .u]
  have hps : partsStr m.id = ltr [.t, .f, .e, .k, .u] := by unfold partsStr; rw [hp]
  have HP := Lib.hid hps
  have HPO := Lib.hid hp
  clear ht wf hb0 hat hps hp
  obtain ⟨mc, hmc⟩ : ∃ c, c = meC m a cap := ⟨_, rfl⟩
  rw [← hmc] at HB HT HAT c0 c1 c2 c3 c4 c5 c6 c7 c8 c9 c10 c11 ⊢
  clear hmc
  obtain ⟨h1, h2, h3, h4, h5, h6, h7, h8, h9, hm⟩ := hh
  go_enter Try.func25, Try.ntmps25
  go_wp2_with fail
  generalize w.alloc (.cells mc 25) = w1 at *
  refine (rparts_any m.id _).mono ?_
  rintro e w2 ⟨rfl, rfl⟩
  rw [HP.out]
  go_wp2_with fail
  refine (rmayTable_any _ HT.out).mono ?_
  rintro e w3 ⟨r, hr, rfl, hb⟩
  obtain rfl : r = true := hr.2 hm
  have hat := HAT.out.keep (hb.block _ HAT.out.lt)
  have HB2 := Lib.hid (HB.out.trans (hb.mono HB.out.size))
  clear hr hb c0 c1 c2 c3 c4 c5 c6 c7 c8 c9 c10 c11 d1 d2 hm HAT HB HT
  obtain ⟨⟨c0, c1, c2, c3, c4, c5⟩, c6, c7, c8, c9, c10, c11⟩ := hat.cells
  clear hat
  simp only [show decide (255 < (m.name.size : Int)) = false from decide_eq_false (by omega), show decide (255 < (m.typ.size : Int)) = false from decide_eq_false (by omega), show decide (255 < (m.ex.size : Int)) = false from decide_eq_false (by omega), show decide (255 < (m.key.size : Int)) = false from decide_eq_false (by omega), show decide (255 < (m.text.size : Int)) = false from decide_eq_false (by omega), show decide (m.code < 0) = false from decide_eq_false (by omega), show decide (65535 < m.code) = false from decide_eq_false (by omega), show decide (m.count < 0) = false from decide_eq_false (by omega), show decide (4294967295 < m.count) = false from decide_eq_false (by omega), Bool.or_self]
  clear h1 h2 h3 h4 h5 h6 h7 h8 h9
  go_wp2_with fail
  refine (rhas_any HPO.out .n _).mono ?_
  rintro e wx ⟨rfl, rfl⟩
  rw [show decide (Pt.n ∈ ([.t, .f, .e, .k, .u] : List Pt)) = false from by decide]
  simp only []
  go_step
  dsimp only [List.append]
  by_cases hno : m.No .n
  case neg =>
    have HN := Lib.hid hno
    obtain ⟨hq, hq2⟩ := full_str (show ¬ m.name.size = 0 from fun h => hno (size_empty h))
    clear hno
    go_wp2_with fail
    go_ret
    exact ⟨false, ⟨(fun h => by cases h), fun h => (HN.out (h .n (by decide))).elim⟩, by first | rfl | (simp [*]; done), HB2.out⟩
  have Nn := Lib.hid hno
  obtain ⟨hq, hq2⟩ := empty_str (show m.name.size = 0 by rw [show m.name = ByteArray.empty from hno]; rfl)
  clear hno
  go_wp2_with fail
  refine (rhas_any HPO.out .y _).mono ?_
  rintro e wx ⟨rfl, rfl⟩
  rw [show decide (Pt.y ∈ ([.t, .f, .e, .k, .u] : List Pt)) = false from by decide]
  by_cases hno : m.No .y
  case neg =>
    have HN := Lib.hid hno
    obtain ⟨hq, hq2⟩ := full_str (show ¬ m.typ.size = 0 from fun h => hno (size_empty h))
    clear hno
    go_wp2_with fail
    go_ret
    exact ⟨false, ⟨(fun h => by cases h), fun h => (HN.out (h .y (by decide))).elim⟩, by first | rfl | (simp [*]; done), HB2.out⟩
  have Ny := Lib.hid hno
  obtain ⟨hq, hq2⟩ := empty_str (show m.typ.size = 0 by rw [show m.typ = ByteArray.empty from hno]; rfl)
  clear hno
  go_wp2_with fail
  refine (rhas_any HPO.out .e _).mono ?_
  rintro e wx ⟨rfl, rfl⟩
  rw [show decide (Pt.e ∈ ([.t, .f, .e, .k, .u] : List Pt)) = true from by decide]
  go_wp2_with fail
  refine (rhas_any HPO.out .k _).mono ?_
  rintro e wx ⟨rfl, rfl⟩
  rw [show decide (Pt.k ∈ ([.t, .f, .e, .k, .u] : List Pt)) = true from by decide]
  go_wp2_with fail
  refine (rhas_any HPO.out .x _).mono ?_
  rintro e wx ⟨rfl, rfl⟩
  rw [show decide (Pt.x ∈ ([.t, .f, .e, .k, .u] : List Pt)) = false from by decide]
  by_cases hno : m.No .x
  case neg =>
    have HN := Lib.hid hno
    obtain ⟨hq, hq2⟩ := full_str (show ¬ m.text.size = 0 from fun h => hno (size_empty h))
    clear hno
    go_wp2_with fail
    go_ret
    exact ⟨false, ⟨(fun h => by cases h), fun h => (HN.out (h .x (by decide))).elim⟩, by first | rfl | (simp [*]; done), HB2.out⟩
  have Nx := Lib.hid hno
  obtain ⟨hq, hq2⟩ := empty_str (show m.text.size = 0 by rw [show m.text = ByteArray.empty from hno]; rfl)
  clear hno
  go_wp2_with fail
  refine (rhas_any HPO.out .c _).mono ?_
  rintro e wx ⟨rfl, rfl⟩
  rw [show decide (Pt.c ∈ ([.t, .f, .e, .k, .u] : List Pt)) = false from by decide]
  by_cases hno : m.No .c
  case neg =>
    have HN := Lib.hid hno
    have hq : (m.code == 0) = false := beq_eq_false_iff_ne.2 hno
    clear hno
    go_wp2_with fail
    go_ret
    exact ⟨false, ⟨(fun h => by cases h), fun h => (HN.out (h .c (by decide))).elim⟩, by first | rfl | (simp [*]; done), HB2.out⟩
  have Nc := Lib.hid hno
  have hq : (m.code == 0) = true := beq_iff_eq.2 hno
  clear hno
  go_wp2_with fail
  refine (rhas_any HPO.out .u _).mono ?_
  rintro e wx ⟨rfl, rfl⟩
  rw [show decide (Pt.u ∈ ([.t, .f, .e, .k, .u] : List Pt)) = true from by decide]
  go_wp2_with fail
  refine (rhas_any HPO.out .t _).mono ?_
  rintro e wx ⟨rfl, rfl⟩
  rw [show decide (Pt.t ∈ ([.t, .f, .e, .k, .u] : List Pt)) = true from by decide]
  go_wp2_with fail
  refine (rhas_any HPO.out .f _).mono ?_
  rintro e wx ⟨rfl, rfl⟩
  rw [show decide (Pt.f ∈ ([.t, .f, .e, .k, .u] : List Pt)) = true from by decide]
  go_wp2_with fail
  refine (rhas_any HPO.out .b _).mono ?_
  rintro e wx ⟨rfl, rfl⟩
  rw [show decide (Pt.b ∈ ([.t, .f, .e, .k, .u] : List Pt)) = false from by decide]
  by_cases hno : m.No .b
  case neg =>
    have HN := Lib.hid hno
    have hq : m.back = true := by cases h : m.back with | true => rfl | false => exact (hno h).elim
    clear hno
    go_wp2_with fail
    go_ret
    exact ⟨false, ⟨(fun h => by cases h), fun h => (HN.out (h .b (by decide))).elim⟩, by first | rfl | (simp [*]; done), HB2.out⟩
  have Nb := Lib.hid hno
  have hq : m.back = false := hno
  clear hno
  go_wp2_with fail
  refine (rhas_any HPO.out .a _).mono ?_
  rintro e wx ⟨rfl, rfl⟩
  rw [show decide (Pt.a ∈ ([.t, .f, .e, .k, .u] : List Pt)) = false from by decide]
  by_cases hno : m.No .a
  case neg =>
    have HN := Lib.hid hno
    have hq : ((m.args.length : Int) == 0) = false := by rw [beq_eq_false_iff_ne]; intro h; exact hno (show m.args = [] from List.eq_nil_of_length_eq_zero (by omega))
    clear hno
    go_wp2_with fail
    go_ret
    exact ⟨false, ⟨(fun h => by cases h), fun h => (HN.out (h .a (by decide))).elim⟩, by first | rfl | (simp [*]; done), HB2.out⟩
  have Na := Lib.hid hno
  have hq : ((m.args.length : Int) == 0) = true := by rw [beq_iff_eq, show m.args = [] from hno]; rfl
  clear hno
  go_wp2_with fail
  go_ret
  refine ⟨true, ⟨fun _ p hp => ?_, fun _ => rfl⟩, by first | rfl | (simp [*]; done), HB2.out⟩
  cases p
  case n => exact Nn.out
  case y => exact Ny.out
  case e => exact absurd (by decide) hp
  case k => exact absurd (by decide) hp
  case x => exact Nx.out
  case c => exact Nc.out
  case u => exact absurd (by decide) hp
  case t => exact absurd (by decide) hp
  case f => exact absurd (by decide) hp
  case b => exact Nb.out
  case a => exact Na.out

set_option maxRecDepth 100000 in
set_option maxHeartbeats 8000000 in
theorem rmayM_13 {w : World} {m : Me} {a : Option Addr} {cap : Nat} (ht : Tb w a cap m.args) (wf : m.Wf) (hp : partsOf m.id = some [.t, .f]) (hh : RHead m) :
    Calls Try.prog 25 #[.agg (meC m a cap)] w (SaysB (∀ p, p ∉ ([.t, .f] : List Pt) → m.No p) w) := by
  have hl := ht.len
  unfold maxLen at hl
  have hb0 : Below w.heap.size w (w.alloc (.cells (meC m a cap) 25)) := (Below.refl _ _).alloc (Nat.le_refl _) _
  have hat : MeAt (w.alloc (.cells (meC m a cap) 25)) w.heap.size m a cap := heap_alloc_new w _
  have HB := Lib.hid hb0
  have HT := Lib.hid (ht.below hb0)
  have HAT := Lib.hid hat
  obtain ⟨⟨c0, c1, c2, c3, c4, c5⟩, c6, c7, c8, c9, c10, c11⟩ := hat.cells
  have s1 := wf.s1
  have s2 := wf.s2
  have s3 := wf.s3
  have s4 := wf.s4
  have s5 := wf.s5
  have st := wf.tag
  unfold maxLen at s1 s2 s3 s4 s5
  obtain ⟨d1, d2⟩ := ltr_dash [.t, .f]
  have hps : partsStr m.id = ltr [.t, .f] := by unfold partsStr; rw [hp]
  have HP := Lib.hid hps
  have HPO := Lib.hid hp
  clear ht wf hb0 hat hps hp
  obtain ⟨mc, hmc⟩ : ∃ c, c = meC m a cap := ⟨_, rfl⟩
  rw [← hmc] at HB HT HAT c0 c1 c2 c3 c4 c5 c6 c7 c8 c9 c10 c11 ⊢
  clear hmc
  obtain ⟨h1, h2, h3, h4, h5, h6, h7, h8, h9, hm⟩ := hh
  go_enter Try.func25, Try.ntmps25
  go_wp2_with fail
  generalize w.alloc (.cells mc 25) = w1 at *
  refine (rparts_any m.id _).mono ?_
  rintro e w2 ⟨rfl, rfl⟩
  rw [HP.out]
  go_wp2_with fail
  refine (rmayTable_any _ HT.out).mono ?_
  rintro e w3 ⟨r, hr, rfl, hb⟩
  obtain rfl : r = true := hr.2 hm
  have hat := HAT.out.keep (hb.block _ HAT.out.lt)
  have HB2 := Lib.hid (HB.out.trans (hb.mono HB.out.size))
  clear hr hb c0 c1 c2 c3 c4 c5 c6 c7 c8 c9 c10 c11 d1 d2 hm HAT HB HT
  obtain ⟨⟨c0, c1, c2, c3, c4, c5⟩, c6, c7, c8, c9, c10, c11⟩ := hat.cells
  clear hat
  simp only [show decide (255 < (m.name.size : Int)) = false from decide_eq_false (by omega), show decide (255 < (m.typ.size : Int)) = false from decide_eq_false (by omega), show decide (255 < (m.ex.size : Int)) = false from decide_eq_false (by omega), show decide (255 < (m.key.size : Int)) = false from decide_eq_false (by omega), show decide (255 < (m.text.size : Int)) = false from decide_eq_false (by omega), show decide (m.code < 0) = false from decide_eq_false (by omega), show decide (65535 < m.code) = false from decide_eq_false (by omega), show decide (m.count < 0) = false from decide_eq_false (by omega), show decide (4294967295 < m.count) = false from decide_eq_false (by omega), Bool.or_self]
  clear h1 h2 h3 h4 h5 h6 h7 h8 h9
  go_wp2_with fail
  refine (rhas_any HPO.out .n _).mono ?_
  rintro e wx ⟨rfl, rfl⟩
  rw [show decide (Pt.n ∈ ([.t, .f] : List Pt)) = false from by decide]
  simp only []
  go_step
  dsimp only [List.append]
  by_cases hno : m.No .n
  case neg =>
    have HN := Lib.hid hno
    obtain ⟨hq, hq2⟩ := full_str (show ¬ m.name.size = 0 from fun h => hno (size_empty h))
    clear hno
    go_wp2_with fail
    go_ret
    exact ⟨false, ⟨(fun h => by cases h), fun h => (HN.out (h .n (by decide))).elim⟩, by first | rfl | (simp [*]; done), HB2.out⟩
  have Nn := Lib.hid hno
  obtain ⟨hq, hq2⟩ := empty_str (show m.name.size = 0 by rw [show m.name = ByteArray.empty from hno]; rfl)
  clear hno
  go_wp2_with fail
  refine (rhas_any HPO.out .y _).mono ?_
  rintro e wx ⟨rfl, rfl⟩
  rw [show decide (Pt.y ∈ ([.t, .f] : List Pt)) = false from by decide]
  by_cases hno : m.No .y
  case neg =>
    have HN := Lib.hid hno
    obtain ⟨hq, hq2⟩ := full_str (show ¬ m.typ.size = 0 from fun h => hno (size_empty h))
    clear hno
    go_wp2_with fail
    go_ret
    exact ⟨false, ⟨(fun h => by cases h), fun h => (HN.out (h .y (by decide))).elim⟩, by first | rfl | (simp [*]; done), HB2.out⟩
  have Ny := Lib.hid hno
  obtain ⟨hq, hq2⟩ := empty_str (show m.typ.size = 0 by rw [show m.typ = ByteArray.empty from hno]; rfl)
  clear hno
  go_wp2_with fail
  refine (rhas_any HPO.out .e _).mono ?_
  rintro e wx ⟨rfl, rfl⟩
  rw [show decide (Pt.e ∈ ([.t, .f] : List Pt)) = false from by decide]
  by_cases hno : m.No .e
  case neg =>
    have HN := Lib.hid hno
    obtain ⟨hq, hq2⟩ := full_str (show ¬ m.ex.size = 0 from fun h => hno (size_empty h))
    clear hno
    go_wp2_with fail
    go_ret
    exact ⟨false, ⟨(fun h => by cases h), fun h => (HN.out (h .e (by decide))).elim⟩, by first | rfl | (simp [*]; done), HB2.out⟩
  have Ne := Lib.hid hno
  obtain ⟨hq, hq2⟩ := empty_str (show m.ex.size = 0 by rw [show m.ex = ByteArray.empty from hno]; rfl)
  clear hno
  go_wp2_with fail
  refine (rhas_any HPO.out .k _).mono ?_
  rintro e wx ⟨rfl, rfl⟩
  rw [show decide (Pt.k ∈ ([.t, .f] : List Pt)) = false from by decide]
  by_cases hno : m.No .k
  case neg =>
    have HN := Lib.hid hno
    obtain ⟨hq, hq2⟩ := full_str (show ¬ m.key.size = 0 from fun h => hno (size_empty h))
    clear hno
    go_wp2_with fail
    go_ret
    exact ⟨false, ⟨(fun h => by cases h), fun h => (HN.out (h .k (by decide))).elim⟩, by first | rfl | (simp [*]; done), HB2.out⟩
  have Nk := Lib.hid hno
  obtain ⟨hq, hq2⟩ := empty_str (show m.key.size = 0 by rw [show m.key = ByteArray.empty from hno]; rfl)
  clear hno
  go_wp2_with fail
  refine (rhas_any HPO.out .x _).mono ?_
  rintro e wx ⟨rfl, rfl⟩
  rw [show decide (Pt.x ∈ ([.t, .f] : List Pt)) = false from by decide]
  by_cases hno : m.No .x
  case neg =>
    have HN := Lib.hid hno
    obtain ⟨hq, hq2⟩ := full_str (show ¬ m.text.size = 0 from fun h => hno (size_empty h))
    clear hno
    go_wp2_with fail
    go_ret
    exact ⟨false, ⟨(fun h => by cases h), fun h => (HN.out (h .x (by decide))).elim⟩, by first | rfl | (simp [*]; done), HB2.out⟩
  have Nx := Lib.hid hno
  obtain ⟨hq, hq2⟩ := empty_str (show m.text.size = 0 by rw [show m.text = ByteArray.empty from hno]; rfl)
  clear hno
  go_wp2_with fail
  refine (rhas_any HPO.out .c _).mono ?_
  rintro e wx ⟨rfl, rfl⟩
  rw [show decide (Pt.c ∈ ([.t, .f] : List Pt)) = false from by decide]
  by_cases hno : m.No .c
  case neg =>
    have HN := Lib.hid hno
    have hq : (m.code == 0) = false := beq_eq_false_iff_ne.2 hno
    clear hno
    go_wp2_with fail
    go_ret
    exact ⟨false, ⟨(fun h => by cases h), fun h => (HN.out (h .c (by decide))).elim⟩, by first | rfl | (simp [*]; done), HB2.out⟩
  have Nc := Lib.hid hno
  have hq : (m.code == 0) = true := beq_iff_eq.2 hno
  clear hno
  go_wp2_with fail
  refine (rhas_any HPO.out .u _).mono ?_
  rintro e wx ⟨rfl, rfl⟩
  rw [show decide (Pt.u ∈ ([.t, .f] : List Pt)) = false from by decide]
  by_cases hno : m.No .u
  case neg =>
    have HN := Lib.hid hno
    have hq : (m.count == 0) = false := beq_eq_false_iff_ne.2 hno
    clear hno
    go_wp2_with fail
    go_ret
    exact ⟨false, ⟨(fun h => by cases h), fun h => (HN.out (h .u (by decide))).elim⟩, by first | rfl | (simp [*]; done), HB2.out⟩
  have Nu := Lib.hid hno
  have hq : (m.count == 0) = true := beq_iff_eq.2 hno
  clear hno
  go_wp2_with fail
  refine (rhas_any HPO.out .t _).mono ?_
  rintro e wx ⟨rfl, rfl⟩
  rw [show decide (Pt.t ∈ ([.t, .f] : List Pt)) = true from by decide]
  go_wp2_with fail
  refine (rhas_any HPO.out .f _).mono ?_
  rintro e wx ⟨rfl, rfl⟩
  rw [show decide (Pt.f ∈ ([.t, .f] : List Pt)) = true from by decide]
  go_wp2_with fail
  refine (rhas_any HPO.out .b _).mono ?_
  rintro e wx ⟨rfl, rfl⟩
  rw [show decide (Pt.b ∈ ([.t, .f] : List Pt)) = false from by decide]
  by_cases hno : m.No .b
  case neg =>
    have HN := Lib.hid hno
    have hq : m.back = true := by cases h : m.back with | true => rfl | false => exact (hno h).elim
    clear hno
    go_wp2_with fail
    go_ret
    exact ⟨false, ⟨(fun h => by cases h), fun h => (HN.out (h .b (by decide))).elim⟩, by first | rfl | (simp [*]; done), HB2.out⟩
  have Nb := Lib.hid hno
  have hq : m.back = false := hno
  clear hno
  go_wp2_with fail
  refine (rhas_any HPO.out .a _).mono ?_
  rintro e wx ⟨rfl, rfl⟩
  rw [show decide (Pt.a ∈ ([.t, .f] : List Pt)) = false from by decide]
  by_cases hno : m.No .a
  case neg =>
    have HN := Lib.hid hno
    have hq : ((m.args.length : Int) == 0) = false := by rw [beq_eq_false_iff_ne]; intro h; exact hno (show m.args = [] from List.eq_nil_of_length_eq_zero (by omega))
    clear hno
    go_wp2_with fail
    go_ret
    exact ⟨false, ⟨(fun h => by cases h), fun h => (HN.out (h .a (by decide))).elim⟩, by first | rfl | (simp [*]; done), HB2.out⟩
  have Na := Lib.hid hno
  have hq : ((m.args.length : Int) == 0) = true := by rw [beq_iff_eq, show m.args = [] from hno]; rfl
  clear hno
  go_wp2_with fail
  go_ret
  refine ⟨true, ⟨fun _ p hp => ?_, fun _ => rfl⟩, by first | rfl | (simp [*]; done), HB2.out⟩
  cases p
  case n => exact Nn.out
  case y => exact Ny.out
  case e => exact Ne.out
  case k => exact Nk.out
  case x => exact Nx.out
  case c => exact Nc.out
  case u => exact Nu.out
  case t => exact absurd (by decide) hp
  case f => exact absurd (by decide) hp
  case b => exact Nb.out
  case a => exact Na.out

end Go.Proofs.Ytjnnpgmgjdhfjaa

namespace Go.Proofs.Ytjnnpgmgjdhfjaa
open Go.RowKit
set_option linter.unusedVariables false

set_option maxRecDepth 100000 in
set_option maxHeartbeats 8000000 in
theorem rmayM_14 {w : World} {m : Me} {a : Option Addr} {cap : Nat} (ht : Tb w a cap m.args) (wf : m.Wf) (hp : partsOf m.id = some [.t, .f, .b]) (hh : RHead m) :
    Calls Try.prog 25 #[.agg (meC m a cap)] w (SaysB (∀ p, p ∉ ([.t, .f, .b] : List Pt) → m.No p) w) := by
  have hl := ht.len
  unfold maxLen at hl
  have hb0 : Below w.heap.size w (w.alloc (.cells (meC m a cap) 25)) := (Below.refl _ _).alloc (Nat.le_refl _) _
  have hat : MeAt (w.alloc (.cells (meC m a cap) 25)) w.heap.size m a cap := heap_alloc_new w _
  have HB := Lib.hid hb0
  have HT := Lib.hid (ht.below hb0)
  have HAT := Lib.hid hat
  obtain ⟨⟨c0, c1, c2, c3, c4, c5⟩, c6, c7, c8, c9, c10, c11⟩ := hat.cells
  have s1 := wf.s1
  have s2 := wf.s2
  have s3 := wf.s3
  have s4 := wf.s4
  have s5 := wf.s5
  have st := wf.tag
  unfold maxLen at s1 s2 s3 s4 s5
  obtain ⟨d1, d2⟩ := ltr_dash [.t, .f, .b]
  have hps : partsStr m.id = ltr [.t, .f, .b] := by unfold partsStr; rw [hp]
  have HP := Lib.hid hps
  have HPO := Lib.hid hp
  clear ht wf hb0 hat hps hp
  obtain ⟨mc, hmc⟩ : ∃ c, c = meC m a cap := ⟨_, rfl⟩
  rw [← hmc] at HB HT HAT c0 c1 c2 c3 c4 c5 c6 c7 c8 c9 c10 c11 ⊢
  clear hmc
  obtain ⟨h1, h2, h3, h4, h5, h6, h7, h8, h9, hm⟩ := hh
  go_enter Try.func25, Try.ntmps25
  go_wp2_with fail
  generalize w.alloc (.cells mc 25) = w1 at *
  refine (rparts_any m.id _).mono ?_
  rintro e w2 ⟨rfl, rfl⟩
  rw [HP.out]
  go_wp2_with fail
  refine (rmayTable_any _ HT.out).mono ?_
  rintro e w3 ⟨r, hr, rfl, hb⟩
  obtain rfl : r = true := hr.2 hm
  have hat := HAT.out.keep (hb.block _ HAT.out.lt)
  have HB2 := Lib.hid (HB.out.trans (hb.mono HB.out.size))
  clear hr hb c0 c1 c2 c3 c4 c5 c6 c7 c8 c9 c10 c11 d1 d2 hm HAT HB HT
  obtain ⟨⟨c0, c1, c2, c3, c4, c5⟩, c6, c7, c8, c9, c10, c11⟩ := hat.cells
  clear hat
  simp only [show decide (255 < (m.name.size : Int)) = false from decide_eq_false (by omega), show decide (255 < (m.typ.size : Int)) = false from decide_eq_false (by omega), show decide (255 < (m.ex.size : Int)) = false from decide_eq_false (by omega), show decide (255 < (m.key.size : Int)) = false from decide_eq_false (by omega), show decide (255 < (m.text.size : Int)) = false from decide_eq_false (by omega), show decide (m.code < 0) = false from decide_eq_false (by omega), show decide (65535 < m.code) = false from decide_eq_false (by omega), show decide (m.count < 0) = false from decide_eq_false (by omega), show decide (4294967295 < m.count) = false from decide_eq_false (by omega), Bool.or_self]
  clear h1 h2 h3 h4 h5 h6 h7 h8 h9
  go_wp2_with fail
  refine (rhas_any HPO.out .n _).mono ?_
  rintro e wx ⟨rfl, rfl⟩
  rw [show decide (Pt.n ∈ ([.t, .f, .b] : List Pt)) = false from by decide]
  simp only []
  go_step
  dsimp only [List.append]
  by_cases hno : m.No .n
  case neg =>
    have HN := Lib.hid hno
    obtain ⟨hq, hq2⟩ := full_str (show ¬ m.name.size = 0 from fun h => hno (size_empty h))
    clear hno
    go_wp2_with fail
    go_ret
    exact ⟨false, ⟨(fun h => by cases h), fun h => (HN.out (h .n (by decide))).elim⟩, by first | rfl | (simp [*]; done), HB2.out⟩
  have Nn := Lib.hid hno
  obtain ⟨hq, hq2⟩ := empty_str (show m.name.size = 0 by rw [show m.name = ByteArray.empty from hno]; rfl)
  clear hno
  go_wp2_with fail
  refine (rhas_any HPO.out .y _).mono ?_
  rintro e wx ⟨rfl, rfl⟩
  rw [show decide (Pt.y ∈ ([.t, .f, .b] : List Pt)) = false from by decide]
  by_cases hno : m.No .y
  case neg =>
    have HN := Lib.hid hno
    obtain ⟨hq, hq2⟩ := full_str (show ¬ m.typ.size = 0 from fun h => hno (size_empty h))
    clear hno
    go_wp2_with fail
    go_ret
    exact ⟨false, ⟨(fun h => by cases h), fun h => (HN.out (h .y (by decide))).elim⟩, by first | rfl | (simp [*]; done), HB2.out⟩
  have Ny := Lib.hid hno
  obtain ⟨hq, hq2⟩ := empty_str (show m.typ.size = 0 by rw [show m.typ = ByteArray.empty from hno]; rfl)
  clear hno
  go_wp2_with fail
  refine (rhas_any HPO.out .e _).mono ?_
  rintro e wx ⟨rfl, rfl⟩
  rw [show decide (Pt.e ∈ ([.t, .f, .b] : List Pt)) = false from by decide]
  by_cases hno : m.No .e
  case neg =>
    have HN := Lib.hid hno
    obtain ⟨hq, hq2⟩ := full_str (show ¬ m.ex.size = 0 from fun h => hno (size_empty h))
    clear hno
    go_wp2_with fail
    go_ret
    exact ⟨false, ⟨(fun h => by cases h), fun h => (HN.out (h .e (by decide))).elim⟩, by first | rfl | (simp [*]; done), HB2.out⟩
  have Ne := Lib.hid hno
  obtain ⟨hq, hq2⟩ := empty_str (show m.ex.size = 0 by rw [show m.ex = ByteArray.empty from hno]; rfl)
  clear hno
  go_wp2_with fail
  refine (rhas_any HPO.out .k _).mono ?_
  rintro e wx ⟨rfl, rfl⟩
  rw [show decide (Pt.k ∈ ([.t, .f, .b] : List Pt)) = false from by decide]
  by_cases hno : m.No .k
  case neg =>
    have HN := Lib.hid hno
    obtain ⟨hq, hq2⟩ := full_str (show ¬ m.key.size = 0 from fun h => hno (size_empty h))
    clear hno
    go_wp2_with fail
    go_ret
    exact ⟨false, ⟨(fun h => by cases h), fun h => (HN.out (h .k (by decide))).elim⟩, by first | rfl | (simp [*]; done), HB2.out⟩
  have Nk := Lib.hid hno
  obtain ⟨hq, hq2⟩ := empty_str (show m.key.size = 0 by rw [show m.key = ByteArray.empty from hno]; rfl)
  clear hno
  go_wp2_with fail
  refine (rhas_any HPO.out .x _).mono ?_
  rintro e wx ⟨rfl, rfl⟩
  rw [show decide (Pt.x ∈ ([.t, .f, .b] : List Pt)) = false from by decide]
  by_cases hno : m.No .x
  case neg =>
    have HN := Lib.hid hno
    obtain ⟨hq, hq2⟩ := full_str (show ¬ m.text.size = 0 from fun h => hno (size_empty h))
    clear hno
    go_wp2_with fail
    go_ret
    exact ⟨false, ⟨(fun h => by cases h), fun h => (HN.out (h .x (by decide))).elim⟩, by first | rfl | (simp [*]; done), HB2.out⟩
  have Nx := Lib.hid hno
  obtain ⟨hq, hq2⟩ := empty_str (show m.text.size = 0 by rw [show m.text = ByteArray.empty from hno]; rfl)
  clear hno
  go_wp2_with fail
  refine (rhas_any HPO.out .c _).mono ?_
  rintro e wx ⟨rfl, rfl⟩
  rw [show decide (Pt.c ∈ ([.t, .f, .b] : List Pt)) = false from by decide]
  by_cases hno : m.No .c
  case neg =>
    have HN := Lib.hid hno
    have hq : (m.code == 0) = false := beq_eq_false_iff_ne.2 hno
    clear hno
    go_wp2_with fail
    go_ret
    exact ⟨false, ⟨(fun h => by cases h), fun h => (HN.out (h .c (by decide))).elim⟩, by first | rfl | (simp [*]; done), HB2.out⟩
  have Nc := Lib.hid hno
  have hq : (m.code == 0) = true := beq_iff_eq.2 hno
  clear hno
  go_wp2_with fail
  refine (rhas_any HPO.out .u _).mono ?_
  rintro e wx ⟨rfl, rfl⟩
  rw [show decide (Pt.u ∈ ([.t, .f, .b] : List Pt)) = false from by decide]
  by_cases hno : m.No .u
  case neg =>
    have HN := Lib.hid hno
    have hq : (m.count == 0) = false := beq_eq_false_iff_ne.2 hno
    clear hno
    go_wp2_with fail
    go_ret
    exact ⟨false, ⟨(fun h => by cases h), fun h => (HN.out (h .u (by decide))).elim⟩, by first | rfl | (simp [*]; done), HB2.out⟩
  have Nu := Lib.hid hno
  have hq : (m.count == 0) = true := beq_iff_eq.2 hno
  clear hno
  go_wp2_with fail
  refine (rhas_any HPO.out .t _).mono ?_
  rintro e wx ⟨rfl, rfl⟩
  rw [show decide (Pt.t ∈ ([.t, .f, .b] : List Pt)) = true from by decide]
  go_wp2_with fail
  refine (rhas_any HPO.out .f _).mono ?_
  rintro e wx ⟨rfl, rfl⟩
  rw [show decide (Pt.f ∈ ([.t, .f, .b] : List Pt)) = true from by decide]
  go_wp2_with fail
  refine (rhas_any HPO.out .b _).mono ?_
  rintro e wx ⟨rfl, rfl⟩
  rw [show decide (Pt.b ∈ ([.t, .f, .b] : List Pt)) = true from by decide]
  go_wp2_with fail
  refine (rhas_any HPO.out .a _).mono ?_
  rintro e wx ⟨rfl, rfl⟩
  rw [show decide (Pt.a ∈ ([.t, .f, .b] : List Pt)) = false from by decide]
  by_cases hno : m.No .a
  case neg =>
    have HN := Lib.hid hno
    have hq : ((m.args.length : Int) == 0) = false := by rw [beq_eq_false_iff_ne]; intro h; exact hno (show m.args = [] from List.eq_nil_of_length_eq_zero (by omega))
    clear hno
    go_wp2_with fail
    go_ret
    exact ⟨false, ⟨(fun h => by cases h), fun h => (HN.out (h .a (by decide))).elim⟩, by first | rfl | (simp [*]; done), HB2.out⟩
  have Na := Lib.hid hno
  have hq : ((m.args.length : Int) == 0) = true := by rw [beq_iff_eq, show m.args = [] from hno]; rfl
  clear hno
  go_wp2_with fail
  go_ret
  refine ⟨true, ⟨fun _ p hp => ?_, fun _ => rfl⟩, by first | rfl | (simp [*]; done), HB2.out⟩
  cases p
  case n => exact Nn.out
  case y => exact Ny.out
  case e => exact Ne.out
  case k => exact Nk.out
  case x => exact Nx.out
  case c => exact Nc.out
  case u => exact Nu.out
  case t => exact absurd (by decide) hp
  case f => exact absurd (by decide) hp
  case b => exact absurd (by decide) hp
  case a => exact Na.out

end Go.Proofs.Ytjnnpgmgjdhfjaa

namespace Go.Proofs.Ytjnnpgmgjdhfjaa
open Go.RowKit
set_option linter.unusedVariables false

def lists15 : List (List Pt) := [[], [.c, .x], [.n, .y], [.n], [.n, .u], [.n, .e, .k, .a], [.u], [.n, .x], [.x], [.e, .k, .f], [.c, .x, .e, .k], [.x, .t, .f, .e, .k], [.t, .f, .e, .k, .u], [.t, .f], [.t, .f, .b]]

theorem parts_among {id : Int} {l : List Pt} (h : partsOf id = some l) : l ∈ lists15 := by
  have hm : (id, l) ∈ partsTab := by
    unfold partsOf at h
    revert h
    generalize partsTab = tab
    induction tab with
    | nil => intro h; cases h
    | cons e r ih =>
      intro h
      obtain ⟨k, v⟩ := e
      rw [List.lookup_cons] at h
      split at h
      · rename_i he
        obtain rfl := Option.some.inj h
        obtain rfl : id = k := by simpa using he
        simp
      · exact List.mem_cons_of_mem _ (ih h)
  have hall : ∀ e ∈ partsTab, e.2 ∈ lists15 := by decide
  exact hall _ hm

theorem mayT_empty : MayT 1 [] := by
  refine ⟨by omega, by simp, ?_, ?_⟩
  · simp [Named]
  · simp [MayAll]

theorem head_may {m : Me} (wf : m.Wf) (h : RHead m) (p : Pt) : m.MayP p := by
  obtain ⟨h1, h2, h3, h4, h5, h6, h7, h8, h9, hm⟩ := h
  have ht := wf.tag
  cases p <;> simp only [Me.MayP] <;> first | exact hm | (unfold u64; omega) | omega

theorem may_head {m : Me} (wf : m.Wf) (h : ∀ p, m.MayP p ∨ m.No p) : RHead m := by
  have hz : (ByteArray.empty.size : Int) ≤ 255 := by decide
  have hc := wf.code
  have hu := wf.count
  refine ⟨?_, ?_, ?_, ?_, ?_, ?_, ?_, ?_, ?_, ?_⟩
  · rcases h .n with h | h <;> simp only [Me.MayP, Me.No] at h
    · omega
    · rw [h]; exact hz
  · rcases h .y with h | h <;> simp only [Me.MayP, Me.No] at h
    · omega
    · rw [h]; exact hz
  · rcases h .e with h | h <;> simp only [Me.MayP, Me.No] at h
    · omega
    · rw [h]; exact hz
  · rcases h .k with h | h <;> simp only [Me.MayP, Me.No] at h
    · omega
    · rw [h]; exact hz
  · rcases h .x with h | h <;> simp only [Me.MayP, Me.No] at h
    · omega
    · rw [h]; exact hz
  · rcases h .c with h | h <;> simp only [Me.MayP, Me.No] at h
    · unfold u64 at h; omega
    · omega
  · rcases h .c with h | h <;> simp only [Me.MayP, Me.No] at h
    · unfold u64 at h; omega
    · omega
  · rcases h .u with h | h <;> simp only [Me.MayP, Me.No] at h
    · unfold u64 at h; omega
    · omega
  · rcases h .u with h | h <;> simp only [Me.MayP, Me.No] at h
    · unfold u64 at h; omega
    · omega
  · rcases h .a with h | h <;> simp only [Me.MayP, Me.No] at h
    · exact h
    · rw [h]; exact mayT_empty

theorem may_l {m : Me} (wf : m.Wf) {l : List Pt} (hp : partsOf m.id = some l) (hh : RHead m) : MayM m ↔ ∀ p, p ∉ l → m.No p := by
  have hn := (partsOf_some hp).2.1
  constructor
  · rintro ⟨l', hl', h⟩
    rw [hp] at hl'
    obtain rfl := Option.some.inj hl'
    exact ((mayL_iff _ _ hn).1 h).2
  · intro h
    exact ⟨l, hp, (mayL_iff _ _ hn).2 ⟨fun p _ => head_may wf hh p, h⟩⟩

theorem rmayM_any {w : World} {m : Me} {a : Option Addr} {cap : Nat} (ht : Tb w a cap m.args) (wf : m.Wf) :
    Calls Try.prog 25 #[.agg (meC m a cap)] w (SaysB (MayM m) w) := by
  cases hp : partsOf m.id with
  | none =>
    refine (rmayM_none hp).mono ?_
    rintro e w' ⟨rfl, hb⟩
    exact ⟨false, ⟨(fun h => by cases h), fun ⟨l, hl, _⟩ => by rw [hp] at hl; cases hl⟩, rfl, hb⟩
  | some l =>
    by_cases hh : RHead m
    case neg =>
      refine (rmayM_neg ht wf hp hh).mono ?_
      rintro e w' ⟨rfl, hb⟩
      refine ⟨false, ⟨(fun h => by cases h), fun ⟨l', hl', h⟩ => (hh ?_).elim⟩, rfl, hb⟩
      rw [hp] at hl'
      obtain rfl := Option.some.inj hl'
      have h2 := (mayL_iff _ _ (partsOf_some hp).2.1).1 h
      refine may_head wf fun p => ?_
      by_cases hpl : p ∈ l
      · exact .inl (h2.1 p hpl)
      · exact .inr (h2.2 p hpl)
    have key : Calls Try.prog 25 #[.agg (meC m a cap)] w (SaysB (∀ p, p ∉ l → m.No p) w) := by
      have hl := parts_among hp
      unfold lists15 at hl
      simp only [List.mem_cons, List.not_mem_nil, or_false] at hl
      rcases hl with rfl | rfl | rfl | rfl | rfl | rfl | rfl | rfl | rfl | rfl | rfl | rfl | rfl | rfl | rfl
      · exact rmayM_0 ht wf hp hh
      · exact rmayM_1 ht wf hp hh
      · exact rmayM_2 ht wf hp hh
      · exact rmayM_3 ht wf hp hh
      · exact rmayM_4 ht wf hp hh
      · exact rmayM_5 ht wf hp hh
      · exact rmayM_6 ht wf hp hh
      · exact rmayM_7 ht wf hp hh
      · exact rmayM_8 ht wf hp hh
      · exact rmayM_9 ht wf hp hh
      · exact rmayM_10 ht wf hp hh
      · exact rmayM_11 ht wf hp hh
      · exact rmayM_12 ht wf hp hh
      · exact rmayM_13 ht wf hp hh
      · exact rmayM_14 ht wf hp hh
    refine key.mono ?_
    rintro e w' ⟨r, hr, he, hb⟩
    exact ⟨r, hr.trans (may_l wf hp hh).symm, he, hb⟩

end Go.Proofs.Ytjnnpgmgjdhfjaa

namespace Go.Proofs.Ytjnnpgmgjdhfjaa
open Go.RowKit
set_option linter.unusedVariables false
variable {B : Nat}

/-- other blocks than these are as they were. -/
structure Kept (bs : List Nat) (w w' : World) : Prop where
  os : w'.os = w.os
  tape : w'.tape = w.tape
  output : w'.output = w.output
  size : w.heap.size ≤ w'.heap.size
  block : ∀ k, k < w.heap.size → k ∉ bs → w'.heap[k]? = w.heap[k]?
theorem Kept.refl (bs : List Nat) (w : World) : Kept bs w w := ⟨rfl, rfl, rfl, Nat.le_refl _, fun _ _ _ => rfl⟩
theorem Kept.of_below {bs : List Nat} {w w' : World} (h : Below w.heap.size w w') : Kept bs w w' := ⟨h.os, h.tape, h.output, h.size, fun k hk _ => h.block k hk⟩
theorem Kept.trans {bs cs : List Nat} {a b c : World} (h : Kept bs a b) (k : Kept cs b c) (hc : ∀ x ∈ cs, x ∈ bs ∨ a.heap.size ≤ x) : Kept bs a c :=
  ⟨k.os.trans h.os, k.tape.trans h.tape, k.output.trans h.output, Nat.le_trans h.size k.size, fun i hi hn => (k.block i (Nat.lt_of_lt_of_le hi h.size) (fun hx => by rcases hc i hx with h1 | h1; exact hn h1; omega)).trans (h.block i hi hn)⟩
theorem Kept.below {bs : List Nat} {B : Nat} {w w' : World} (h : Kept bs w w') (hB : B ≤ w.heap.size) (hb : ∀ b ∈ bs, B ≤ b) : Below B w w' :=
  ⟨h.os, h.tape, h.output, h.size, fun k hk => h.block k (by omega) (fun hx => by have := hb k hx; omega)⟩
theorem Kept.grown {bs : List Nat} {a w w' : World} {row : Option Nat} (h : Kept bs a w) (hg : w.grownBy w' row) (hr : ∀ k, row = some k → k ∈ bs ∨ a.heap.size ≤ k) : Kept bs a w' :=
  ⟨hg.os.trans h.os, hg.tape.trans h.tape, hg.output.trans h.output, Nat.le_trans h.size hg.size, fun k hk hn => (hg.block k (Nat.lt_of_lt_of_le hk h.size) (fun e => by rcases hr k e.symm with h1 | h1; exact hn h1; omega)).trans (h.block k hk hn)⟩
theorem Kept.set {bs : List Nat} {a w : World} (h : Kept bs a w) {g : Nat} (hg : g ∈ bs) (i : Nat) (u : Value) : Kept bs a (w.setCell ⟨g, i, none⟩ u) := h.grown (set_grown w g i u) (fun k e => by cases e; exact .inl hg)
theorem Kept.alloc {bs : List Nat} {a w : World} (h : Kept bs a w) (o : Obj) : Kept bs a (w.alloc o) := h.grown (World.grownBy_alloc w o none) (fun k e => by cases e)

/-- what a join holds. -/
structure JS where
  st : Nat
  m : Me
  props : List UInt8
  body : List UInt8
  left : Nat
def JS.none : JS := ⟨0, Me.of 0, [], [], 0⟩
def jC (ch : Int) (J : JS) (ma : Option Addr) (mc : Nat) (pv bv : Value) : Array Value :=
  #[.int .i64 ch, .int .i64 J.st, .int .i64 J.m.id, .string J.m.name, .string J.m.typ, .string J.m.ex, .string J.m.key, .string J.m.text, .int .i64 J.m.code, .int .i64 J.m.count, .int .u64 J.m.tag, .bool J.m.flag, .bool J.m.back, .slice ma J.m.args.length mc, pv, bv, .int .i64 J.left]
/-- the join in block g; bs: its blocks. -/
structure JAt (w : World) (g : Nat) (ch : Int) (J : JS) (bs : List Nat) (ma : Option Addr) (mc : Nat) (pv bv : Value) : Prop where
  at_ : w.heap[g]? = some (.cells (jC ch J ma mc pv bv) 65 (0, 0))
  mem : g ∈ bs
  bnd : ∀ b ∈ bs, b < w.heap.size
  args : J.m.args = []
  cap : mc ≤ maxLen
  pbuf : Buf w 0 pv J.props
  bbuf : Buf w 0 bv J.body
  pown : ∀ k, pv.ownBlock = some k → k ∈ bs ∧ k ≠ g
  bown : ∀ k, bv.ownBlock = some k → k ∈ bs ∧ k ≠ g ∧ pv.ownBlock ≠ some k

theorem jat_cells {w : World} {g : Nat} {ch : Int} {J : JS} {ma : Option Addr} {mc : Nat} {pv bv : Value} (h : w.heap[g]? = some (.cells (jC ch J ma mc pv bv) 65 (0, 0))) :
    w.cell? ⟨g, 0, none⟩ = some (.int .i64 ch) ∧ w.cell? ⟨g, 1, none⟩ = some (.int .i64 J.st) ∧ w.cell? ⟨g, 2, none⟩ = some (.int .i64 J.m.id) ∧ w.cell? ⟨g, 3, none⟩ = some (.string J.m.name) ∧ w.cell? ⟨g, 4, none⟩ = some (.string J.m.typ) ∧ w.cell? ⟨g, 5, none⟩ = some (.string J.m.ex) ∧ w.cell? ⟨g, 6, none⟩ = some (.string J.m.key) ∧ w.cell? ⟨g, 7, none⟩ = some (.string J.m.text) ∧ w.cell? ⟨g, 8, none⟩ = some (.int .i64 J.m.code) ∧ w.cell? ⟨g, 9, none⟩ = some (.int .i64 J.m.count) ∧ w.cell? ⟨g, 10, none⟩ = some (.int .u64 J.m.tag) ∧ w.cell? ⟨g, 11, none⟩ = some (.bool J.m.flag) ∧ w.cell? ⟨g, 12, none⟩ = some (.bool J.m.back) ∧ w.cell? ⟨g, 13, none⟩ = some (.slice ma J.m.args.length mc) ∧ w.cell? ⟨g, 14, none⟩ = some (pv) ∧ w.cell? ⟨g, 15, none⟩ = some (bv) ∧ w.cell? ⟨g, 16, none⟩ = some (.int .i64 J.left) := by
  refine ⟨?_, ?_, ?_, ?_, ?_, ?_, ?_, ?_, ?_, ?_, ?_, ?_, ?_, ?_, ?_, ?_, ?_⟩ <;> (rw [cell_of_row w _ _ _ _ _ h]; rfl)
theorem jat_frozen {w : World} {g : Nat} {cs : Array Value} {t : TypeId} (h : w.heap[g]? = some (.cells cs t (0, 0))) (i : Nat) : w.frozen? ⟨g, i, none⟩ = false := by simp [World.frozen?, h]
theorem JAt.lt {w : World} {g : Nat} {ch : Int} {J : JS} {bs : List Nat} {ma : Option Addr} {mc : Nat} {pv bv : Value} (h : JAt w g ch J bs ma mc pv bv) : g < w.heap.size := (Array.getElem?_eq_some_iff.1 h.at_).1
theorem Buf.stay {w w' : World} {base : Nat} {v : Value} {l : List UInt8} (h : Buf w base v l) (hk : ∀ k, v.ownBlock = some k → w'.heap[k]? = w.heap[k]?) : Buf w' base v l := by
  refine ⟨h.1, ?_⟩
  rcases h.2 with h1 | ⟨g, cap, cur, rfl, hbg, hg, r⟩
  · exact .inl h1
  · exact .inr ⟨g, cap, cur, rfl, hbg, (hk g rfl).trans hg, r⟩
theorem JAt.keep {w w' : World} {g : Nat} {ch : Int} {J : JS} {bs : List Nat} {ma : Option Addr} {mc : Nat} {pv bv : Value} (h : JAt w g ch J bs ma mc pv bv) (hk : ∀ b ∈ bs, w'.heap[b]? = w.heap[b]?) (hz : w.heap.size ≤ w'.heap.size) : JAt w' g ch J bs ma mc pv bv :=
  ⟨(hk g h.mem).trans h.at_, h.mem, fun b hb => Nat.lt_of_lt_of_le (h.bnd b hb) hz, h.args, h.cap, h.pbuf.stay fun k e => hk k (h.pown k e).1, h.bbuf.stay fun k e => hk k (h.bown k e).1, h.pown, h.bown⟩
theorem JAt.below {w w' : World} {g : Nat} {ch : Int} {J : JS} {bs : List Nat} {ma : Option Addr} {mc : Nat} {pv bv : Value} (h : JAt w g ch J bs ma mc pv bv) (hb : Below w.heap.size w w') : JAt w' g ch J bs ma mc pv bv := h.keep (fun b hx => hb.block b (h.bnd b hx)) hb.size
theorem Buf.lt {w : World} {base : Nat} {v : Value} {l : List UInt8} (h : Buf w base v l) (k : Nat) (e : v.ownBlock = some k) : k < w.heap.size := (World.ownsRow.lt h k e).2

set_option maxRecDepth 100000 in
/-- all cells of a join's block are written. -/
theorem set17 {w : World} {g : Nat} {t : TypeId} {u0 u1 u2 u3 u4 u5 u6 u7 u8 u9 u10 u11 u12 u13 u14 u15 u16 : Value} (h : w.heap[g]? = some (.cells #[u0, u1, u2, u3, u4, u5, u6, u7, u8, u9, u10, u11, u12, u13, u14, u15, u16] t (0, 0))) (v0 v1 v2 v3 v4 v5 v6 v7 v8 v9 v10 v11 v12 v13 v14 v15 v16 : Value) :
    (((((((((((((((((w.setCell ⟨g, 0, none⟩ v0).setCell ⟨g, 1, none⟩ v1).setCell ⟨g, 2, none⟩ v2).setCell ⟨g, 3, none⟩ v3).setCell ⟨g, 4, none⟩ v4).setCell ⟨g, 5, none⟩ v5).setCell ⟨g, 6, none⟩ v6).setCell ⟨g, 7, none⟩ v7).setCell ⟨g, 8, none⟩ v8).setCell ⟨g, 9, none⟩ v9).setCell ⟨g, 10, none⟩ v10).setCell ⟨g, 11, none⟩ v11).setCell ⟨g, 12, none⟩ v12).setCell ⟨g, 13, none⟩ v13).setCell ⟨g, 14, none⟩ v14).setCell ⟨g, 15, none⟩ v15).setCell ⟨g, 16, none⟩ v16).heap[g]? = some (.cells #[v0, v1, v2, v3, v4, v5, v6, v7, v8, v9, v10, v11, v12, v13, v14, v15, v16] t (0, 0)) ∧ Kept [g] w (((((((((((((((((w.setCell ⟨g, 0, none⟩ v0).setCell ⟨g, 1, none⟩ v1).setCell ⟨g, 2, none⟩ v2).setCell ⟨g, 3, none⟩ v3).setCell ⟨g, 4, none⟩ v4).setCell ⟨g, 5, none⟩ v5).setCell ⟨g, 6, none⟩ v6).setCell ⟨g, 7, none⟩ v7).setCell ⟨g, 8, none⟩ v8).setCell ⟨g, 9, none⟩ v9).setCell ⟨g, 10, none⟩ v10).setCell ⟨g, 11, none⟩ v11).setCell ⟨g, 12, none⟩ v12).setCell ⟨g, 13, none⟩ v13).setCell ⟨g, 14, none⟩ v14).setCell ⟨g, 15, none⟩ v15).setCell ⟨g, 16, none⟩ v16) := by
  have hg : g ∈ [g] := by simp
  exact ⟨(set_heap (set_heap (set_heap (set_heap (set_heap (set_heap (set_heap (set_heap (set_heap (set_heap (set_heap (set_heap (set_heap (set_heap (set_heap (set_heap (set_heap h 0 v0) 1 v1) 2 v2) 3 v3) 4 v4) 5 v5) 6 v6) 7 v7) 8 v8) 9 v9) 10 v10) 11 v11) 12 v12) 13 v13) 14 v14) 15 v15) 16 v16).trans (by simp only [List.setIfInBounds_toArray, List.set_cons_zero, List.set_cons_succ]), ((((((((((((((((((Kept.refl [g] w).set hg 0 v0).set hg 1 v1).set hg 2 v2).set hg 3 v3).set hg 4 v4).set hg 5 v5).set hg 6 v6).set hg 7 v7).set hg 8 v8).set hg 9 v9).set hg 10 v10).set hg 11 v11).set hg 12 v12).set hg 13 v13).set hg 14 v14).set hg 15 v15).set hg 16 v16)⟩
theorem Kept.drew {bs : List Nat} {a w : World} (h : Kept bs a w) : Kept bs a w.drew := ⟨h.os, h.tape, h.output, h.size, h.block⟩

theorem new_any (ch : Int) (w : World) : Calls Try.prog 12 #[.int .i64 ch] w fun e w' => e = .returned (.pointer (some ⟨w.heap.size, 0, none⟩)) ∧ JAt w' w.heap.size ch JS.none [w.heap.size] none 0 (.slice none 0 0) (.slice none 0 0) ∧ Below w.heap.size w w' ∧ w'.heap.size = w.heap.size + 1 := by
  go_enter Try.func12, Try.ntmps12
  go_wp2_with fail
  go_ret
  refine ⟨rfl, ⟨heap_alloc_new w _, by simp, by simp, rfl, by decide, Buf.nil _ _, Buf.nil _ _, (fun k e => by cases e), (fun k e => by cases e)⟩, (Below.refl _ _).alloc (Nat.le_refl _) _, by simp⟩

end Go.Proofs.Ytjnnpgmgjdhfjaa
