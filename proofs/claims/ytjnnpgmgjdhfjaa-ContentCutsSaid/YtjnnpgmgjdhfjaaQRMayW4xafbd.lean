/-
  The document's MayMethod, walked, its first test passed: method by method.
  The document's MayMethod, walked, its first test passed: method by method.
  The document's MayMethod, walked, its first test passed: method by method.
-/
import Derived.Test.YtjnnpgmgjdhfjaaQRMayW1xcaab
namespace Go.Proofs.Ytjnnpgmgjdhfjaa
open Go.RowKit
set_option linter.unusedVariables false

set_option maxRecDepth 100000 in
set_option maxHeartbeats 8000000 in
theorem rmayM_4 {w : World} {m : Me} {a : Option Addr} {cap : Nat} (ht : Tb w a cap m.args) (wf : m.Wf) (hp : partsOf m.id = some [.n, .u]) (hh : RHead m) :
    Calls Try.prog 25 #[.agg (meC m a cap)] w (SaysB (∀ p, p ∉ ([.n, .u] : List Pt) → m.No p) w) := by
  have hl := ht.len
  unfold maxLen at hl
  have hb0 : Below w.heap.size w (w.alloc (.cells (meC m a cap) 25)) := (Below.refl _ _).alloc (Nat.le_refl _) _
  have hat : MeAt (w.alloc (.cells (meC m a cap) 25)) w.heap.size m a cap := heap_alloc_new w _
  have HB := Lib.hid hb0
  have HT := Lib.hid (ht.below hb0)
  have HAT := Lib.hid hat
  obtain ⟨⟨c0, c1, c2, c3, c4, c5⟩, c6, c7, c8, c9, c10, c11⟩ := hat.cells
  have s1 := wf.s1
  have s2 := wf.s2
  have s3 := wf.s3
  have s4 := wf.s4
  have s5 := wf.s5
  have st := wf.tag
  unfold maxLen at s1 s2 s3 s4 s5
  obtain ⟨d1, d2⟩ := ltr_dash [.n, .u]
  have hps : partsStr m.id = ltr [.n, .u] := by unfold partsStr; rw [hp]
  have HP := Lib.hid hps
  have HPO := Lib.hid hp
  clear ht wf hb0 hat hps hp
  obtain ⟨mc, hmc⟩ : ∃ c, c = meC m a cap := ⟨_, rfl⟩
  rw [← hmc] at HB HT HAT c0 c1 c2 c3 c4 c5 c6 c7 c8 c9 c10 c11 ⊢
  clear hmc
  obtain ⟨h1, h2, h3, h4, h5, h6, h7, h8, h9, hm⟩ := hh
  go_enter Try.func25, Try.ntmps25
  go_wp2_with fail
  generalize w.alloc (.cells mc 25) = w1 at *
  refine (rparts_any m.id _).mono ?_
  rintro e w2 ⟨rfl, rfl⟩
  rw [HP.out]
  go_wp2_with fail
  refine (rmayTable_any _ HT.out).mono ?_
  rintro e w3 ⟨r, hr, rfl, hb⟩
  obtain rfl : r = true := hr.2 hm
  have hat := HAT.out.keep (hb.block _ HAT.out.lt)
  have HB2 := Lib.hid (HB.out.trans (hb.mono HB.out.size))
  clear hr hb c0 c1 c2 c3 c4 c5 c6 c7 c8 c9 c10 c11 d1 d2 hm HAT HB HT
  obtain ⟨⟨c0, c1, c2, c3, c4, c5⟩, c6, c7, c8, c9, c10, c11⟩ := hat.cells
  clear hat
  simp only [show decide (255 < (m.name.size : Int)) = false from decide_eq_false (by omega), show decide (255 < (m.typ.size : Int)) = false from decide_eq_false (by omega), show decide (255 < (m.ex.size : Int)) = false from decide_eq_false (by omega), show decide (255 < (m.key.size : Int)) = false from decide_eq_false (by omega), show decide (255 < (m.text.size : Int)) = false from decide_eq_false (by omega), show decide (m.code < 0) = false from decide_eq_false (by omega), show decide (65535 < m.code) = false from decide_eq_false (by omega), show decide (m.count < 0) = false from decide_eq_false (by omega), show decide (4294967295 < m.count) = false from decide_eq_false (by omega), Bool.or_self]
  clear h1 h2 h3 h4 h5 h6 h7 h8 h9
  go_wp2_with fail
  refine (rhas_any HPO.out .n _).mono ?_
  rintro e wx ⟨rfl, rfl⟩
  rw [show decide (Pt.n ∈ ([.n, .u] : List Pt)) = true from by decide]
  simp only []
  go_step
  dsimp only [List.append]
  go_wp2_with fail
  refine (rhas_any HPO.out .y _).mono ?_
  rintro e wx ⟨rfl, rfl⟩
  rw [show decide (Pt.y ∈ ([.n, .u] : List Pt)) = false from by decide]
  by_cases hno : m.No .y
  case neg =>
    have HN := Lib.hid hno
    obtain ⟨hq, hq2⟩ := full_str (show ¬ m.typ.size = 0 from fun h => hno (size_empty h))
    clear hno
    go_wp2_with fail
    go_ret
    exact ⟨false, ⟨(fun h => by cases h), fun h => (HN.out (h .y (by decide))).elim⟩, by first | rfl | (simp [*]; done), HB2.out⟩
  have Ny := Lib.hid hno
  obtain ⟨hq, hq2⟩ := empty_str (show m.typ.size = 0 by rw [show m.typ = ByteArray.empty from hno]; rfl)
  clear hno
  go_wp2_with fail
  refine (rhas_any HPO.out .e _).mono ?_
  rintro e wx ⟨rfl, rfl⟩
  rw [show decide (Pt.e ∈ ([.n, .u] : List Pt)) = false from by decide]
  by_cases hno : m.No .e
  case neg =>
    have HN := Lib.hid hno
    obtain ⟨hq, hq2⟩ := full_str (show ¬ m.ex.size = 0 from fun h => hno (size_empty h))
    clear hno
    go_wp2_with fail
    go_ret
    exact ⟨false, ⟨(fun h => by cases h), fun h => (HN.out (h .e (by decide))).elim⟩, by first | rfl | (simp [*]; done), HB2.out⟩
  have Ne := Lib.hid hno
  obtain ⟨hq, hq2⟩ := empty_str (show m.ex.size = 0 by rw [show m.ex = ByteArray.empty from hno]; rfl)
  clear hno
  go_wp2_with fail
  refine (rhas_any HPO.out .k _).mono ?_
  rintro e wx ⟨rfl, rfl⟩
  rw [show decide (Pt.k ∈ ([.n, .u] : List Pt)) = false from by decide]
  by_cases hno : m.No .k
  case neg =>
    have HN := Lib.hid hno
    obtain ⟨hq, hq2⟩ := full_str (show ¬ m.key.size = 0 from fun h => hno (size_empty h))
    clear hno
    go_wp2_with fail
    go_ret
    exact ⟨false, ⟨(fun h => by cases h), fun h => (HN.out (h .k (by decide))).elim⟩, by first | rfl | (simp [*]; done), HB2.out⟩
  have Nk := Lib.hid hno
  obtain ⟨hq, hq2⟩ := empty_str (show m.key.size = 0 by rw [show m.key = ByteArray.empty from hno]; rfl)
  clear hno
  go_wp2_with fail
  refine (rhas_any HPO.out .x _).mono ?_
  rintro e wx ⟨rfl, rfl⟩
  rw [show decide (Pt.x ∈ ([.n, .u] : List Pt)) = false from by decide]
  by_cases hno : m.No .x
  case neg =>
    have HN := Lib.hid hno
    obtain ⟨hq, hq2⟩ := full_str (show ¬ m.text.size = 0 from fun h => hno (size_empty h))
    clear hno
    go_wp2_with fail
    go_ret
    exact ⟨false, ⟨(fun h => by cases h), fun h => (HN.out (h .x (by decide))).elim⟩, by first | rfl | (simp [*]; done), HB2.out⟩
  have Nx := Lib.hid hno
  obtain ⟨hq, hq2⟩ := empty_str (show m.text.size = 0 by rw [show m.text = ByteArray.empty from hno]; rfl)
  clear hno
  go_wp2_with fail
  refine (rhas_any HPO.out .c _).mono ?_
  rintro e wx ⟨rfl, rfl⟩
  rw [show decide (Pt.c ∈ ([.n, .u] : List Pt)) = false from by decide]
  by_cases hno : m.No .c
  case neg =>
    have HN := Lib.hid hno
    have hq : (m.code == 0) = false := beq_eq_false_iff_ne.2 hno
    clear hno
    go_wp2_with fail
    go_ret
    exact ⟨false, ⟨(fun h => by cases h), fun h => (HN.out (h .c (by decide))).elim⟩, by first | rfl | (simp [*]; done), HB2.out⟩
  have Nc := Lib.hid hno
  have hq : (m.code == 0) = true := beq_iff_eq.2 hno
  clear hno
  go_wp2_with fail
  refine (rhas_any HPO.out .u _).mono ?_
  rintro e wx ⟨rfl, rfl⟩
  rw [show decide (Pt.u ∈ ([.n, .u] : List Pt)) = true from by decide]
  go_wp2_with fail
  refine (rhas_any HPO.out .t _).mono ?_
  rintro e wx ⟨rfl, rfl⟩
  rw [show decide (Pt.t ∈ ([.n, .u] : List Pt)) = false from by decide]
  by_cases hno : m.No .t
  case neg =>
    have HN := Lib.hid hno
    have hq : ((m.tag : Int) == 0) = false := by rw [beq_eq_false_iff_ne]; intro h; exact hno (show m.tag = 0 by omega)
    clear hno
    go_wp2_with fail
    go_ret
    exact ⟨false, ⟨(fun h => by cases h), fun h => (HN.out (h .t (by decide))).elim⟩, by first | rfl | (simp [*]; done), HB2.out⟩
  have Nt := Lib.hid hno
  have hq : ((m.tag : Int) == 0) = true := by rw [beq_iff_eq, show m.tag = 0 from hno]; rfl
  clear hno
  go_wp2_with fail
  refine (rhas_any HPO.out .f _).mono ?_
  rintro e wx ⟨rfl, rfl⟩
  rw [show decide (Pt.f ∈ ([.n, .u] : List Pt)) = false from by decide]
  by_cases hno : m.No .f
  case neg =>
    have HN := Lib.hid hno
    have hq : m.flag = true := by cases h : m.flag with | true => rfl | false => exact (hno h).elim
    clear hno
    go_wp2_with fail
    go_ret
    exact ⟨false, ⟨(fun h => by cases h), fun h => (HN.out (h .f (by decide))).elim⟩, by first | rfl | (simp [*]; done), HB2.out⟩
  have Nf := Lib.hid hno
  have hq : m.flag = false := hno
  clear hno
  go_wp2_with fail
  refine (rhas_any HPO.out .b _).mono ?_
  rintro e wx ⟨rfl, rfl⟩
  rw [show decide (Pt.b ∈ ([.n, .u] : List Pt)) = false from by decide]
  by_cases hno : m.No .b
  case neg =>
    have HN := Lib.hid hno
    have hq : m.back = true := by cases h : m.back with | true => rfl | false => exact (hno h).elim
    clear hno
    go_wp2_with fail
    go_ret
    exact ⟨false, ⟨(fun h => by cases h), fun h => (HN.out (h .b (by decide))).elim⟩, by first | rfl | (simp [*]; done), HB2.out⟩
  have Nb := Lib.hid hno
  have hq : m.back = false := hno
  clear hno
  go_wp2_with fail
  refine (rhas_any HPO.out .a _).mono ?_
  rintro e wx ⟨rfl, rfl⟩
  rw [show decide (Pt.a ∈ ([.n, .u] : List Pt)) = false from by decide]
  by_cases hno : m.No .a
  case neg =>
    have HN := Lib.hid hno
    have hq : ((m.args.length : Int) == 0) = false := by rw [beq_eq_false_iff_ne]; intro h; exact hno (show m.args = [] from List.eq_nil_of_length_eq_zero (by omega))
    clear hno
    go_wp2_with fail
    go_ret
    exact ⟨false, ⟨(fun h => by cases h), fun h => (HN.out (h .a (by decide))).elim⟩, by first | rfl | (simp [*]; done), HB2.out⟩
  have Na := Lib.hid hno
  have hq : ((m.args.length : Int) == 0) = true := by rw [beq_iff_eq, show m.args = [] from hno]; rfl
  clear hno
  go_wp2_with fail
  go_ret
  refine ⟨true, ⟨fun _ p hp => ?_, fun _ => rfl⟩, by first | rfl | (simp [*]; done), HB2.out⟩
  cases p
  case n => exact absurd (by decide) hp
  case y => exact Ny.out
  case e => exact Ne.out
  case k => exact Nk.out
  case x => exact Nx.out
  case c => exact Nc.out
  case u => exact absurd (by decide) hp
  case t => exact Nt.out
  case f => exact Nf.out
  case b => exact Nb.out
  case a => exact Na.out

set_option maxRecDepth 100000 in
set_option maxHeartbeats 8000000 in
theorem rmayM_5 {w : World} {m : Me} {a : Option Addr} {cap : Nat} (ht : Tb w a cap m.args) (wf : m.Wf) (hp : partsOf m.id = some [.n, .e, .k, .a]) (hh : RHead m) :
    Calls Try.prog 25 #[.agg (meC m a cap)] w (SaysB (∀ p, p ∉ ([.n, .e, .k, .a] : List Pt) → m.No p) w) := by
  have hl := ht.len
  unfold maxLen at hl
  have hb0 : Below w.heap.size w (w.alloc (.cells (meC m a cap) 25)) := (Below.refl _ _).alloc (Nat.le_refl _) _
  have hat : MeAt (w.alloc (.cells (meC m a cap) 25)) w.heap.size m a cap := heap_alloc_new w _
  have HB := Lib.hid hb0
  have HT := Lib.hid (ht.below hb0)
  have HAT := Lib.hid hat
  obtain ⟨⟨c0, c1, c2, c3, c4, c5⟩, c6, c7, c8, c9, c10, c11⟩ := hat.cells
  have s1 := wf.s1
  have s2 := wf.s2
  have s3 := wf.s3
  have s4 := wf.s4
  have s5 := wf.s5
  have st := wf.tag
  unfold maxLen at s1 s2 s3 s4 s5
  obtain ⟨d1, d2⟩ := ltr_dash [.n, .e, .k, .a]
  have hps : partsStr m.id = ltr [.n, .e, .k, .a] := by unfold partsStr; rw [hp]
  have HP := Lib.hid hps
  have HPO := Lib.hid hp
  clear ht wf hb0 hat hps hp
  obtain ⟨mc, hmc⟩ : ∃ c, c = meC m a cap := ⟨_, rfl⟩
  rw [← hmc] at HB HT HAT c0 c1 c2 c3 c4 c5 c6 c7 c8 c9 c10 c11 ⊢
  clear hmc
  obtain ⟨h1, h2, h3, h4, h5, h6, h7, h8, h9, hm⟩ := hh
  go_enter Try.func25, Try.ntmps25
  go_wp2_with fail
  generalize w.alloc (.cells mc 25) = w1 at *
  refine (rparts_any m.id _).mono ?_
  rintro e w2 ⟨rfl, rfl⟩
  rw [HP.out]
  go_wp2_with fail
  refine (rmayTable_any _ HT.out).mono ?_
  rintro e w3 ⟨r, hr, rfl, hb⟩
  obtain rfl : r = true := hr.2 hm
  have hat := HAT.out.keep (hb.block _ HAT.out.lt)
  have HB2 := Lib.hid (HB.out.trans (hb.mono HB.out.size))
  clear hr hb c0 c1 c2 c3 c4 c5 c6 c7 c8 c9 c10 c11 d1 d2 hm HAT HB HT
  obtain ⟨⟨c0, c1, c2, c3, c4, c5⟩, c6, c7, c8, c9, c10, c11⟩ := hat.cells
  clear hat
  simp only [show decide (255 < (m.name.size : Int)) = false from decide_eq_false (by omega), show decide (255 < (m.typ.size : Int)) = false from decide_eq_false (by omega), show decide (255 < (m.ex.size : Int)) = false from decide_eq_false (by omega), show decide (255 < (m.key.size : Int)) = false from decide_eq_false (by omega), show decide (255 < (m.text.size : Int)) = false from decide_eq_false (by omega), show decide (m.code < 0) = false from decide_eq_false (by omega), show decide (65535 < m.code) = false from decide_eq_false (by omega), show decide (m.count < 0) = false from decide_eq_false (by omega), show decide (4294967295 < m.count) = false from decide_eq_false (by omega), Bool.or_self]
  clear h1 h2 h3 h4 h5 h6 h7 h8 h9
  go_wp2_with fail
  refine (rhas_any HPO.out .n _).mono ?_
  rintro e wx ⟨rfl, rfl⟩
  rw [show decide (Pt.n ∈ ([.n, .e, .k, .a] : List Pt)) = true from by decide]
  simp only []
  go_step
  dsimp only [List.append]
  go_wp2_with fail
  refine (rhas_any HPO.out .y _).mono ?_
  rintro e wx ⟨rfl, rfl⟩
  rw [show decide (Pt.y ∈ ([.n, .e, .k, .a] : List Pt)) = false from by decide]
  by_cases hno : m.No .y
  case neg =>
    have HN := Lib.hid hno
    obtain ⟨hq, hq2⟩ := full_str (show ¬ m.typ.size = 0 from fun h => hno (size_empty h))
    clear hno
    go_wp2_with fail
    go_ret
    exact ⟨false, ⟨(fun h => by cases h), fun h => (HN.out (h .y (by decide))).elim⟩, by first | rfl | (simp [*]; done), HB2.out⟩
  have Ny := Lib.hid hno
  obtain ⟨hq, hq2⟩ := empty_str (show m.typ.size = 0 by rw [show m.typ = ByteArray.empty from hno]; rfl)
  clear hno
  go_wp2_with fail
  refine (rhas_any HPO.out .e _).mono ?_
  rintro e wx ⟨rfl, rfl⟩
  rw [show decide (Pt.e ∈ ([.n, .e, .k, .a] : List Pt)) = true from by decide]
  go_wp2_with fail
  refine (rhas_any HPO.out .k _).mono ?_
  rintro e wx ⟨rfl, rfl⟩
  rw [show decide (Pt.k ∈ ([.n, .e, .k, .a] : List Pt)) = true from by decide]
  go_wp2_with fail
  refine (rhas_any HPO.out .x _).mono ?_
  rintro e wx ⟨rfl, rfl⟩
  rw [show decide (Pt.x ∈ ([.n, .e, .k, .a] : List Pt)) = false from by decide]
  by_cases hno : m.No .x
  case neg =>
    have HN := Lib.hid hno
    obtain ⟨hq, hq2⟩ := full_str (show ¬ m.text.size = 0 from fun h => hno (size_empty h))
    clear hno
    go_wp2_with fail
    go_ret
    exact ⟨false, ⟨(fun h => by cases h), fun h => (HN.out (h .x (by decide))).elim⟩, by first | rfl | (simp [*]; done), HB2.out⟩
  have Nx := Lib.hid hno
  obtain ⟨hq, hq2⟩ := empty_str (show m.text.size = 0 by rw [show m.text = ByteArray.empty from hno]; rfl)
  clear hno
  go_wp2_with fail
  refine (rhas_any HPO.out .c _).mono ?_
  rintro e wx ⟨rfl, rfl⟩
  rw [show decide (Pt.c ∈ ([.n, .e, .k, .a] : List Pt)) = false from by decide]
  by_cases hno : m.No .c
  case neg =>
    have HN := Lib.hid hno
    have hq : (m.code == 0) = false := beq_eq_false_iff_ne.2 hno
    clear hno
    go_wp2_with fail
    go_ret
    exact ⟨false, ⟨(fun h => by cases h), fun h => (HN.out (h .c (by decide))).elim⟩, by first | rfl | (simp [*]; done), HB2.out⟩
  have Nc := Lib.hid hno
  have hq : (m.code == 0) = true := beq_iff_eq.2 hno
  clear hno
  go_wp2_with fail
  refine (rhas_any HPO.out .u _).mono ?_
  rintro e wx ⟨rfl, rfl⟩
  rw [show decide (Pt.u ∈ ([.n, .e, .k, .a] : List Pt)) = false from by decide]
  by_cases hno : m.No .u
  case neg =>
    have HN := Lib.hid hno
    have hq : (m.count == 0) = false := beq_eq_false_iff_ne.2 hno
    clear hno
    go_wp2_with fail
    go_ret
    exact ⟨false, ⟨(fun h => by cases h), fun h => (HN.out (h .u (by decide))).elim⟩, by first | rfl | (simp [*]; done), HB2.out⟩
  have Nu := Lib.hid hno
  have hq : (m.count == 0) = true := beq_iff_eq.2 hno
  clear hno
  go_wp2_with fail
  refine (rhas_any HPO.out .t _).mono ?_
  rintro e wx ⟨rfl, rfl⟩
  rw [show decide (Pt.t ∈ ([.n, .e, .k, .a] : List Pt)) = false from by decide]
  by_cases hno : m.No .t
  case neg =>
    have HN := Lib.hid hno
    have hq : ((m.tag : Int) == 0) = false := by rw [beq_eq_false_iff_ne]; intro h; exact hno (show m.tag = 0 by omega)
    clear hno
    go_wp2_with fail
    go_ret
    exact ⟨false, ⟨(fun h => by cases h), fun h => (HN.out (h .t (by decide))).elim⟩, by first | rfl | (simp [*]; done), HB2.out⟩
  have Nt := Lib.hid hno
  have hq : ((m.tag : Int) == 0) = true := by rw [beq_iff_eq, show m.tag = 0 from hno]; rfl
  clear hno
  go_wp2_with fail
  refine (rhas_any HPO.out .f _).mono ?_
  rintro e wx ⟨rfl, rfl⟩
  rw [show decide (Pt.f ∈ ([.n, .e, .k, .a] : List Pt)) = false from by decide]
  by_cases hno : m.No .f
  case neg =>
    have HN := Lib.hid hno
    have hq : m.flag = true := by cases h : m.flag with | true => rfl | false => exact (hno h).elim
    clear hno
    go_wp2_with fail
    go_ret
    exact ⟨false, ⟨(fun h => by cases h), fun h => (HN.out (h .f (by decide))).elim⟩, by first | rfl | (simp [*]; done), HB2.out⟩
  have Nf := Lib.hid hno
  have hq : m.flag = false := hno
  clear hno
  go_wp2_with fail
  refine (rhas_any HPO.out .b _).mono ?_
  rintro e wx ⟨rfl, rfl⟩
  rw [show decide (Pt.b ∈ ([.n, .e, .k, .a] : List Pt)) = false from by decide]
  by_cases hno : m.No .b
  case neg =>
    have HN := Lib.hid hno
    have hq : m.back = true := by cases h : m.back with | true => rfl | false => exact (hno h).elim
    clear hno
    go_wp2_with fail
    go_ret
    exact ⟨false, ⟨(fun h => by cases h), fun h => (HN.out (h .b (by decide))).elim⟩, by first | rfl | (simp [*]; done), HB2.out⟩
  have Nb := Lib.hid hno
  have hq : m.back = false := hno
  clear hno
  go_wp2_with fail
  refine (rhas_any HPO.out .a _).mono ?_
  rintro e wx ⟨rfl, rfl⟩
  rw [show decide (Pt.a ∈ ([.n, .e, .k, .a] : List Pt)) = true from by decide]
  go_wp2_with fail
  go_ret
  refine ⟨true, ⟨fun _ p hp => ?_, fun _ => rfl⟩, by first | rfl | (simp [*]; done), HB2.out⟩
  cases p
  case n => exact absurd (by decide) hp
  case y => exact Ny.out
  case e => exact absurd (by decide) hp
  case k => exact absurd (by decide) hp
  case x => exact Nx.out
  case c => exact Nc.out
  case u => exact Nu.out
  case t => exact Nt.out
  case f => exact Nf.out
  case b => exact Nb.out
  case a => exact absurd (by decide) hp

end Go.Proofs.Ytjnnpgmgjdhfjaa

namespace Go.Proofs.Ytjnnpgmgjdhfjaa
open Go.RowKit
set_option linter.unusedVariables false

set_option maxRecDepth 100000 in
set_option maxHeartbeats 8000000 in
theorem rmayM_6 {w : World} {m : Me} {a : Option Addr} {cap : Nat} (ht : Tb w a cap m.args) (wf : m.Wf) (hp : partsOf m.id = some [.u]) (hh : RHead m) :
    Calls Try.prog 25 #[.agg (meC m a cap)] w (SaysB (∀ p, p ∉ ([.u] : List Pt) → m.No p) w) := by
  have hl := ht.len
  unfold maxLen at hl
  have hb0 : Below w.heap.size w (w.alloc (.cells (meC m a cap) 25)) := (Below.refl _ _).alloc (Nat.le_refl _) _
  have hat : MeAt (w.alloc (.cells (meC m a cap) 25)) w.heap.size m a cap := heap_alloc_new w _
  have HB := Lib.hid hb0
  have HT := Lib.hid (ht.below hb0)
  have HAT := Lib.hid hat
  obtain ⟨⟨c0, c1, c2, c3, c4, c5⟩, c6, c7, c8, c9, c10, c11⟩ := hat.cells
  have s1 := wf.s1
  have s2 := wf.s2
  have s3 := wf.s3
  have s4 := wf.s4
  have s5 := wf.s5
  have st := wf.tag
  unfold maxLen at s1 s2 s3 s4 s5
  obtain ⟨d1, d2⟩ := ltr_dash [.u]
  have hps : partsStr m.id = ltr [.u] := by unfold partsStr; rw [hp]
  have HP := Lib.hid hps
  have HPO := Lib.hid hp
  clear ht wf hb0 hat hps hp
  obtain ⟨mc, hmc⟩ : ∃ c, c = meC m a cap := ⟨_, rfl⟩
  rw [← hmc] at HB HT HAT c0 c1 c2 c3 c4 c5 c6 c7 c8 c9 c10 c11 ⊢
  clear hmc
  obtain ⟨h1, h2, h3, h4, h5, h6, h7, h8, h9, hm⟩ := hh
  go_enter Try.func25, Try.ntmps25
  go_wp2_with fail
  generalize w.alloc (.cells mc 25) = w1 at *
  refine (rparts_any m.id _).mono ?_
  rintro e w2 ⟨rfl, rfl⟩
  rw [HP.out]
  go_wp2_with fail
  refine (rmayTable_any _ HT.out).mono ?_
  rintro e w3 ⟨r, hr, rfl, hb⟩
  obtain rfl : r = true := hr.2 hm
  have hat := HAT.out.keep (hb.block _ HAT.out.lt)
  have HB2 := Lib.hid (HB.out.trans (hb.mono HB.out.size))
  clear hr hb c0 c1 c2 c3 c4 c5 c6 c7 c8 c9 c10 c11 d1 d2 hm HAT HB HT
  obtain ⟨⟨c0, c1, c2, c3, c4, c5⟩, c6, c7, c8, c9, c10, c11⟩ := hat.cells
  clear hat
  simp only [show decide (255 < (m.name.size : Int)) = false from decide_eq_false (by omega), show decide (255 < (m.typ.size : Int)) = false from decide_eq_false (by omega), show decide (255 < (m.ex.size : Int)) = false from decide_eq_false (by omega), show decide (255 < (m.key.size : Int)) = false from decide_eq_false (by omega), show decide (255 < (m.text.size : Int)) = false from decide_eq_false (by omega), show decide (m.code < 0) = false from decide_eq_false (by omega), show decide (65535 < m.code) = false from decide_eq_false (by omega), show decide (m.count < 0) = false from decide_eq_false (by omega), show decide (4294967295 < m.count) = false from decide_eq_false (by omega), Bool.or_self]
  clear h1 h2 h3 h4 h5 h6 h7 h8 h9
  go_wp2_with fail
  refine (rhas_any HPO.out .n _).mono ?_
  rintro e wx ⟨rfl, rfl⟩
  rw [show decide (Pt.n ∈ ([.u] : List Pt)) = false from by decide]
  simp only []
  go_step
  dsimp only [List.append]
  by_cases hno : m.No .n
  case neg =>
    have HN := Lib.hid hno
    obtain ⟨hq, hq2⟩ := full_str (show ¬ m.name.size = 0 from fun h => hno (size_empty h))
    clear hno
    go_wp2_with fail
    go_ret
    exact ⟨false, ⟨(fun h => by cases h), fun h => (HN.out (h .n (by decide))).elim⟩, by first | rfl | (simp [*]; done), HB2.out⟩
  have Nn := Lib.hid hno
  obtain ⟨hq, hq2⟩ := empty_str (show m.name.size = 0 by rw [show m.name = ByteArray.empty from hno]; rfl)
  clear hno
  go_wp2_with fail
  refine (rhas_any HPO.out .y _).mono ?_
  rintro e wx ⟨rfl, rfl⟩
  rw [show decide (Pt.y ∈ ([.u] : List Pt)) = false from by decide]
  by_cases hno : m.No .y
  case neg =>
    have HN := Lib.hid hno
    obtain ⟨hq, hq2⟩ := full_str (show ¬ m.typ.size = 0 from fun h => hno (size_empty h))
    clear hno
    go_wp2_with fail
    go_ret
    exact ⟨false, ⟨(fun h => by cases h), fun h => (HN.out (h .y (by decide))).elim⟩, by first | rfl | (simp [*]; done), HB2.out⟩
  have Ny := Lib.hid hno
  obtain ⟨hq, hq2⟩ := empty_str (show m.typ.size = 0 by rw [show m.typ = ByteArray.empty from hno]; rfl)
  clear hno
  go_wp2_with fail
  refine (rhas_any HPO.out .e _).mono ?_
  rintro e wx ⟨rfl, rfl⟩
  rw [show decide (Pt.e ∈ ([.u] : List Pt)) = false from by decide]
  by_cases hno : m.No .e
  case neg =>
    have HN := Lib.hid hno
    obtain ⟨hq, hq2⟩ := full_str (show ¬ m.ex.size = 0 from fun h => hno (size_empty h))
    clear hno
    go_wp2_with fail
    go_ret
    exact ⟨false, ⟨(fun h => by cases h), fun h => (HN.out (h .e (by decide))).elim⟩, by first | rfl | (simp [*]; done), HB2.out⟩
  have Ne := Lib.hid hno
  obtain ⟨hq, hq2⟩ := empty_str (show m.ex.size = 0 by rw [show m.ex = ByteArray.empty from hno]; rfl)
  clear hno
  go_wp2_with fail
  refine (rhas_any HPO.out .k _).mono ?_
  rintro e wx ⟨rfl, rfl⟩
  rw [show decide (Pt.k ∈ ([.u] : List Pt)) = false from by decide]
  by_cases hno : m.No .k
  case neg =>
    have HN := Lib.hid hno
    obtain ⟨hq, hq2⟩ := full_str (show ¬ m.key.size = 0 from fun h => hno (size_empty h))
    clear hno
    go_wp2_with fail
    go_ret
    exact ⟨false, ⟨(fun h => by cases h), fun h => (HN.out (h .k (by decide))).elim⟩, by first | rfl | (simp [*]; done), HB2.out⟩
  have Nk := Lib.hid hno
  obtain ⟨hq, hq2⟩ := empty_str (show m.key.size = 0 by rw [show m.key = ByteArray.empty from hno]; rfl)
  clear hno
  go_wp2_with fail
  refine (rhas_any HPO.out .x _).mono ?_
  rintro e wx ⟨rfl, rfl⟩
  rw [show decide (Pt.x ∈ ([.u] : List Pt)) = false from by decide]
  by_cases hno : m.No .x
  case neg =>
    have HN := Lib.hid hno
    obtain ⟨hq, hq2⟩ := full_str (show ¬ m.text.size = 0 from fun h => hno (size_empty h))
    clear hno
    go_wp2_with fail
    go_ret
    exact ⟨false, ⟨(fun h => by cases h), fun h => (HN.out (h .x (by decide))).elim⟩, by first | rfl | (simp [*]; done), HB2.out⟩
  have Nx := Lib.hid hno
  obtain ⟨hq, hq2⟩ := empty_str (show m.text.size = 0 by rw [show m.text = ByteArray.empty from hno]; rfl)
  clear hno
  go_wp2_with fail
  refine (rhas_any HPO.out .c _).mono ?_
  rintro e wx ⟨rfl, rfl⟩
  rw [show decide (Pt.c ∈ ([.u] : List Pt)) = false from by decide]
  by_cases hno : m.No .c
  case neg =>
    have HN := Lib.hid hno
    have hq : (m.code == 0) = false := beq_eq_false_iff_ne.2 hno
    clear hno
    go_wp2_with fail
    go_ret
    exact ⟨false, ⟨(fun h => by cases h), fun h => (HN.out (h .c (by decide))).elim⟩, by first | rfl | (simp [*]; done), HB2.out⟩
  have Nc := Lib.hid hno
  have hq : (m.code == 0) = true := beq_iff_eq.2 hno
  clear hno
  go_wp2_with fail
  refine (rhas_any HPO.out .u _).mono ?_
  rintro e wx ⟨rfl, rfl⟩
  rw [show decide (Pt.u ∈ ([.u] : List Pt)) = true from by decide]
  go_wp2_with fail
  refine (rhas_any HPO.out .t _).mono ?_
  rintro e wx ⟨rfl, rfl⟩
  rw [show decide (Pt.t ∈ ([.u] : List Pt)) = false from by decide]
  by_cases hno : m.No .t
  case neg =>
    have HN := Lib.hid hno
    have hq : ((m.tag : Int) == 0) = false := by rw [beq_eq_false_iff_ne]; intro h; exact hno (show m.tag = 0 by omega)
    clear hno
    go_wp2_with fail
    go_ret
    exact ⟨false, ⟨(fun h => by cases h), fun h => (HN.out (h .t (by decide))).elim⟩, by first | rfl | (simp [*]; done), HB2.out⟩
  have Nt := Lib.hid hno
  have hq : ((m.tag : Int) == 0) = true := by rw [beq_iff_eq, show m.tag = 0 from hno]; rfl
  clear hno
  go_wp2_with fail
  refine (rhas_any HPO.out .f _).mono ?_
  rintro e wx ⟨rfl, rfl⟩
  rw [show decide (Pt.f ∈ ([.u] : List Pt)) = false from by decide]
  by_cases hno : m.No .f
  case neg =>
    have HN := Lib.hid hno
    have hq : m.flag = true := by cases h : m.flag with | true => rfl | false => exact (hno h).elim
    clear hno
    go_wp2_with fail
    go_ret
    exact ⟨false, ⟨(fun h => by cases h), fun h => (HN.out (h .f (by decide))).elim⟩, by first | rfl | (simp [*]; done), HB2.out⟩
  have Nf := Lib.hid hno
  have hq : m.flag = false := hno
  clear hno
  go_wp2_with fail
  refine (rhas_any HPO.out .b _).mono ?_
  rintro e wx ⟨rfl, rfl⟩
  rw [show decide (Pt.b ∈ ([.u] : List Pt)) = false from by decide]
  by_cases hno : m.No .b
  case neg =>
    have HN := Lib.hid hno
    have hq : m.back = true := by cases h : m.back with | true => rfl | false => exact (hno h).elim
    clear hno
    go_wp2_with fail
    go_ret
    exact ⟨false, ⟨(fun h => by cases h), fun h => (HN.out (h .b (by decide))).elim⟩, by first | rfl | (simp [*]; done), HB2.out⟩
  have Nb := Lib.hid hno
  have hq : m.back = false := hno
  clear hno
  go_wp2_with fail
  refine (rhas_any HPO.out .a _).mono ?_
  rintro e wx ⟨rfl, rfl⟩
  rw [show decide (Pt.a ∈ ([.u] : List Pt)) = false from by decide]
  by_cases hno : m.No .a
  case neg =>
    have HN := Lib.hid hno
    have hq : ((m.args.length : Int) == 0) = false := by rw [beq_eq_false_iff_ne]; intro h; exact hno (show m.args = [] from List.eq_nil_of_length_eq_zero (by omega))
    clear hno
    go_wp2_with fail
    go_ret
    exact ⟨false, ⟨(fun h => by cases h), fun h => (HN.out (h .a (by decide))).elim⟩, by first | rfl | (simp [*]; done), HB2.out⟩
  have Na := Lib.hid hno
  have hq : ((m.args.length : Int) == 0) = true := by rw [beq_iff_eq, show m.args = [] from hno]; rfl
  clear hno
  go_wp2_with fail
  go_ret
  refine ⟨true, ⟨fun _ p hp => ?_, fun _ => rfl⟩, by first | rfl | (simp [*]; done), HB2.out⟩
  cases p
  case n => exact Nn.out
  case y => exact Ny.out
  case e => exact Ne.out
  case k => exact Nk.out
  case x => exact Nx.out
  case c => exact Nc.out
  case u => exact absurd (by decide) hp
  case t => exact Nt.out
  case f => exact Nf.out
  case b => exact Nb.out
  case a => exact Na.out

set_option maxRecDepth 100000 in
set_option maxHeartbeats 8000000 in
theorem rmayM_7 {w : World} {m : Me} {a : Option Addr} {cap : Nat} (ht : Tb w a cap m.args) (wf : m.Wf) (hp : partsOf m.id = some [.n, .x]) (hh : RHead m) :
    Calls Try.prog 25 #[.agg (meC m a cap)] w (SaysB (∀ p, p ∉ ([.n, .x] : List Pt) → m.No p) w) := by
  have hl := ht.len
  unfold maxLen at hl
  have hb0 : Below w.heap.size w (w.alloc (.cells (meC m a cap) 25)) := (Below.refl _ _).alloc (Nat.le_refl _) _
  have hat : MeAt (w.alloc (.cells (meC m a cap) 25)) w.heap.size m a cap := heap_alloc_new w _
  have HB := Lib.hid hb0
  have HT := Lib.hid (ht.below hb0)
  have HAT := Lib.hid hat
  obtain ⟨⟨c0, c1, c2, c3, c4, c5⟩, c6, c7, c8, c9, c10, c11⟩ := hat.cells
  have s1 := wf.s1
  have s2 := wf.s2
  have s3 := wf.s3
  have s4 := wf.s4
  have s5 := wf.s5
  have st := wf.tag
  unfold maxLen at s1 s2 s3 s4 s5
  obtain ⟨d1, d2⟩ := ltr_dash [.n, .x]
  have hps : partsStr m.id = ltr [.n, .x] := by unfold partsStr; rw [hp]
  have HP := Lib.hid hps
  have HPO := Lib.hid hp
  clear ht wf hb0 hat hps hp
  obtain ⟨mc, hmc⟩ : ∃ c, c = meC m a cap := ⟨_, rfl⟩
  rw [← hmc] at HB HT HAT c0 c1 c2 c3 c4 c5 c6 c7 c8 c9 c10 c11 ⊢
  clear hmc
  obtain ⟨h1, h2, h3, h4, h5, h6, h7, h8, h9, hm⟩ := hh
  go_enter Try.func25, Try.ntmps25
  go_wp2_with fail
  generalize w.alloc (.cells mc 25) = w1 at *
  refine (rparts_any m.id _).mono ?_
  rintro e w2 ⟨rfl, rfl⟩
  rw [HP.out]
  go_wp2_with fail
  refine (rmayTable_any _ HT.out).mono ?_
  rintro e w3 ⟨r, hr, rfl, hb⟩
  obtain rfl : r = true := hr.2 hm
  have hat := HAT.out.keep (hb.block _ HAT.out.lt)
  have HB2 := Lib.hid (HB.out.trans (hb.mono HB.out.size))
  clear hr hb c0 c1 c2 c3 c4 c5 c6 c7 c8 c9 c10 c11 d1 d2 hm HAT HB HT
  obtain ⟨⟨c0, c1, c2, c3, c4, c5⟩, c6, c7, c8, c9, c10, c11⟩ := hat.cells
  clear hat
  simp only [show decide (255 < (m.name.size : Int)) = false from decide_eq_false (by omega), show decide (255 < (m.typ.size : Int)) = false from decide_eq_false (by omega), show decide (255 < (m.ex.size : Int)) = false from decide_eq_false (by omega), show decide (255 < (m.key.size : Int)) = false from decide_eq_false (by omega), show decide (255 < (m.text.size : Int)) = false from decide_eq_false (by omega), show decide (m.code < 0) = false from decide_eq_false (by omega), show decide (65535 < m.code) = false from decide_eq_false (by omega), show decide (m.count < 0) = false from decide_eq_false (by omega), show decide (4294967295 < m.count) = false from decide_eq_false (by omega), Bool.or_self]
  clear h1 h2 h3 h4 h5 h6 h7 h8 h9
  go_wp2_with fail
  refine (rhas_any HPO.out .n _).mono ?_
  rintro e wx ⟨rfl, rfl⟩
  rw [show decide (Pt.n ∈ ([.n, .x] : List Pt)) = true from by decide]
  simp only []
  go_step
  dsimp only [List.append]
  go_wp2_with fail
  refine (rhas_any HPO.out .y _).mono ?_
  rintro e wx ⟨rfl, rfl⟩
  rw [show decide (Pt.y ∈ ([.n, .x] : List Pt)) = false from by decide]
  by_cases hno : m.No .y
  case neg =>
    have HN := Lib.hid hno
    obtain ⟨hq, hq2⟩ := full_str (show ¬ m.typ.size = 0 from fun h => hno (size_empty h))
    clear hno
    go_wp2_with fail
    go_ret
    exact ⟨false, ⟨(fun h => by cases h), fun h => (HN.out (h .y (by decide))).elim⟩, by first | rfl | (simp [*]; done), HB2.out⟩
  have Ny := Lib.hid hno
  obtain ⟨hq, hq2⟩ := empty_str (show m.typ.size = 0 by rw [show m.typ = ByteArray.empty from hno]; rfl)
  clear hno
  go_wp2_with fail
  refine (rhas_any HPO.out .e _).mono ?_
  rintro e wx ⟨rfl, rfl⟩
  rw [show decide (Pt.e ∈ ([.n, .x] : List Pt)) = false from by decide]
  by_cases hno : m.No .e
  case neg =>
    have HN := Lib.hid hno
    obtain ⟨hq, hq2⟩ := full_str (show ¬ m.ex.size = 0 from fun h => hno (size_empty h))
    clear hno
    go_wp2_with fail
    go_ret
    exact ⟨false, ⟨(fun h => by cases h), fun h => (HN.out (h .e (by decide))).elim⟩, by first | rfl | (simp [*]; done), HB2.out⟩
  have Ne := Lib.hid hno
  obtain ⟨hq, hq2⟩ := empty_str (show m.ex.size = 0 by rw [show m.ex = ByteArray.empty from hno]; rfl)
  clear hno
  go_wp2_with fail
  refine (rhas_any HPO.out .k _).mono ?_
  rintro e wx ⟨rfl, rfl⟩
  rw [show decide (Pt.k ∈ ([.n, .x] : List Pt)) = false from by decide]
  by_cases hno : m.No .k
  case neg =>
    have HN := Lib.hid hno
    obtain ⟨hq, hq2⟩ := full_str (show ¬ m.key.size = 0 from fun h => hno (size_empty h))
    clear hno
    go_wp2_with fail
    go_ret
    exact ⟨false, ⟨(fun h => by cases h), fun h => (HN.out (h .k (by decide))).elim⟩, by first | rfl | (simp [*]; done), HB2.out⟩
  have Nk := Lib.hid hno
  obtain ⟨hq, hq2⟩ := empty_str (show m.key.size = 0 by rw [show m.key = ByteArray.empty from hno]; rfl)
  clear hno
  go_wp2_with fail
  refine (rhas_any HPO.out .x _).mono ?_
  rintro e wx ⟨rfl, rfl⟩
  rw [show decide (Pt.x ∈ ([.n, .x] : List Pt)) = true from by decide]
  go_wp2_with fail
  refine (rhas_any HPO.out .c _).mono ?_
  rintro e wx ⟨rfl, rfl⟩
  rw [show decide (Pt.c ∈ ([.n, .x] : List Pt)) = false from by decide]
  by_cases hno : m.No .c
  case neg =>
    have HN := Lib.hid hno
    have hq : (m.code == 0) = false := beq_eq_false_iff_ne.2 hno
    clear hno
    go_wp2_with fail
    go_ret
    exact ⟨false, ⟨(fun h => by cases h), fun h => (HN.out (h .c (by decide))).elim⟩, by first | rfl | (simp [*]; done), HB2.out⟩
  have Nc := Lib.hid hno
  have hq : (m.code == 0) = true := beq_iff_eq.2 hno
  clear hno
  go_wp2_with fail
  refine (rhas_any HPO.out .u _).mono ?_
  rintro e wx ⟨rfl, rfl⟩
  rw [show decide (Pt.u ∈ ([.n, .x] : List Pt)) = false from by decide]
  by_cases hno : m.No .u
  case neg =>
    have HN := Lib.hid hno
    have hq : (m.count == 0) = false := beq_eq_false_iff_ne.2 hno
    clear hno
    go_wp2_with fail
    go_ret
    exact ⟨false, ⟨(fun h => by cases h), fun h => (HN.out (h .u (by decide))).elim⟩, by first | rfl | (simp [*]; done), HB2.out⟩
  have Nu := Lib.hid hno
  have hq : (m.count == 0) = true := beq_iff_eq.2 hno
  clear hno
  go_wp2_with fail
  refine (rhas_any HPO.out .t _).mono ?_
  rintro e wx ⟨rfl, rfl⟩
  rw [show decide (Pt.t ∈ ([.n, .x] : List Pt)) = false from by decide]
  by_cases hno : m.No .t
  case neg =>
    have HN := Lib.hid hno
    have hq : ((m.tag : Int) == 0) = false := by rw [beq_eq_false_iff_ne]; intro h; exact hno (show m.tag = 0 by omega)
    clear hno
    go_wp2_with fail
    go_ret
    exact ⟨false, ⟨(fun h => by cases h), fun h => (HN.out (h .t (by decide))).elim⟩, by first | rfl | (simp [*]; done), HB2.out⟩
  have Nt := Lib.hid hno
  have hq : ((m.tag : Int) == 0) = true := by rw [beq_iff_eq, show m.tag = 0 from hno]; rfl
  clear hno
  go_wp2_with fail
  refine (rhas_any HPO.out .f _).mono ?_
  rintro e wx ⟨rfl, rfl⟩
  rw [show decide (Pt.f ∈ ([.n, .x] : List Pt)) = false from by decide]
  by_cases hno : m.No .f
  case neg =>
    have HN := Lib.hid hno
    have hq : m.flag = true := by cases h : m.flag with | true => rfl | false => exact (hno h).elim
    clear hno
    go_wp2_with fail
    go_ret
    exact ⟨false, ⟨(fun h => by cases h), fun h => (HN.out (h .f (by decide))).elim⟩, by first | rfl | (simp [*]; done), HB2.out⟩
  have Nf := Lib.hid hno
  have hq : m.flag = false := hno
  clear hno
  go_wp2_with fail
  refine (rhas_any HPO.out .b _).mono ?_
  rintro e wx ⟨rfl, rfl⟩
  rw [show decide (Pt.b ∈ ([.n, .x] : List Pt)) = false from by decide]
  by_cases hno : m.No .b
  case neg =>
    have HN := Lib.hid hno
    have hq : m.back = true := by cases h : m.back with | true => rfl | false => exact (hno h).elim
    clear hno
    go_wp2_with fail
    go_ret
    exact ⟨false, ⟨(fun h => by cases h), fun h => (HN.out (h .b (by decide))).elim⟩, by first | rfl | (simp [*]; done), HB2.out⟩
  have Nb := Lib.hid hno
  have hq : m.back = false := hno
  clear hno
  go_wp2_with fail
  refine (rhas_any HPO.out .a _).mono ?_
  rintro e wx ⟨rfl, rfl⟩
  rw [show decide (Pt.a ∈ ([.n, .x] : List Pt)) = false from by decide]
  by_cases hno : m.No .a
  case neg =>
    have HN := Lib.hid hno
    have hq : ((m.args.length : Int) == 0) = false := by rw [beq_eq_false_iff_ne]; intro h; exact hno (show m.args = [] from List.eq_nil_of_length_eq_zero (by omega))
    clear hno
    go_wp2_with fail
    go_ret
    exact ⟨false, ⟨(fun h => by cases h), fun h => (HN.out (h .a (by decide))).elim⟩, by first | rfl | (simp [*]; done), HB2.out⟩
  have Na := Lib.hid hno
  have hq : ((m.args.length : Int) == 0) = true := by rw [beq_iff_eq, show m.args = [] from hno]; rfl
  clear hno
  go_wp2_with fail
  go_ret
  refine ⟨true, ⟨fun _ p hp => ?_, fun _ => rfl⟩, by first | rfl | (simp [*]; done), HB2.out⟩
  cases p
  case n => exact absurd (by decide) hp
  case y => exact Ny.out
  case e => exact Ne.out
  case k => exact Nk.out
  case x => exact absurd (by decide) hp
  case c => exact Nc.out
  case u => exact Nu.out
  case t => exact Nt.out
  case f => exact Nf.out
  case b => exact Nb.out
  case a => exact Na.out

end Go.Proofs.Ytjnnpgmgjdhfjaa

namespace Go.Proofs.Ytjnnpgmgjdhfjaa
open Go.RowKit
set_option linter.unusedVariables false

set_option maxRecDepth 100000 in
set_option maxHeartbeats 8000000 in
theorem rmayM_8 {w : World} {m : Me} {a : Option Addr} {cap : Nat} (ht : Tb w a cap m.args) (wf : m.Wf) (hp : partsOf m.id = some [.x]) (hh : RHead m) :
    Calls Try.prog 25 #[.agg (meC m a cap)] w (SaysB (∀ p, p ∉ ([.x] : List Pt) → m.No p) w) := by
  have hl := ht.len
  unfold maxLen at hl
  have hb0 : Below w.heap.size w (w.alloc (.cells (meC m a cap) 25)) := (Below.refl _ _).alloc (Nat.le_refl _) _
  have hat : MeAt (w.alloc (.cells (meC m a cap) 25)) w.heap.size m a cap := heap_alloc_new w _
  have HB := Lib.hid hb0
  have HT := Lib.hid (ht.below hb0)
  have HAT := Lib.hid hat
  obtain ⟨⟨c0, c1, c2, c3, c4, c5⟩, c6, c7, c8, c9, c10, c11⟩ := hat.cells
  have s1 := wf.s1
  have s2 := wf.s2
  have s3 := wf.s3
  have s4 := wf.s4
  have s5 := wf.s5
  have st := wf.tag
  unfold maxLen at s1 s2 s3 s4 s5
  obtain ⟨d1, d2⟩ := ltr_dash [.x]
  have hps : partsStr m.id = ltr [.x] := by unfold partsStr; rw [hp]
  have HP := Lib.hid hps
  have HPO := Lib.hid hp
  clear ht wf hb0 hat hps hp
  obtain ⟨mc, hmc⟩ : ∃ c, c = meC m a cap := ⟨_, rfl⟩
  rw [← hmc] at HB HT HAT c0 c1 c2 c3 c4 c5 c6 c7 c8 c9 c10 c11 ⊢
  clear hmc
  obtain ⟨h1, h2, h3, h4, h5, h6, h7, h8, h9, hm⟩ := hh
  go_enter Try.func25, Try.ntmps25
  go_wp2_with fail
  generalize w.alloc (.cells mc 25) = w1 at *
  refine (rparts_any m.id _).mono ?_
  rintro e w2 ⟨rfl, rfl⟩
  rw [HP.out]
  go_wp2_with fail
  refine (rmayTable_any _ HT.out).mono ?_
  rintro e w3 ⟨r, hr, rfl, hb⟩
  obtain rfl : r = true := hr.2 hm
  have hat := HAT.out.keep (hb.block _ HAT.out.lt)
  have HB2 := Lib.hid (HB.out.trans (hb.mono HB.out.size))
  clear hr hb c0 c1 c2 c3 c4 c5 c6 c7 c8 c9 c10 c11 d1 d2 hm HAT HB HT
  obtain ⟨⟨c0, c1, c2, c3, c4, c5⟩, c6, c7, c8, c9, c10, c11⟩ := hat.cells
  clear hat
  simp only [show decide (255 < (m.name.size : Int)) = false from decide_eq_false (by omega), show decide (255 < (m.typ.size : Int)) = false from decide_eq_false (by omega), show decide (255 < (m.ex.size : Int)) = false from decide_eq_false (by omega), show decide (255 < (m.key.size : Int)) = false from decide_eq_false (by omega), show decide (255 < (m.text.size : Int)) = false from decide_eq_false (by omega), show decide (m.code < 0) = false from decide_eq_false (by omega), show decide (65535 < m.code) = false from decide_eq_false (by omega), show decide (m.count < 0) = false from decide_eq_false (by omega), show decide (4294967295 < m.count) = false from decide_eq_false (by omega), Bool.or_self]
  clear h1 h2 h3 h4 h5 h6 h7 h8 h9
  go_wp2_with fail
  refine (rhas_any HPO.out .n _).mono ?_
  rintro e wx ⟨rfl, rfl⟩
  rw [show decide (Pt.n ∈ ([.x] : List Pt)) = false from by decide]
  simp only []
  go_step
  dsimp only [List.append]
  by_cases hno : m.No .n
  case neg =>
    have HN := Lib.hid hno
    obtain ⟨hq, hq2⟩ := full_str (show ¬ m.name.size = 0 from fun h => hno (size_empty h))
    clear hno
    go_wp2_with fail
    go_ret
    exact ⟨false, ⟨(fun h => by cases h), fun h => (HN.out (h .n (by decide))).elim⟩, by first | rfl | (simp [*]; done), HB2.out⟩
  have Nn := Lib.hid hno
  obtain ⟨hq, hq2⟩ := empty_str (show m.name.size = 0 by rw [show m.name = ByteArray.empty from hno]; rfl)
  clear hno
  go_wp2_with fail
  refine (rhas_any HPO.out .y _).mono ?_
  rintro e wx ⟨rfl, rfl⟩
  rw [show decide (Pt.y ∈ ([.x] : List Pt)) = false from by decide]
  by_cases hno : m.No .y
  case neg =>
    have HN := Lib.hid hno
    obtain ⟨hq, hq2⟩ := full_str (show ¬ m.typ.size = 0 from fun h => hno (size_empty h))
    clear hno
    go_wp2_with fail
    go_ret
    exact ⟨false, ⟨(fun h => by cases h), fun h => (HN.out (h .y (by decide))).elim⟩, by first | rfl | (simp [*]; done), HB2.out⟩
  have Ny := Lib.hid hno
  obtain ⟨hq, hq2⟩ := empty_str (show m.typ.size = 0 by rw [show m.typ = ByteArray.empty from hno]; rfl)
  clear hno
  go_wp2_with fail
  refine (rhas_any HPO.out .e _).mono ?_
  rintro e wx ⟨rfl, rfl⟩
  rw [show decide (Pt.e ∈ ([.x] : List Pt)) = false from by decide]
  by_cases hno : m.No .e
  case neg =>
    have HN := Lib.hid hno
    obtain ⟨hq, hq2⟩ := full_str (show ¬ m.ex.size = 0 from fun h => hno (size_empty h))
    clear hno
    go_wp2_with fail
    go_ret
    exact ⟨false, ⟨(fun h => by cases h), fun h => (HN.out (h .e (by decide))).elim⟩, by first | rfl | (simp [*]; done), HB2.out⟩
  have Ne := Lib.hid hno
  obtain ⟨hq, hq2⟩ := empty_str (show m.ex.size = 0 by rw [show m.ex = ByteArray.empty from hno]; rfl)
  clear hno
  go_wp2_with fail
  refine (rhas_any HPO.out .k _).mono ?_
  rintro e wx ⟨rfl, rfl⟩
  rw [show decide (Pt.k ∈ ([.x] : List Pt)) = false from by decide]
  by_cases hno : m.No .k
  case neg =>
    have HN := Lib.hid hno
    obtain ⟨hq, hq2⟩ := full_str (show ¬ m.key.size = 0 from fun h => hno (size_empty h))
    clear hno
    go_wp2_with fail
    go_ret
    exact ⟨false, ⟨(fun h => by cases h), fun h => (HN.out (h .k (by decide))).elim⟩, by first | rfl | (simp [*]; done), HB2.out⟩
  have Nk := Lib.hid hno
  obtain ⟨hq, hq2⟩ := empty_str (show m.key.size = 0 by rw [show m.key = ByteArray.empty from hno]; rfl)
  clear hno
  go_wp2_with fail
  refine (rhas_any HPO.out .x _).mono ?_
  rintro e wx ⟨rfl, rfl⟩
  rw [show decide (Pt.x ∈ ([.x] : List Pt)) = true from by decide]
  go_wp2_with fail
  refine (rhas_any HPO.out .c _).mono ?_
  rintro e wx ⟨rfl, rfl⟩
  rw [show decide (Pt.c ∈ ([.x] : List Pt)) = false from by decide]
  by_cases hno : m.No .c
  case neg =>
    have HN := Lib.hid hno
    have hq : (m.code == 0) = false := beq_eq_false_iff_ne.2 hno
    clear hno
    go_wp2_with fail
    go_ret
    exact ⟨false, ⟨(fun h => by cases h), fun h => (HN.out (h .c (by decide))).elim⟩, by first | rfl | (simp [*]; done), HB2.out⟩
  have Nc := Lib.hid hno
  have hq : (m.code == 0) = true := beq_iff_eq.2 hno
  clear hno
  go_wp2_with fail
  refine (rhas_any HPO.out .u _).mono ?_
  rintro e wx ⟨rfl, rfl⟩
  rw [show decide (Pt.u ∈ ([.x] : List Pt)) = false from by decide]
  by_cases hno : m.No .u
  case neg =>
    have HN := Lib.hid hno
    have hq : (m.count == 0) = false := beq_eq_false_iff_ne.2 hno
    clear hno
    go_wp2_with fail
    go_ret
    exact ⟨false, ⟨(fun h => by cases h), fun h => (HN.out (h .u (by decide))).elim⟩, by first | rfl | (simp [*]; done), HB2.out⟩
  have Nu := Lib.hid hno
  have hq : (m.count == 0) = true := beq_iff_eq.2 hno
  clear hno
  go_wp2_with fail
  refine (rhas_any HPO.out .t _).mono ?_
  rintro e wx ⟨rfl, rfl⟩
  rw [show decide (Pt.t ∈ ([.x] : List Pt)) = false from by decide]
  by_cases hno : m.No .t
  case neg =>
    have HN := Lib.hid hno
    have hq : ((m.tag : Int) == 0) = false := by rw [beq_eq_false_iff_ne]; intro h; exact hno (show m.tag = 0 by omega)
    clear hno
    go_wp2_with fail
    go_ret
    exact ⟨false, ⟨(fun h => by cases h), fun h => (HN.out (h .t (by decide))).elim⟩, by first | rfl | (simp [*]; done), HB2.out⟩
  have Nt := Lib.hid hno
  have hq : ((m.tag : Int) == 0) = true := by rw [beq_iff_eq, show m.tag = 0 from hno]; rfl
  clear hno
  go_wp2_with fail
  refine (rhas_any HPO.out .f _).mono ?_
  rintro e wx ⟨rfl, rfl⟩
  rw [show decide (Pt.f ∈ ([.x] : List Pt)) = false from by decide]
  by_cases hno : m.No .f
  case neg =>
    have HN := Lib.hid hno
    have hq : m.flag = true := by cases h : m.flag with | true => rfl | false => exact (hno h).elim
    clear hno
    go_wp2_with fail
    go_ret
    exact ⟨false, ⟨(fun h => by cases h), fun h => (HN.out (h .f (by decide))).elim⟩, by first | rfl | (simp [*]; done), HB2.out⟩
  have Nf := Lib.hid hno
  have hq : m.flag = false := hno
  clear hno
  go_wp2_with fail
  refine (rhas_any HPO.out .b _).mono ?_
  rintro e wx ⟨rfl, rfl⟩
  rw [show decide (Pt.b ∈ ([.x] : List Pt)) = false from by decide]
  by_cases hno : m.No .b
  case neg =>
    have HN := Lib.hid hno
    have hq : m.back = true := by cases h : m.back with | true => rfl | false => exact (hno h).elim
    clear hno
    go_wp2_with fail
    go_ret
    exact ⟨false, ⟨(fun h => by cases h), fun h => (HN.out (h .b (by decide))).elim⟩, by first | rfl | (simp [*]; done), HB2.out⟩
  have Nb := Lib.hid hno
  have hq : m.back = false := hno
  clear hno
  go_wp2_with fail
  refine (rhas_any HPO.out .a _).mono ?_
  rintro e wx ⟨rfl, rfl⟩
  rw [show decide (Pt.a ∈ ([.x] : List Pt)) = false from by decide]
  by_cases hno : m.No .a
  case neg =>
    have HN := Lib.hid hno
    have hq : ((m.args.length : Int) == 0) = false := by rw [beq_eq_false_iff_ne]; intro h; exact hno (show m.args = [] from List.eq_nil_of_length_eq_zero (by omega))
    clear hno
    go_wp2_with fail
    go_ret
    exact ⟨false, ⟨(fun h => by cases h), fun h => (HN.out (h .a (by decide))).elim⟩, by first | rfl | (simp [*]; done), HB2.out⟩
  have Na := Lib.hid hno
  have hq : ((m.args.length : Int) == 0) = true := by rw [beq_iff_eq, show m.args = [] from hno]; rfl
  clear hno
  go_wp2_with fail
  go_ret
  refine ⟨true, ⟨fun _ p hp => ?_, fun _ => rfl⟩, by first | rfl | (simp [*]; done), HB2.out⟩
  cases p
  case n => exact Nn.out
  case y => exact Ny.out
  case e => exact Ne.out
  case k => exact Nk.out
  case x => exact absurd (by decide) hp
  case c => exact Nc.out
  case u => exact Nu.out
  case t => exact Nt.out
  case f => exact Nf.out
  case b => exact Nb.out
  case a => exact Na.out

set_option maxRecDepth 100000 in
set_option maxHeartbeats 8000000 in
theorem rmayM_9 {w : World} {m : Me} {a : Option Addr} {cap : Nat} (ht : Tb w a cap m.args) (wf : m.Wf) (hp : partsOf m.id = some [.e, .k, .f]) (hh : RHead m) :
    Calls Try.prog 25 #[.agg (meC m a cap)] w (SaysB (∀ p, p ∉ ([.e, .k, .f] : List Pt) → m.No p) w) := by
  have hl := ht.len
  unfold maxLen at hl
  have hb0 : Below w.heap.size w (w.alloc (.cells (meC m a cap) 25)) := (Below.refl _ _).alloc (Nat.le_refl _) _
  have hat : MeAt (w.alloc (.cells (meC m a cap) 25)) w.heap.size m a cap := heap_alloc_new w _
  have HB := Lib.hid hb0
  have HT := Lib.hid (ht.below hb0)
  have HAT := Lib.hid hat
  obtain ⟨⟨c0, c1, c2, c3, c4, c5⟩, c6, c7, c8, c9, c10, c11⟩ := hat.cells
  have s1 := wf.s1
  have s2 := wf.s2
  have s3 := wf.s3
  have s4 := wf.s4
  have s5 := wf.s5
  have st := wf.tag
  unfold maxLen at s1 s2 s3 s4 s5
  obtain ⟨d1, d2⟩ := ltr_dash [.e, .k, .f]
  have hps : partsStr m.id = ltr [.e, .k, .f] := by unfold partsStr; rw [hp]
  have HP := Lib.hid hps
  have HPO := Lib.hid hp
  clear ht wf hb0 hat hps hp
  obtain ⟨mc, hmc⟩ : ∃ c, c = meC m a cap := ⟨_, rfl⟩
  rw [← hmc] at HB HT HAT c0 c1 c2 c3 c4 c5 c6 c7 c8 c9 c10 c11 ⊢
  clear hmc
  obtain ⟨h1, h2, h3, h4, h5, h6, h7, h8, h9, hm⟩ := hh
  go_enter Try.func25, Try.ntmps25
  go_wp2_with fail
  generalize w.alloc (.cells mc 25) = w1 at *
  refine (rparts_any m.id _).mono ?_
  rintro e w2 ⟨rfl, rfl⟩
  rw [HP.out]
  go_wp2_with fail
  refine (rmayTable_any _ HT.out).mono ?_
  rintro e w3 ⟨r, hr, rfl, hb⟩
  obtain rfl : r = true := hr.2 hm
  have hat := HAT.out.keep (hb.block _ HAT.out.lt)
  have HB2 := Lib.hid (HB.out.trans (hb.mono HB.out.size))
  clear hr hb c0 c1 c2 c3 c4 c5 c6 c7 c8 c9 c10 c11 d1 d2 hm HAT HB HT
  obtain ⟨⟨c0, c1, c2, c3, c4, c5⟩, c6, c7, c8, c9, c10, c11⟩ := hat.cells
  clear hat
  simp only [show decide (255 < (m.name.size : Int)) = false from decide_eq_false (by omega), show decide (255 < (m.typ.size : Int)) = false from decide_eq_false (by omega), show decide (255 < (m.ex.size : Int)) = false from decide_eq_false (by omega), show decide (255 < (m.key.size : Int)) = false from decide_eq_false (by omega), show decide (255 < (m.text.size : Int)) = false from decide_eq_false (by omega), show decide (m.code < 0) = false from decide_eq_false (by omega), show decide (65535 < m.code) = false from decide_eq_false (by omega), show decide (m.count < 0) = false from decide_eq_false (by omega), show decide (4294967295 < m.count) = false from decide_eq_false (by omega), Bool.or_self]
  clear h1 h2 h3 h4 h5 h6 h7 h8 h9
  go_wp2_with fail
  refine (rhas_any HPO.out .n _).mono ?_
  rintro e wx ⟨rfl, rfl⟩
  rw [show decide (Pt.n ∈ ([.e, .k, .f] : List Pt)) = false from by decide]
  simp only []
  go_step
  dsimp only [List.append]
  by_cases hno : m.No .n
  case neg =>
    have HN := Lib.hid hno
    obtain ⟨hq, hq2⟩ := full_str (show ¬ m.name.size = 0 from fun h => hno (size_empty h))
    clear hno
    go_wp2_with fail
    go_ret
    exact ⟨false, ⟨(fun h => by cases h), fun h => (HN.out (h .n (by decide))).elim⟩, by first | rfl | (simp [*]; done), HB2.out⟩
  have Nn := Lib.hid hno
  obtain ⟨hq, hq2⟩ := empty_str (show m.name.size = 0 by rw [show m.name = ByteArray.empty from hno]; rfl)
  clear hno
  go_wp2_with fail
  refine (rhas_any HPO.out .y _).mono ?_
  rintro e wx ⟨rfl, rfl⟩
  rw [show decide (Pt.y ∈ ([.e, .k, .f] : List Pt)) = false from by decide]
  by_cases hno : m.No .y
  case neg =>
    have HN := Lib.hid hno
    obtain ⟨hq, hq2⟩ := full_str (show ¬ m.typ.size = 0 from fun h => hno (size_empty h))
    clear hno
    go_wp2_with fail
    go_ret
    exact ⟨false, ⟨(fun h => by cases h), fun h => (HN.out (h .y (by decide))).elim⟩, by first | rfl | (simp [*]; done), HB2.out⟩
  have Ny := Lib.hid hno
  obtain ⟨hq, hq2⟩ := empty_str (show m.typ.size = 0 by rw [show m.typ = ByteArray.empty from hno]; rfl)
  clear hno
  go_wp2_with fail
  refine (rhas_any HPO.out .e _).mono ?_
  rintro e wx ⟨rfl, rfl⟩
  rw [show decide (Pt.e ∈ ([.e, .k, .f] : List Pt)) = true from by decide]
  go_wp2_with fail
  refine (rhas_any HPO.out .k _).mono ?_
  rintro e wx ⟨rfl, rfl⟩
  rw [show decide (Pt.k ∈ ([.e, .k, .f] : List Pt)) = true from by decide]
  go_wp2_with fail
  refine (rhas_any HPO.out .x _).mono ?_
  rintro e wx ⟨rfl, rfl⟩
  rw [show decide (Pt.x ∈ ([.e, .k, .f] : List Pt)) = false from by decide]
  by_cases hno : m.No .x
  case neg =>
    have HN := Lib.hid hno
    obtain ⟨hq, hq2⟩ := full_str (show ¬ m.text.size = 0 from fun h => hno (size_empty h))
    clear hno
    go_wp2_with fail
    go_ret
    exact ⟨false, ⟨(fun h => by cases h), fun h => (HN.out (h .x (by decide))).elim⟩, by first | rfl | (simp [*]; done), HB2.out⟩
  have Nx := Lib.hid hno
  obtain ⟨hq, hq2⟩ := empty_str (show m.text.size = 0 by rw [show m.text = ByteArray.empty from hno]; rfl)
  clear hno
  go_wp2_with fail
  refine (rhas_any HPO.out .c _).mono ?_
  rintro e wx ⟨rfl, rfl⟩
  rw [show decide (Pt.c ∈ ([.e, .k, .f] : List Pt)) = false from by decide]
  by_cases hno : m.No .c
  case neg =>
    have HN := Lib.hid hno
    have hq : (m.code == 0) = false := beq_eq_false_iff_ne.2 hno
    clear hno
    go_wp2_with fail
    go_ret
    exact ⟨false, ⟨(fun h => by cases h), fun h => (HN.out (h .c (by decide))).elim⟩, by first | rfl | (simp [*]; done), HB2.out⟩
  have Nc := Lib.hid hno
  have hq : (m.code == 0) = true := beq_iff_eq.2 hno
  clear hno
  go_wp2_with fail
  refine (rhas_any HPO.out .u _).mono ?_
  rintro e wx ⟨rfl, rfl⟩
  rw [show decide (Pt.u ∈ ([.e, .k, .f] : List Pt)) = false from by decide]
  by_cases hno : m.No .u
  case neg =>
    have HN := Lib.hid hno
    have hq : (m.count == 0) = false := beq_eq_false_iff_ne.2 hno
    clear hno
    go_wp2_with fail
    go_ret
    exact ⟨false, ⟨(fun h => by cases h), fun h => (HN.out (h .u (by decide))).elim⟩, by first | rfl | (simp [*]; done), HB2.out⟩
  have Nu := Lib.hid hno
  have hq : (m.count == 0) = true := beq_iff_eq.2 hno
  clear hno
  go_wp2_with fail
  refine (rhas_any HPO.out .t _).mono ?_
  rintro e wx ⟨rfl, rfl⟩
  rw [show decide (Pt.t ∈ ([.e, .k, .f] : List Pt)) = false from by decide]
  by_cases hno : m.No .t
  case neg =>
    have HN := Lib.hid hno
    have hq : ((m.tag : Int) == 0) = false := by rw [beq_eq_false_iff_ne]; intro h; exact hno (show m.tag = 0 by omega)
    clear hno
    go_wp2_with fail
    go_ret
    exact ⟨false, ⟨(fun h => by cases h), fun h => (HN.out (h .t (by decide))).elim⟩, by first | rfl | (simp [*]; done), HB2.out⟩
  have Nt := Lib.hid hno
  have hq : ((m.tag : Int) == 0) = true := by rw [beq_iff_eq, show m.tag = 0 from hno]; rfl
  clear hno
  go_wp2_with fail
  refine (rhas_any HPO.out .f _).mono ?_
  rintro e wx ⟨rfl, rfl⟩
  rw [show decide (Pt.f ∈ ([.e, .k, .f] : List Pt)) = true from by decide]
  go_wp2_with fail
  refine (rhas_any HPO.out .b _).mono ?_
  rintro e wx ⟨rfl, rfl⟩
  rw [show decide (Pt.b ∈ ([.e, .k, .f] : List Pt)) = false from by decide]
  by_cases hno : m.No .b
  case neg =>
    have HN := Lib.hid hno
    have hq : m.back = true := by cases h : m.back with | true => rfl | false => exact (hno h).elim
    clear hno
    go_wp2_with fail
    go_ret
    exact ⟨false, ⟨(fun h => by cases h), fun h => (HN.out (h .b (by decide))).elim⟩, by first | rfl | (simp [*]; done), HB2.out⟩
  have Nb := Lib.hid hno
  have hq : m.back = false := hno
  clear hno
  go_wp2_with fail
  refine (rhas_any HPO.out .a _).mono ?_
  rintro e wx ⟨rfl, rfl⟩
  rw [show decide (Pt.a ∈ ([.e, .k, .f] : List Pt)) = false from by decide]
  by_cases hno : m.No .a
  case neg =>
    have HN := Lib.hid hno
    have hq : ((m.args.length : Int) == 0) = false := by rw [beq_eq_false_iff_ne]; intro h; exact hno (show m.args = [] from List.eq_nil_of_length_eq_zero (by omega))
    clear hno
    go_wp2_with fail
    go_ret
    exact ⟨false, ⟨(fun h => by cases h), fun h => (HN.out (h .a (by decide))).elim⟩, by first | rfl | (simp [*]; done), HB2.out⟩
  have Na := Lib.hid hno
  have hq : ((m.args.length : Int) == 0) = true := by rw [beq_iff_eq, show m.args = [] from hno]; rfl
  clear hno
  go_wp2_with fail
  go_ret
  refine ⟨true, ⟨fun _ p hp => ?_, fun _ => rfl⟩, by first | rfl | (simp [*]; done), HB2.out⟩
  cases p
  case n => exact Nn.out
  case y => exact Ny.out
  case e => exact absurd (by decide) hp
  case k => exact absurd (by decide) hp
  case x => exact Nx.out
  case c => exact Nc.out
  case u => exact Nu.out
  case t => exact Nt.out
  case f => exact absurd (by decide) hp
  case b => exact Nb.out
  case a => exact Na.out

end Go.Proofs.Ytjnnpgmgjdhfjaa
