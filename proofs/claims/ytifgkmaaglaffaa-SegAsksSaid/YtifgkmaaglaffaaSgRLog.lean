/-
  The document's own answer: its log, walked.
-/
import Derived.Test.YtifgkmaaglaffaaSgRRec
import Derived.Test.YtifgkmaaglaffaaSgCrash
import Derived.Test.YtifgkmaaglaffaaSgBegin
import Derived.BigRegion
namespace Go.Proofs.Ytifgkmaaglaffaa.Sg
open Go.RowKit
set_option linter.unusedVariables false
variable {B C : Nat}

/-- the document's log in block g. -/
def RLogAt (w : World) (g : Nat) (sy wa : List UInt8) (bg : Bool) : Prop := w.heap[g]? = some (.cells #[.string ⟨sy.toArray⟩, .string ⟨wa.toArray⟩, .bool bg] 55 (0, 0))
theorem RLogAt.lt {w : World} {g : Nat} {sy wa : List UInt8} {bg : Bool} (h : RLogAt w g sy wa bg) : g < w.heap.size := (Array.getElem?_eq_some_iff.1 h).1
theorem RLogAt.below {w w' : World} {g : Nat} {sy wa : List UInt8} {bg : Bool} (h : RLogAt w g sy wa bg) (hb : Below w.heap.size w w') : RLogAt w' g sy wa bg := (hb.block g h.lt).trans h
theorem RLogAt.side {w w' : World} {g : Nat} {sy wa : List UInt8} {bg : Bool} (h : RLogAt w g sy wa bg) (hs : Side C w w') : RLogAt w' g sy wa bg := hs.ty g _ _ _ (by decide) (by decide) h
def ROpenR (l : List UInt8) (w : World) (e : Ending) (w' : World) : Prop :=
  ∃ g a c, e = .returned (.tuple #[.pointer (some ⟨g, 0, none⟩), .slice a (rdL l).length c]) ∧ c ≤ maxLen ∧ Top.StrsAt w' a c (rdL l) ∧ RLogAt w' g (catR (rdL l)) [] false ∧ w.heap.size ≤ g ∧ Below w.heap.size w w'

set_option maxRecDepth 100000 in
set_option maxHeartbeats 1000000 in
theorem ropen_any (l : List UInt8) (hl : l.length ≤ 1000000) (w : World) :
    Calls Try.prog 22 #[.string ⟨l.toArray⟩] w (ROpenR l w) := by
  have HRD := Lib.hid (rread_any l hl w)
  have hto := str_to l (rdN l) (rd_le l)
  rw [show l.take (rdN l) = catR (rdL l) from rd_take l] at hto
  have hi : (rdN l : Int) ≤ ((⟨l.toArray⟩ : ByteArray).size : Int) := by have := rd_le l; show ((catR (rdL l)).length : Int) ≤ (l.length : Int); omega
  obtain ⟨n, hn⟩ : ∃ n, n = rdN l := ⟨_, rfl⟩
  unfold RReadR at HRD
  rw [← hn] at HRD hto hi
  clear hn
  go_enter Try.func22, Try.ntmps22
  go_wp2_with fail
  refine HRD.out.mono ?_
  rintro e w1 ⟨a, c, rfl, hc, hst, hb1⟩
  have HST := Lib.hid (And.intro hc (And.intro hst hb1))
  clear hc hst hb1
  go_wp2_with fail
  go_ret2
  have hba : Below w1.heap.size w1 (w1.alloc (.cells #[.string ⟨(catR (rdL l)).toArray⟩, .string ⟨#[]⟩, .bool false] 55)) := (Below.refl _ _).alloc (Nat.le_refl _) _
  exact ⟨w1.heap.size, a, c, rfl, HST.out.1, HST.out.2.1.below hba, heap_alloc_new _ _, HST.out.2.2.size, HST.out.2.2.trans (hba.mono HST.out.2.2.size)⟩

def RPutR (l sy wa : List UInt8) (bg : Bool) (g : Nat) (w : World) (e : Ending) (w' : World) : Prop :=
  e = .returned (.int .i64 (recC l)) ∧ RLogAt w' g sy (wa ++ recL l) bg ∧ Kept [g] w w'
theorem below_drew (w : World) : Below w.heap.size w w.drew := ⟨rfl, rfl, rfl, Nat.le_refl _, fun _ _ => rfl⟩
theorem rset {w w1 : World} {g : Nat} {sy wa x : List UInt8} {bg : Bool} (h : RLogAt w g sy wa bg) (hb : Below w.heap.size w w1) : RLogAt (w1.setCell ⟨g, 1, none⟩ (.string ⟨x.toArray⟩)) g sy x bg ∧ Kept [g] w (w1.setCell ⟨g, 1, none⟩ (.string ⟨x.toArray⟩)) :=
  ⟨(set_box3 (h.below hb)).2.1 _, (Kept.of_below hb).set (by simp) 1 _⟩

set_option maxRecDepth 100000 in
set_option maxHeartbeats 2000000 in
theorem rput_any (l sy wa : List UInt8) (bg : Bool) (g : Nat) (hl : l.length ≤ 1000000) (hwl : wa.length ≤ 1000000) (w : World) (h : RLogAt w g sy wa bg) :
    Calls Try.prog 24 #[.pointer (some ⟨g, 0, none⟩), .string ⟨l.toArray⟩] w (RPutR l sy wa bg g w) := by
  have HM := Lib.hid fun wx => rmayl_any l (by unfold maxLen; omega) wx
  have HREC := Lib.hid fun wx => rrec_any l hl wx
  have HL := Lib.hid h
  obtain ⟨⟨c0, c1, c2⟩, f0, f1, f2⟩ := box3 h
  unfold RPutR recC recL
  by_cases hm : MayL l.length
  case neg =>
    rw [if_neg hm, if_neg hm, List.append_nil]
    rw [decide_eq_false hm] at HM
    clear hm h c0 c1 c2 f0 f1 f2
    go_enter Try.func24, Try.ntmps24
    go_wp2_with fail
    refine (HM.out w).mono ?_
    rintro e wx ⟨rfl, rfl⟩
    go_wp2_with fail
    go_ret
    exact ⟨rfl, HL.out, Kept.refl _ _⟩
  rw [if_pos hm, if_pos hm]
  rw [decide_eq_true hm] at HM
  have HGL := Lib.hid h.lt
  have hsum : ¬ 9223372036854775807 < wa.length + (l.length + 6) := by omega
  have hsum2 : ¬ 9223372036854775807 < wa.length + (recF l).length := by rw [recF_length]; omega
  clear hm h c0 c2 f0 f2
  go_enter Try.func24, Try.ntmps24
  go_wp2_with fail
  refine (HM.out w).mono ?_
  rintro e wx ⟨rfl, rfl⟩
  go_wp2_with fail
  go_region_with (go_at_call 13; refine (HREC.out _).mono ?_; rintro e w5 ⟨rfl, hb5⟩; have hb6 : Below w.heap.size w w5 := (below_drew w).trans hb5; have hrl5 := HL.out.below hb6; obtain ⟨⟨-, y1, -⟩, -, z1, -⟩ := box3 hrl5; have HB5 := Lib.hid hb6; clear hb5 hb6 hrl5)
  all_goals
    go_wp2_with fail
    go_ret
    rw [cat_list]
    have hend := rset (x := wa ++ recF l) HL.out HB5.out
    exact ⟨rfl, hend.1, hend.2⟩

def RBegR (l sy wa : List UInt8) (bg : Bool) (g : Nat) (w : World) (e : Ending) (w' : World) : Prop :=
  e = .returned (.int .i64 (recC l)) ∧ RLogAt w' g sy (begW l wa) (begB l bg) ∧ Kept [g] w w'
theorem rset2 {w w1 : World} {g : Nat} {sy wa x : List UInt8} {bg : Bool} (h : RLogAt w g sy wa bg) (hb : Below w.heap.size w w1) :
    RLogAt ((w1.setCell ⟨g, 1, none⟩ (.string ⟨x.toArray⟩)).setCell ⟨g, 2, none⟩ (.bool true)) g sy x true ∧ Kept [g] w ((w1.setCell ⟨g, 1, none⟩ (.string ⟨x.toArray⟩)).setCell ⟨g, 2, none⟩ (.bool true)) :=
  ⟨(set_box3 ((set_box3 (h.below hb)).2.1 _)).2.2 _, ((Kept.of_below hb).set (by simp) 1 _).set (by simp) 2 _⟩
set_option maxRecDepth 100000 in
set_option maxHeartbeats 2000000 in
theorem rbegin_any (l sy wa : List UInt8) (bg : Bool) (g : Nat) (hl : l.length ≤ 1000000) (w : World) (h : RLogAt w g sy wa bg) :
    Calls Try.prog 26 #[.pointer (some ⟨g, 0, none⟩), .string ⟨l.toArray⟩] w (RBegR l sy wa bg g w) := by
  have HM := Lib.hid fun wx => rmayl_any l (by unfold maxLen; omega) wx
  have HREC := Lib.hid fun wx => rrec_any l hl wx
  have HL := Lib.hid h
  unfold RBegR recC begW begB
  by_cases hm : MayL l.length
  case neg =>
    rw [if_neg hm, if_neg hm, if_neg hm]
    rw [decide_eq_false hm] at HM
    clear hm h
    go_enter Try.func26, Try.ntmps26
    go_wp2_with fail
    refine (HM.out w).mono ?_
    rintro e wx ⟨rfl, rfl⟩
    go_wp2_with fail
    go_ret
    exact ⟨rfl, HL.out, Kept.refl _ _⟩
  rw [if_pos hm, if_pos hm, if_pos hm]
  rw [decide_eq_true hm] at HM
  clear hm h
  go_enter Try.func26, Try.ntmps26
  go_wp2_with fail
  refine (HM.out w).mono ?_
  rintro e wx ⟨rfl, rfl⟩
  go_wp2_with fail
  refine (HREC.out w).mono ?_
  rintro e w5 ⟨rfl, hb5⟩
  have hrl5 := HL.out.below hb5
  obtain ⟨⟨-, y1, y2⟩, -, z1, z2⟩ := box3 hrl5
  obtain ⟨⟨-, -, x2⟩, -, -, e2⟩ := box3 ((set_box3 hrl5).2.1 (.string ⟨(recF l).toArray⟩))
  have HB5 := Lib.hid hb5
  clear hb5 hrl5
  go_wp2_with fail
  go_ret
  have hend := rset2 (x := recF l) HL.out HB5.out
  exact ⟨rfl, hend.1, hend.2⟩

def RSyncR (sy wa : List UInt8) (bg : Bool) (g : Nat) (w : World) (e : Ending) (w' : World) : Prop :=
  e = .returned (.tuple #[]) ∧ RLogAt w' g (synF sy wa bg) [] false ∧ Kept [g] w w'
theorem rset3 {w w1 : World} {g : Nat} {sy wa x : List UInt8} {bg : Bool} (h : RLogAt w1 g sy wa bg) (hk : Kept [g] w w1) :
    RLogAt (((w1.setCell ⟨g, 0, none⟩ (.string ⟨x.toArray⟩)).setCell ⟨g, 1, none⟩ (.string ⟨#[]⟩)).setCell ⟨g, 2, none⟩ (.bool false)) g x [] false ∧ Kept [g] w (((w1.setCell ⟨g, 0, none⟩ (.string ⟨x.toArray⟩)).setCell ⟨g, 1, none⟩ (.string ⟨#[]⟩)).setCell ⟨g, 2, none⟩ (.bool false)) :=
  ⟨(set_box3 ((set_box3 ((set_box3 h).1 _)).2.1 _)).2.2 _, ((hk.set (by simp) 0 _).set (by simp) 1 _).set (by simp) 2 _⟩
set_option maxRecDepth 100000 in
set_option maxHeartbeats 2000000 in
theorem rsync_any (sy wa : List UInt8) (bg : Bool) (g : Nat) (hl : sy.length + wa.length ≤ 1000000) (w : World) (h : RLogAt w g sy wa bg) :
    Calls Try.prog 28 #[.pointer (some ⟨g, 0, none⟩)] w (RSyncR sy wa bg g w) := by
  have HL := Lib.hid h
  obtain ⟨⟨c0, c1, c2⟩, f0, f1, f2⟩ := box3 h
  have hsum : ¬ 9223372036854775807 < sy.length + wa.length := by omega
  have hsum2 : ¬ 9223372036854775807 < wa.length := by omega
  cases bg with
  | false =>
    clear h
    go_enter Try.func28, Try.ntmps28
    go_wp2_with fail
    go_region
    all_goals
      go_end0
      rw [cat_list]
      have hend := rset3 (x := sy ++ wa) HL.out (Kept.refl [g] w)
      exact ⟨rfl, hend.1, hend.2.drew⟩
  | true =>
    obtain ⟨w1, hw1⟩ : ∃ w1, w1 = w.setCell ⟨g, 0, none⟩ (.string ⟨#[]⟩) := ⟨_, rfl⟩
    have hr1 : RLogAt w1 g [] wa true := by rw [hw1]; exact (set_box3 h).1 _
    have hk1 : Kept [g] w w1 := by rw [hw1]; exact (Kept.refl [g] w).set (by simp) 0 _
    have HW1 := Lib.hid hw1
    have HR1 := Lib.hid hr1
    have HK1 := Lib.hid hk1
    clear h hw1 hr1 hk1 c1
    go_enter Try.func28, Try.ntmps28
    go_wp2_with fail
    rw [← HW1.out]
    clear c0 c2 f0 f1 f2
    obtain ⟨⟨c0, c1, c2⟩, f0, f1, f2⟩ := box3 HR1.out
    go_region
    all_goals
      go_end0
      have hend := rset3 (x := wa) HR1.out HK1.out
      exact ⟨rfl, by first | exact hend.1 | (rw [cat_list]; exact hend.1), by first | exact hend.2.drew | (rw [cat_list]; exact hend.2.drew)⟩

def RCrashR (sy wa : List UInt8) (bg : Bool) (keep : Int) (w : World) (e : Ending) (w' : World) : Prop :=
  e = .returned (.string ⟨(crF sy wa bg keep).toArray⟩) ∧ Below w.heap.size w w'
set_option maxRecDepth 100000 in
set_option maxHeartbeats 2000000 in
theorem rcrash_any (sy wa : List UInt8) (bg : Bool) (keep : Int) (g : Nat) (hl : sy.length + wa.length ≤ 1000000) (w : World) (h : RLogAt w g sy wa bg) :
    Calls Try.prog 30 #[.pointer (some ⟨g, 0, none⟩), .int .i64 keep] w (RCrashR sy wa bg keep w) := by
  obtain ⟨⟨c0, c1, c2⟩, -⟩ := box3 h
  unfold RCrashR
  cases bg with
  | true =>
    have hcr : crF sy wa true keep = sy := by unfold crF; simp
    rw [hcr]
    clear h c1 hcr
    go_enter Try.func30, Try.ntmps30
    go_wp2_with fail
    go_ret
    exact ⟨rfl, Below.refl _ _⟩
  | false =>
    obtain ⟨K, hK⟩ : ∃ K, K = keepF keep wa.length := ⟨_, rfl⟩
    have hKl : K ≤ wa.length := by rw [hK]; exact keepF_le _ _
    have hcr : crF sy wa false keep = sy ++ wa.take K := by unfold crF; rw [hK]; rfl
    rw [hcr]
    obtain ⟨z, hz⟩ : ∃ z, min keep (wa.length : Int) = z := ⟨_, rfl⟩
    have hmax : max (0 : Int) z = (K : Int) := by rw [hK]; unfold keepF; omega
    have hto := str_to wa K hKl
    have hs : (⟨wa.toArray⟩ : ByteArray).size = wa.length := rfl
    have hsum : ¬ 9223372036854775807 < sy.length + (wa.take K).length := by simp; omega
    have hsum2 : ¬ 9223372036854775807 < sy.length + min K wa.length := by omega
    clear h hcr hK
    go_enter Try.func30, Try.ntmps30
    go_wp2_with fail
    go_region
    all_goals
      go_wp2_with fail
      go_ret
      rw [← cat_list]
      exact ⟨rfl, below_drew w⟩

end Go.Proofs.Ytifgkmaaglaffaa.Sg
