/-
  The document's put: an arc among others by its point, walked.
-/
import Derived.Test.YtkcccfllkgjdiaaDoorRgRows
import Derived.Deep.LoopGhost
import Derived.Deep.RegionHeld3
import Derived.Deep.AppendLies
namespace Go.Proofs.YtkcccfllkgjdiaaDoor.Rg
open Go.RowKit
set_option linter.unusedVariables false

/-- arcs that are read, of whatever memory. -/
def ArsR (l : List Ar) (w : World) (e : Ending) (w' : World) : Prop :=
  ∃ a cap, e = .returned (.slice a l.length cap) ∧ AsAt w' a cap l ∧ (a = none → cap = 0) ∧ Below w.heap.size w w'
theorem arsR_own {w w' : World} {base : Nat} {v : Value} {L M : List Ar} (h : OwnA w' base v M) (he : M = L) (h0 : 0 < L.length) (hb : Below w.heap.size w w') : ArsR L w (.returned v) w' := by
  subst he
  obtain ⟨a, cap, rfl, hat⟩ := OwnA.at h
  obtain ⟨b, hb'⟩ := hat.pos h0
  exact ⟨a, cap, rfl, hat, (fun e => by rw [e] at hb'; cases hb'), hb⟩
def putRel (W : World) (K : Nat) (m : Nat) (v : Value) (wr : World) : Prop := ∃ i : Nat, i ≤ K ∧ v = .int .i64 i ∧ m = K - i ∧ Drew W wr

set_option maxRecDepth 100000 in
set_option maxHeartbeats 2000000 in
theorem put_any (a : Option Addr) (cap : Nat) (l : List Ar) (x : Ar) (w : World) (hf : AsAt w a cap l) (hn : a = none → cap = 0) (h9 : l.length ≤ 100000) :
    Calls Tryd.prog 39 #[.slice a l.length cap, .agg #[.int .u32 x.f, .int .i64 x.s]] w (ArsR (putF l x) w) := by
  obtain ⟨K, hK, p1, p2, p3⟩ := put_at l x
  have hcap := hf.max
  have hlen := hf.len
  unfold maxLen at hcap
  obtain ⟨hfr, hrun1⟩ := AsAt.front hf hn K hK
  obtain ⟨a2, hbk, hn2, hrun2⟩ := AsAt.back hf hn K hK
  obtain ⟨W, hW⟩ : ∃ W, W = w.alloc (.cells #[.int .u32 x.f, .int .i64 x.s] 52) := ⟨_, rfl⟩
  have hWb : Below w.heap.size w W := by rw [hW]; exact (Below.refl _ _).alloc (Nat.le_refl _) _
  have hW0 : W.cell? ⟨w.heap.size, 0, none⟩ = some (.int .u32 x.f) := by rw [hW]; simp
  have hW1 : W.cell? ⟨w.heap.size, 1, none⟩ = some (.int .i64 x.s) := by rw [hW]; simp
  have hWs : W.heap.size = w.heap.size + 1 := by rw [hW]; simp
  have HF := Lib.hid hf
  have HW := Lib.hid hW
  have HWB := Lib.hid hWb
  have HWC := Lib.hid (And.intro hW0 hW1)
  have HWS := Lib.hid hWs
  have HFR := Lib.hid hfr
  have HBK := Lib.hid hbk
  have HR1 := Lib.hid hrun1
  have HR2 := Lib.hid hrun2
  have HP1 := Lib.hid p1
  have HP2 := Lib.hid p2
  have HP3 := Lib.hid p3
  have HN := Lib.hid hn
  have HN2 := Lib.hid hn2
  clear hf hW hWb hW0 hW1 hWs hfr hbk hrun1 hrun2 p1 p2 p3 hn hn2
  go_enter Tryd.func39, Tryd.ntmps39
  go_wp2_with fail
  rw [← HW.out]
  go_loopg [5] K (putRel W K)
  case atStart => exact ⟨0, Nat.zero_le _, rfl, rfl, Drew.refl _⟩
  case round =>
    obtain ⟨i, hi, rfl, rfl, hd⟩ := hrel
    have HD := Lib.hid hd
    have c0 := (cell_of_below hd.below (by rw [HWS.out]; omega)).trans HWC.out.1
    have c1 := (cell_of_below hd.below (by rw [HWS.out]; omega)).trans HWC.out.2
    have HF1 := Lib.hid (HF.out.below (HWB.out.trans (hd.below.mono HWB.out.size)))
    clear hd
    have h0i : (0 : Int) ≤ (i : Int) := by omega
    by_cases hlt : i < K
    · have hil : i < l.length := by omega
      have hlti : (i : Int) < (l.length : Int) := by omega
      obtain ⟨b, o, rfl, d0, d1⟩ := AsAt.get HF1.out i hil
      have hq := HP1.out i hil hlt
      go_wp2_with fail
      go_quiet (fail)
      go_wp2_with fail
      go_roundg (K - (i + 1))
      case measure => omega
      case rel => exact ⟨i + 1, by omega, by go_num, by simp, HD.out.more _⟩
    · obtain rfl : i = K := by omega
      by_cases hil : i < l.length
      · have hlti : (i : Int) < (l.length : Int) := by omega
        obtain ⟨b, o, rfl, d0, d1⟩ := AsAt.get HF1.out i hil
        obtain ⟨q1, q2, q3⟩ := HP2.out hil
        have Q2 := Lib.hid q2
        have Q3 := Lib.hid q3
        have q4 : x.f ≤ l[i].f := by omega
        clear q2 q3
        go_wp2_with fail
        go_quiet (fail)
        clear c0 c1 d0 d1
        obtain ⟨w2, hw2⟩ : ∃ w2, w2 = wr.drewN nq := ⟨_, rfl⟩
        have hdw2 : Drew W w2 := by rw [hw2]; exact HD.out.more _
        rw [← hw2]
        clear hw2
        have HDw2 := Lib.hid hdw2
        have c0 := (cell_of_below hdw2.below (by rw [HWS.out]; omega)).trans HWC.out.1
        have c1 := (cell_of_below hdw2.below (by rw [HWS.out]; omega)).trans HWC.out.2
        obtain ⟨b', o', he, d0, d1⟩ := AsAt.get (HF.out.below (HWB.out.trans (hdw2.below.mono HWB.out.size))) i hil
        injection he with he
        injection he with e2 e3
        subst e2 e3
        clear HD
        by_cases he : l[i].f = x.f
        · have es : (l[i].f == x.f) = true := by rw [beq_iff_eq]; exact he
          have HR := Lib.hid (Q2.out he)
          clear he Q2 Q3
          go_wp2_with fail
          go_quiet (fail)
          clear c0 c1
          obtain ⟨w3, hw3⟩ : ∃ w3, w3 = w2.drewN nq := ⟨_, rfl⟩
          have hdw3 : Drew W w3 := by rw [hw3]; exact HDw2.out.more _
          rw [← hw3]
          clear hw3
          have HDw3 := Lib.hid hdw3
          have c0 := (cell_of_below hdw3.below (by rw [HWS.out]; omega)).trans HWC.out.1
          have c1 := (cell_of_below hdw3.below (by rw [HWS.out]; omega)).trans HWC.out.2
          go_wp2_with fail
          go_ret
          refine ⟨_, cap, by rw [HR.out]; rfl, ?_, HN.out, HWB.out.trans (hdw3.below.mono HWB.out.size)⟩
          rw [HR.out]
          exact HF.out.below (HWB.out.trans (hdw3.below.mono HWB.out.size))
        · have es : (l[i].f == x.f) = false := by rw [beq_eq_false_iff_ne]; exact he
          have HR := Lib.hid (Q3.out he)
          clear he Q2 Q3
          go_wp2_with fail
          go_quiet (fail)
          clear c0 c1
          obtain ⟨w3, hw3⟩ : ∃ w3, w3 = w2.drewN nq := ⟨_, rfl⟩
          have hdw3 : Drew W w3 := by rw [hw3]; exact HDw2.out.more _
          rw [← hw3]
          clear hw3
          have HDw3 := Lib.hid hdw3
          have c0 := (cell_of_below hdw3.below (by rw [HWS.out]; omega)).trans HWC.out.1
          have c1 := (cell_of_below hdw3.below (by rw [HWS.out]; omega)).trans HWC.out.2
          have ho3 : OwnA (w3.alloc (.cells #[] 52)) W.heap.size (.slice (some ⟨w3.heap.size, 0, none⟩) 0 0) [] := World.ownsRow_made w3 #[] 0 hdw3.below.size (by decide) (by simp)
          have hb3 : Below W.heap.size W (w3.alloc (.cells #[] 52)) := hdw3.below.alloc hdw3.below.size _
          have HO3 := Lib.hid ho3
          have HB3 := Lib.hid hb3
          have hr1 := HR1.out
          have hltk : (l.take i).length ≤ 100000 := by simp; omega
          clear ho3 hb3 c0 c1 hdw3
          go_wp2_with (at_builtin; refine put_rows (m := l.take i) rfl (.tmp 38) (.tmp 41) rfl HO3.out HB3.out.size rfl _ rfl (by rw [List.length_take]; omega) (HFR.out.below (HWB.out.trans (HB3.out.mono HWB.out.size))) (by rw [List.length_take, List.length_nil]; omega) HN.out ?_; intro v4 w4 hown4 hg4; rw [List.nil_append] at hown4; have HOWN4 := Lib.hid hown4; have HB4 := Lib.hid (OwnA.grown HB3.out HO3.out hg4 HB3.out.size); clear hown4 hg4)
          have hr2 := HR2.out
          have e0 := (cell_of_below HB4.out (by rw [HWS.out]; omega)).trans HWC.out.1
          have e1 := (cell_of_below HB4.out (by rw [HWS.out]; omega)).trans HWC.out.2
          have hs4 : W.heap.size ≤ w4.heap.size := HB4.out.size
          have HO4 := Lib.hid (OwnA.below1 HOWN4.out ((Below.refl _ w4).drew))
          have HKEEP := Lib.hid (show ∀ wx, Below W.heap.size W wx → wx.cell? ⟨w.heap.size, 0, none⟩ = some (.int .u32 x.f) ∧ wx.cell? ⟨w.heap.size, 1, none⟩ = some (.int .i64 x.s) from fun wx h => ⟨(cell_of_below h (by rw [HWS.out]; omega)).trans HWC.out.1, (cell_of_below h (by rw [HWS.out]; omega)).trans HWC.out.2⟩)
          have hd4 : Below W.heap.size W w4.drew := HB4.out.drew
          have HB4D := Lib.hid hd4
          have HB4A := Lib.hid (hd4.alloc (w := w4.drew) hs4 (.cells #[.int .u32 x.f, .int .i64 x.s] 52))
          clear hd4
          go_region_held3 (fun wx => wx.cell? ⟨w.heap.size, 0, none⟩ = some (.int .u32 x.f) ∧ wx.cell? ⟨w.heap.size, 1, none⟩ = some (.int .i64 x.s))
            (first | exact HKEEP.out _ HB4D.out | exact HKEEP.out _ HB4A.out | exact HKEEP.out _ HB5.out | exact HKEEP.out _ HB6.out | assumption)
            (first | (refine step_put_ar (w := w4.drew) x rfl (.tmp 43) (.tmp 45) rfl HO4.out hs4 (by rw [List.length_take]; omega) rfl _ rfl rfl ?_; intro g5 cap5 w5 hown5 hg5; have HOWN5 := Lib.hid hown5; have HB5 := Lib.hid (OwnA.grown HB4D.out HO4.out hg5 hs4); clear hown5 hg5) | (refine step_put_rows (m := l.drop i) rfl (.tmp 46) (.tmp 49) rfl HOWN5.out HB5.out.size rfl _ rfl (by simp) (HBK.out.below (HWB.out.trans (HB5.out.mono HWB.out.size))) (by rw [List.length_append, List.length_take, List.length_drop, List.length_cons, List.length_nil]; omega) HN2.out ?_; intro v6 w6 hown6 hg6; have HOWN6 := Lib.hid hown6; have HB6 := Lib.hid (OwnA.grown HB5.out HOWN5.out hg6 HB5.out.size); clear hown6 hg6))
          rename_i hHeld
          clear hHeld
          go_wp2_with fail
          go_ret
          exact arsR_own (v := v6) HOWN6.out (by rw [HR.out, List.append_assoc]; rfl) (by rw [HR.out, List.length_append, List.length_cons]; omega) (HWB.out.trans (HB6.out.mono HWB.out.size))
      · obtain rfl : i = l.length := by omega
        have HR := Lib.hid (HP3.out rfl)
        have hlti : ¬ (l.length : Int) < (l.length : Int) := by omega
        go_wp2_with fail
        go_quiet (fail)
        clear c0 c1
        obtain ⟨w2, hw2⟩ : ∃ w2, w2 = wr.drewN nq := ⟨_, rfl⟩
        have hdw2 : Drew W w2 := by rw [hw2]; exact HD.out.more _
        rw [← hw2]
        clear hw2
        have HDw2 := Lib.hid hdw2
        have c0 := (cell_of_below hdw2.below (by rw [HWS.out]; omega)).trans HWC.out.1
        have c1 := (cell_of_below hdw2.below (by rw [HWS.out]; omega)).trans HWC.out.2
        clear HD
        go_wp2_with fail
        go_quiet (fail)
        clear c0 c1
        obtain ⟨w3, hw3⟩ : ∃ w3, w3 = w2.drewN nq := ⟨_, rfl⟩
        have hdw3 : Drew W w3 := by rw [hw3]; exact HDw2.out.more _
        rw [← hw3]
        clear hw3
        have HDw3 := Lib.hid hdw3
        have c0 := (cell_of_below hdw3.below (by rw [HWS.out]; omega)).trans HWC.out.1
        have c1 := (cell_of_below hdw3.below (by rw [HWS.out]; omega)).trans HWC.out.2
        have ho3 : OwnA (w3.alloc (.cells #[] 52)) W.heap.size (.slice (some ⟨w3.heap.size, 0, none⟩) 0 0) [] := World.ownsRow_made w3 #[] 0 hdw3.below.size (by decide) (by simp)
        have hb3 : Below W.heap.size W (w3.alloc (.cells #[] 52)) := hdw3.below.alloc hdw3.below.size _
        have HO3 := Lib.hid ho3
        have HB3 := Lib.hid hb3
        have hr1 := HR1.out
        have hltk : (l.take l.length).length ≤ 100000 := by rw [List.length_take]; omega
        clear ho3 hb3 c0 c1 hdw3
        go_wp2_with (at_builtin; refine put_rows (m := l.take l.length) rfl (.tmp 38) (.tmp 41) rfl HO3.out HB3.out.size rfl _ rfl (by rw [List.length_take]; omega) (HFR.out.below (HWB.out.trans (HB3.out.mono HWB.out.size))) (by rw [List.length_take, List.length_nil]; omega) HN.out ?_; intro v4 w4 hown4 hg4; rw [List.nil_append] at hown4; have HOWN4 := Lib.hid hown4; have HB4 := Lib.hid (OwnA.grown HB3.out HO3.out hg4 HB3.out.size); clear hown4 hg4)
        have hr2 := HR2.out
        have e0 := (cell_of_below HB4.out (by rw [HWS.out]; omega)).trans HWC.out.1
        have e1 := (cell_of_below HB4.out (by rw [HWS.out]; omega)).trans HWC.out.2
        have hs4 : W.heap.size ≤ w4.heap.size := HB4.out.size
        have HO4 := Lib.hid (OwnA.below1 HOWN4.out ((Below.refl _ w4).drew))
        have HKEEP := Lib.hid (show ∀ wx, Below W.heap.size W wx → wx.cell? ⟨w.heap.size, 0, none⟩ = some (.int .u32 x.f) ∧ wx.cell? ⟨w.heap.size, 1, none⟩ = some (.int .i64 x.s) from fun wx h => ⟨(cell_of_below h (by rw [HWS.out]; omega)).trans HWC.out.1, (cell_of_below h (by rw [HWS.out]; omega)).trans HWC.out.2⟩)
        have hd4 : Below W.heap.size W w4.drew := HB4.out.drew
        have HB4D := Lib.hid hd4
        have HB4A := Lib.hid (hd4.alloc (w := w4.drew) hs4 (.cells #[.int .u32 x.f, .int .i64 x.s] 52))
        clear hd4
        go_region_held3 (fun wx => wx.cell? ⟨w.heap.size, 0, none⟩ = some (.int .u32 x.f) ∧ wx.cell? ⟨w.heap.size, 1, none⟩ = some (.int .i64 x.s))
          (first | exact HKEEP.out _ HB4D.out | exact HKEEP.out _ HB4A.out | exact HKEEP.out _ HB5.out | exact HKEEP.out _ HB6.out | assumption)
          (first | (refine step_put_ar (w := w4.drew) x rfl (.tmp 43) (.tmp 45) rfl HO4.out hs4 (by rw [List.length_take]; omega) rfl _ rfl rfl ?_; intro g5 cap5 w5 hown5 hg5; have HOWN5 := Lib.hid hown5; have HB5 := Lib.hid (OwnA.grown HB4D.out HO4.out hg5 hs4); clear hown5 hg5) | (refine step_put_rows (m := l.drop l.length) rfl (.tmp 46) (.tmp 49) rfl HOWN5.out HB5.out.size rfl _ rfl (by simp) (HBK.out.below (HWB.out.trans (HB5.out.mono HWB.out.size))) (by rw [List.length_append, List.length_take, List.length_drop, List.length_cons, List.length_nil]; omega) HN2.out ?_; intro v6 w6 hown6 hg6; have HOWN6 := Lib.hid hown6; have HB6 := Lib.hid (OwnA.grown HB5.out HOWN5.out hg6 HB5.out.size); clear hown6 hg6))
        rename_i hHeld
        clear hHeld
        go_wp2_with fail
        go_ret
        exact arsR_own (v := v6) HOWN6.out (by rw [HR.out, List.append_assoc]; rfl) (by rw [HR.out, List.length_append, List.length_cons]; omega) (HWB.out.trans (HB6.out.mono HWB.out.size))

end Go.Proofs.YtkcccfllkgjdiaaDoor.Rg
