/-
  The document's has and NewTable, walked.
-/
import Derived.Test.YtkcccfllkgjdiaaDoorTlNew
namespace Go.Proofs.YtkcccfllkgjdiaaDoor.Tl
open Go.RowKit Rg
set_option linter.unusedVariables false

def rhasRel (w : World) (l : List Ar) (s : Int) (m : Nat) (v : Value) (wr : World) : Prop :=
  ∃ i : Nat, i ≤ l.length ∧ (∀ (j : Nat) (h : j < l.length), j < i → ¬ l[j].s = s) ∧ v = .int .i64 i ∧ m = l.length - i ∧ w = wr
set_option maxHeartbeats 1000000 in
theorem rhas_any (a : Option Addr) (cap : Nat) (l : List Ar) (s : Int) (w : World) (hf : AsAt w a cap l) :
    Calls Tryd.prog 21 #[.slice a l.length cap, .int .i64 s] w fun e w' => e = .returned (.bool (hasB l s)) ∧ w = w' := by
  have hcap := hf.max
  have hlen := hf.len
  unfold maxLen at hcap
  have HF := Lib.hid hf
  clear hf
  go_enter Tryd.func21, Tryd.ntmps21
  go_wp2_with fail
  go_loopg [5] l.length (rhasRel w l s)
  case atStart => exact ⟨0, Nat.zero_le _, fun j h hj => by omega, rfl, rfl, rfl⟩
  case round =>
    obtain ⟨i, hi, hno, rfl, rfl, rfl⟩ := hrel
    have HNO := Lib.hid hno
    clear hno
    by_cases hlt : i < l.length
    · have hlti : (i : Int) < (l.length : Int) := by omega
      have h0i : (0 : Int) ≤ (i : Int) := by omega
      obtain ⟨b, o, rfl, c0, c1⟩ := AsAt.get HF.out i hlt
      by_cases hs : l[i].s = s
      · have HR : Hid (hasB l s = true) := Lib.hid ((has_iff _ _).2 ⟨_, List.getElem_mem hlt, hs⟩)
        have es : (l[i].s == s) = true := by rw [beq_iff_eq]; exact hs
        clear hs
        go_wp2_with fail
        go_ret
        exact ⟨by rw [HR.out]; rfl, rfl⟩
      · have HS := Lib.hid hs
        have es : (l[i].s == s) = false := by rw [beq_eq_false_iff_ne]; exact hs
        clear hs
        go_wp2_with fail
        go_roundg (l.length - (i + 1))
        case measure => omega
        case rel =>
          refine ⟨i + 1, by omega, fun j h hj => ?_, by go_num, by simp, rfl⟩
          by_cases hji : j = i
          · subst hji; exact HS.out
          · exact HNO.out j h (by omega)
    · obtain rfl : i = l.length := by omega
      have HR : Hid (hasB l s = false) := Lib.hid (by
        rw [Bool.eq_false_iff]
        intro h
        obtain ⟨x, hx, e⟩ := (has_iff _ _).1 h
        obtain ⟨j, hj, rfl⟩ := List.getElem_of_mem hx
        exact HNO.out j hj hj e)
      go_wp2_with fail
      go_ret
      exact ⟨by rw [HR.out]; rfl, rfl⟩

def rnewRel (W2 : World) (ba : Option Addr) (bc : Nat) (l : List Ar) (k : Int) (n : Nat) (m : Nat) (u : Value) (wr : World) : Prop :=
  ∃ (i : Nat) (v : Value), i ≤ n ∧ u = .int .i64 i ∧ m = n - i ∧ wr.heap[W2.heap.size]? = some (.cells #[.int .i64 1, .slice ba l.length bc, v] 26 (0, 0)) ∧
    OwnW wr (W2.heap.size + 1) v (turnF l k i) ∧ Below W2.heap.size W2 wr
theorem set_other (w : World) (g i : Nat) (x : Value) (b : Nat) (h : b ≠ g) : (w.setCell ⟨g, i, none⟩ x).heap[b]? = w.heap[b]? := Below.heap_setCell _ _ _ _ h
/-- the box's last cell written. -/
theorem set_last {w : World} {g : Nat} {x y z z' : Value} {T : TypeId} (h : w.heap[g]? = some (.cells #[x, y, z] T (0, 0))) : (w.setCell ⟨g, 2, none⟩ z').heap[g]? = some (.cells #[x, y, z'] T (0, 0)) := by
  rw [set_heap h]
  simp

set_option maxRecDepth 100000 in
set_option maxHeartbeats 4000000 in
theorem rnew_any (a : Option Addr) (cap : Nat) (ws : List Int) (k : Int) (w : World) (hf : WsAt w a cap ws) :
    Calls Tryd.prog 7 #[.slice a ws.length cap, .int .i64 k] w (TaR (newT ws k) (newC ws k) w) := by
  have hb0 : Below w.heap.size w (w.alloc (.cells #[.int .i64 0, .slice none 0 0, .slice none 0 0] 26)) := (Below.refl _ _).alloc (Nat.le_refl _) _
  have HB0 := Lib.hid hb0
  have HBD := Lib.hid (rbuild_any a cap ws _ (hf.below hb0))
  have hwl := hf.len
  have hwm := hf.max
  unfold BuildR buildC buildL at HBD
  clear hf hb0
  by_cases h1 : 1 ≤ k ∧ k ≤ 4
  case neg =>
    have HR : Hid (¬ okN ws k) := Lib.hid fun h => h1 h.1
    by_cases h2 : k < 1
    · clear h1
      generalize (if MayW ws then (0 : Int) else 1) = c at *
      generalize (if MayW ws then ringW ws else []) = L at *
      go_enter Tryd.func7, Tryd.ntmps7
      go_wp2_with fail
      refine HBD.out.mono ?_
      rintro e w2 ⟨ba, bc, rfl, _, _, hb2⟩
      have HB2 := Lib.hid (HB0.out.trans (hb2.mono HB0.out.size))
      obtain ⟨⟨c0, c1, c2⟩, f0, f1, f2⟩ := box3 (box_kept hb2)
      clear hb2
      go_wp2_with fail
      refine bodyPost_ret (v := .tuple #[.agg #[.int .i64 0, .slice none 0 0, .slice none 0 0], .int .i64 1]) (by simp [results, Tryd.results7, go_sem, *]) rfl ?_
      exact newR_not HR.out _ _ (set3_below HB2.out (Nat.le_refl _) _ _ _)
    · have h3 : 4 < k := by omega
      clear h1
      generalize (if MayW ws then (0 : Int) else 1) = c at *
      generalize (if MayW ws then ringW ws else []) = L at *
      go_enter Tryd.func7, Tryd.ntmps7
      go_wp2_with fail
      refine HBD.out.mono ?_
      rintro e w2 ⟨ba, bc, rfl, _, _, hb2⟩
      have HB2 := Lib.hid (HB0.out.trans (hb2.mono HB0.out.size))
      obtain ⟨⟨c0, c1, c2⟩, f0, f1, f2⟩ := box3 (box_kept hb2)
      clear hb2
      go_wp2_with fail
      refine bodyPost_ret (v := .tuple #[.agg #[.int .i64 0, .slice none 0 0, .slice none 0 0], .int .i64 1]) (by simp [results, Tryd.results7, go_sem, *]) rfl ?_
      exact newR_not HR.out _ _ (set3_below HB2.out (Nat.le_refl _) _ _ _)
  have HK := Lib.hid h1
  have g1 : ¬ k < 1 := by omega
  have g2 : ¬ 4 < k := by omega
  have g3 : ¬ k = 0 := by omega
  clear h1
  by_cases h2 : MayW ws
  case neg =>
    have HR : Hid (¬ okN ws k) := Lib.hid fun h => h2 h.2
    rw [if_neg h2, if_neg h2] at HBD
    clear h2
    go_enter Tryd.func7, Tryd.ntmps7
    go_wp2_with fail
    refine HBD.out.mono ?_
    rintro e w2 ⟨ba, bc, rfl, _, _, hb2⟩
    have HB2 := Lib.hid (HB0.out.trans (hb2.mono HB0.out.size))
    obtain ⟨⟨c0, c1, c2⟩, f0, f1, f2⟩ := box3 (box_kept hb2)
    clear hb2
    go_wp2_with fail
    refine bodyPost_ret (v := .tuple #[.agg #[.int .i64 0, .slice none 0 0, .slice none 0 0], .int .i64 1]) (by simp [results, Tryd.results7, go_sem, *]) rfl ?_
    exact newR_not HR.out _ _ (set3_below HB2.out (Nat.le_refl _) _ _ _)
  have HO : Hid (okN ws k) := Lib.hid ⟨HK.out, h2⟩
  rw [if_pos h2, if_pos h2] at HBD
  have HWL : Hid (ws.length ≤ 16) := Lib.hid h2.2.1
  clear h2
  go_enter Tryd.func7, Tryd.ntmps7
  go_wp2_with fail
  refine HBD.out.mono ?_
  rintro e w2 ⟨ba, bc, rfl, hat2, _, hb2⟩
  have HB2 := Lib.hid (HB0.out.trans (hb2.mono HB0.out.size))
  have HAT2 := Lib.hid hat2
  have HBX := Lib.hid (box_kept hb2)
  have HSZ : Hid (w.heap.size < w2.heap.size) := Lib.hid (Array.getElem?_eq_some_iff.1 HBX.out).1
  clear hb2 hat2
  go_wp2_with fail
  go_loopg [9] ws.length (rnewRel w2 ba bc (ringW ws) k ws.length)
  case atStart =>
    exact ⟨0, _, Nat.zero_le _, rfl, rfl, heap_alloc_new w2 _, OwnW.nil _ _, (Below.refl w2.heap.size w2).alloc (Nat.le_refl _) _⟩
  case round =>
    obtain ⟨i, v, hi, rfl, rfl, hg, hown, hb⟩ := hrel
    have HG := Lib.hid hg
    have HOWN := Lib.hid hown
    have HAT := Lib.hid (HAT2.out.below hb)
    have HB := Lib.hid hb
    have HRB := Lib.hid ((hb.block _ HSZ.out).trans HBX.out)
    obtain ⟨⟨c0, c1, c2⟩, f0, f1, f2⟩ := box3 hg
    have hgs : w2.heap.size < wr.heap.size := (Array.getElem?_eq_some_iff.1 hg).1
    clear hg hown hb
    by_cases hlt : i < ws.length
    · have hlti : (i : Int) < (ws.length : Int) := by omega
      have h0i : (0 : Int) ≤ (i : Int) := by omega
      have HC := Lib.hid (rhas_any ba bc (ringW ws) i wr HAT.out)
      have HS := Lib.hid (turn_succ (ringW ws) k i)
      have hts : (turnF (ringW ws) k i).length ≤ 1000 := by rw [turn_length]; have := HWL.out; omega
      unfold turnN at HS
      have key : ∀ (x : Int) (g1 cap1 : Nat) (w1 : World), OwnW w1 (w2.heap.size + 1) (.slice (some ⟨g1, 0, none⟩) ((turnF (ringW ws) k i).length + 1) cap1) (turnF (ringW ws) k i ++ [x]) → wr.grownBy w1 v.ownBlock →
          turnF (ringW ws) k (i + 1) = turnF (ringW ws) k i ++ [x] →
          ((w1.cell? ⟨w2.heap.size, 2, none⟩ = some v ∧ w1.frozen? ⟨w2.heap.size, 2, none⟩ = false) ∧ rnewRel w2 ba bc (ringW ws) k ws.length (ws.length - (i + 1)) (.int .i64 (i + 1 : Nat)) (w1.setCell ⟨w2.heap.size, 2, none⟩ (.slice (some ⟨g1, 0, none⟩) ((turnF (ringW ws) k i).length + 1) cap1))) := by
        intro x g1 cap1 w1 hown1 hg1 he
        have hlow : ∀ b, b ≤ w2.heap.size → w1.heap[b]? = wr.heap[b]? := fun b hb => hg1.block b (by omega) (fun e => by
          have := (World.ownsRow.lt HOWN.out b e.symm).1
          omega)
        have hbx := (hlow _ (Nat.le_refl _)).trans HG.out
        obtain ⟨⟨_, _, d2⟩, _, _, e2⟩ := box3 hbx
        have hb1 := OwnW.grown (Below.refl (w2.heap.size + 1) wr) HOWN.out hg1 hgs
        refine ⟨⟨d2, e2⟩, i + 1, _, by omega, rfl, rfl, set_last hbx, ?_, ?_⟩
        · rw [he]
          have := own_kept (w' := w1.setCell ⟨w2.heap.size, 2, none⟩ (.slice (some ⟨g1, 0, none⟩) ((turnF (ringW ws) k i).length + 1) cap1)) hown1 (fun b hb _ => set_other _ _ _ _ _ (by omega))
          exact this
        · exact (HB.out.trans (hb1.mono (by omega))).setCell (p := ⟨w2.heap.size, 2, none⟩) (Nat.le_refl _) _
      have KEY := Lib.hid key
      clear key
      generalize turnF (ringW ws) k i = T at *
      generalize hasB (ringW ws) i = q at *
      cases q
      · simp only [Bool.false_eq_true, if_false] at HS
        go_wp2_with (first | (go_at_call 21; refine HC.out.mono ?_; rintro e w1 ⟨rfl, rfl⟩) | (at_builtin; refine put_w (-1) rfl (.tmp 42) (.tmp 44) rfl HOWN.out hgs (by omega) rfl _ rfl rfl ?_; intro g1 cap1 w1 hown1 hold1 hg1; obtain ⟨⟨d2, e2⟩, hrel1⟩ := KEY.out _ g1 cap1 w1 hown1 hg1 HS.out; have HREL := Lib.hid hrel1; clear hown1 hold1 hg1 hrel1))
        go_roundg (ws.length - (i + 1))
        case measure => omega
        case rel =>
          have h16 := HWL.out
          have e : Value.int .i64 (wrap64 ((i : Int) + 1)) = .int .i64 ((i + 1 : Nat) : Int) := by rw [IntWalk.wrap64_in _ (by omega)]; rfl
          rw [e]
          exact HREL.out
      · simp only [if_true] at HS
        go_wp2_with (first | (go_at_call 21; refine HC.out.mono ?_; rintro e w1 ⟨rfl, rfl⟩) | (at_builtin; refine put_w ((i : Int) % k) rfl (.tmp 42) (.tmp 44) rfl HOWN.out hgs (by omega) rfl _ rfl rfl ?_; intro g1 cap1 w1 hown1 hold1 hg1; obtain ⟨⟨d2, e2⟩, hrel1⟩ := KEY.out _ g1 cap1 w1 hown1 hg1 HS.out; have HREL := Lib.hid hrel1; clear hown1 hold1 hg1 hrel1))
        go_roundg (ws.length - (i + 1))
        case measure => omega
        case rel =>
          have h16 := HWL.out
          have e : Value.int .i64 (wrap64 ((i : Int) + 1)) = .int .i64 ((i + 1 : Nat) : Int) := by rw [IntWalk.wrap64_in _ (by omega)]; rfl
          rw [e]
          exact HREL.out
    · obtain rfl : i = ws.length := by omega
      obtain ⟨na, nc, rfl, hat3⟩ := OwnW.at HOWN.out
      obtain ⟨⟨r0, r1, r2⟩, s0, s1, s2⟩ := box3 HRB.out
      have hne : w2.heap.size ≠ w.heap.size := by have := HSZ.out; omega
      clear hat3
      go_wp2_with fail
      refine bodyPost_ret (v := .tuple #[.agg #[.int .i64 1, .slice ba (ringW ws).length bc, .slice na (turnF (ringW ws) k ws.length).length nc], .int .i64 0]) (by simp [results, Tryd.results7, go_sem, *]) rfl ?_
      have hk := set3_heap wr w.heap.size (.int .i64 1) (.slice ba (ringW ws).length bc) (.slice na (turnF (ringW ws) k ws.length).length nc)
      have hown4 := own_kept (w' := set3 wr w.heap.size (.int .i64 1) (.slice ba (ringW ws).length bc) (.slice na (turnF (ringW ws) k ws.length).length nc)) HOWN.out (fun b hb _ => hk b (by have := HSZ.out; omega))
      obtain ⟨na', nc', he, hat4⟩ := OwnW.at hown4
      obtain ⟨rfl, -, rfl⟩ := Value.slice.inj he
      exact newR_of HO.out (ars_other HAT.out HRB.out (box_ne (by simp) (by simp)) hk) hat4 rfl rfl (set3_below (HB2.out.trans (HB.out.mono HB2.out.size)) (Nat.le_refl _) _ _ _)

end Go.Proofs.YtkcccfllkgjdiaaDoor.Tl
