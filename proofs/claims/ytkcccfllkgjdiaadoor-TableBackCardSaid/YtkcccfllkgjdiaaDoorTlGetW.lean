/-
  table.Get, walked.
-/
import Derived.Test.YtkcccfllkgjdiaaDoorTlGet
import Derived.Deep.RegionLaw
namespace Go.Proofs.YtkcccfllkgjdiaaDoor.Tl
open Go.RowKit Rg
set_option linter.unusedVariables false

def GetTR (l : List UInt8) (w : World) (e : Ending) (w' : World) : Prop :=
  ∃ aa ac na nc, e = .returned (.tuple #[.agg #[.int .i64 (gotT l).ep, .slice aa (gotT l).arcs.length ac, .slice na (gotT l).nodes.length nc], .int .i64 (gotC l)]) ∧ TaAt w' aa ac na nc (gotT l) ∧ Below w.heap.size w w'
theorem getR_not {l : List UInt8} (h : ¬ okG l) {w w' : World} (hb : Below w.heap.size w w') : GetTR l w (.returned (.tuple #[.agg #[.int .i64 0, .slice none 0 0, .slice none 0 0], .int .i64 2])) w' := by
  unfold GetTR
  rw [(none_got h).1, (none_got h).2]
  exact ⟨none, 0, none, 0, rfl, ⟨RowsAt.nil _ _ _ _ _ (by simp [maxLen]), RowsAt.nil _ _ _ _ _ (by simp [maxLen])⟩, hb⟩
theorem num_int {k : Nat} {l : List UInt8} (hk : k ≤ 4) : IntKind.i64.wrap ((numP k l).1 : Int) = ((numP k l).1 : Int) := by
  have h := num_lt k l
  have h2 : (256 : Nat) ^ k ≤ 256 ^ 4 := Nat.pow_le_pow_right (by decide) hk
  exact IntWalk.i64_in _ (by omega)

theorem rd_cells {T : TypeId} {B : Nat} {w : World} {g : Nat} {l : List UInt8} {bad : Bool} (h : Rd T B w g l bad) : (∃ a c, w.cell? ⟨g, 0, none⟩ = some (.slice a l.length c)) ∧ w.cell? ⟨g, 1, none⟩ = some (.bool bad) := by
  obtain ⟨v, hg, a, cap, rfl, _⟩ := h
  exact ⟨⟨a, cap, by rw [cell_of_row w _ _ _ _ _ hg]; rfl⟩, by rw [cell_of_row w _ _ _ _ _ hg]; rfl⟩

set_option maxRecDepth 100000 in
set_option maxHeartbeats 8000000 in
theorem get_any (a : Option Addr) (cap : Nat) (l : List UInt8) (hl : l.length ≤ cap) (hcap : cap ≤ maxLen) (w : World) (hat : BytesAt w.heap.size w a l) :
    Calls Tryd.prog 11 #[.slice a l.length cap] w (GetTR l w) := by
  obtain ⟨W1, hW1⟩ : ∃ W1, W1 = (w.alloc (.cells #[.int .i64 0, .slice none 0 0, .slice none 0 0] 26)).alloc (.cells #[.slice a l.length cap, .bool false] 54) := ⟨_, rfl⟩
  have hbx := tabox (w := w) (.cells #[.int .i64 0, .slice none 0 0, .slice none 0 0] 26) (.cells #[.slice a l.length cap, .bool false] 54)
  rw [← hW1] at hbx
  obtain ⟨hx, hy, hb0, hWs⟩ := hbx
  have hrd : Rd RdT w.heap.size W1 (w.heap.size + 1) l false := ⟨_, hy, a, cap, rfl, hl, hcap, hat.below hb0⟩
  have HRD := Lib.hid hrd
  have HX := Lib.hid hx
  have HB0 := Lib.hid hb0
  have HWS := Lib.hid hWs
  have HW1 := Lib.hid hW1
  clear hrd hx hy hb0 hWs hW1 hat
  go_enter Tryd.func11, Tryd.ntmps11
  go_wp2_with fail
  refine wp_scope_falls (getJ w (.slice a l.length cap) (w.heap.size + 1) ((headP l).1 : Int) l) ?_ ?_
  · intro H _ hbk
    have HBK := Lib.hid hbk
    clear hbk
    go_wp2_with fail
    rw [← HW1.out]
    refine (number_any (w.heap.size + 1) 4 (by omega) l false _ HRD.out).mono ?_
    rintro e w1 ⟨rfl, hr1, hg1⟩
    have he := num_int (k := 4) (l := l) (by omega)
    have HR1 := Lib.hid hr1
    have HG1 := Lib.hid hg1
    clear hr1 hg1
    obtain ⟨W2, hW2⟩ : ∃ W2, W2 = w1.alloc (.cells #[.int .i64 ((numP 4 l).1 : Int), .slice none 0 0, .slice none 0 0] 26) := ⟨_, rfl⟩
    have HW2 := Lib.hid hW2
    clear hW2
    go_wp2_with fail
    rw [← HW2.out]
    have hg2 : Rd RdT w.heap.size W2 (w.heap.size + 1) (numP 4 l).2.1 (false || (numP 4 l).2.2) := by rw [HW2.out]; exact HR1.out.alloc _
    refine (number_any (w.heap.size + 1) 1 (by omega) _ _ _ hg2).mono ?_
    rintro e w3 ⟨rfl, hr3, hg3⟩
    have hst0 : GSt w (w.heap.size + 1) w1.heap.size ((numP 4 l).1 : Int) W2 (numP 4 l).2.1 (false || (numP 4 l).2.2) (.slice none 0 0) (.slice none 0 0) [] [] := by
      have s1 := HG1.out.size
      have sW := HWS.out
      have hb1 : Below w.heap.size w w1 := (HB0.out).grown HG1.out (by omega) (fun k e => by cases e; omega)
      refine ⟨hg2, ?_, OwnA.nil _ _, OwnW.nil _ _, ?_, ?_, rfl, by omega⟩
      · rw [HW2.out]; exact heap_alloc_new _ _
      · rw [HW2.out, Below.heap_alloc _ _ _ (by omega), HG1.out.block _ (by omega) (by simp)]
        exact HX.out
      · rw [HW2.out]; exact hb1.alloc (by omega) _
    have HST := Lib.hid (hst0.num hr3 hg3)
    have hlt := num1_lt (numP 4 l).2.1
    have hhd : (headP l).2.2.2 = (false || (numP 4 l).2.2 || (numP 1 (numP 4 l).2.1).2.2) := by unfold headP; simp
    have HMID : Hid (nodesQ (false || (numP 4 l).2.2 || (numP 1 (numP 4 l).2.1).2.2) (numP 1 (numP 4 l).2.1).1 [] (numP 1 (numP 4 l).2.1).2.1 = midP l) := Lib.hid (by unfold midP; rw [hhd]; rfl)
    clear hr3 hg3 hg2 hst0 hhd
    go_wp2_with fail
    go_step3
    rename_i hK
    refine hK _ _ (HBK.out 0 _ _ _ _ rfl (.inl ⟨rfl, w1.heap.size, _, [], _, _, _, ⟨_, _, _, _, _, _, _, _⟩, ⟨_, _, _, _, _, _, _, _⟩, ⟨_, _, _, _, _, _, _, _⟩, ⟨_, _, _, _, _, _, _, _⟩, ⟨_, _, _, _, _, _, _, _⟩, ⟨_, _, _, _, _, _, _, _⟩, ⟨_, _, _, _, _, _, _, _⟩, ⟨_, _, undef, undef, undef, undef, undef, undef⟩, rfl, rfl, HST.out, HMID.out, by simp; omega⟩))
  · rintro lb n a' w' (⟨rfl, T, left, N, rest, bad, vn, ⟨u7, u8, u9, u10, u11, u12, u13, u14⟩, ⟨u15, u16, u17, u18, u19, u20, u21, u22⟩, ⟨u23, u24, u25, u26, u27, u28, u29, u30⟩, ⟨u31, u32, u33, u34, u35, u36, u37, u38⟩, ⟨u39, u40, u41, u42, u43, u44, u45, u46⟩, ⟨u47, u48, u49, u50, u51, u52, u53, u54⟩, ⟨u55, u56, u57, u58, u59, u60, u61, u62⟩, ⟨u63, u64, u65, u66, u67, u68, u69, u70⟩, rfl, rfl, hst, hq, hlen⟩ | ⟨rfl, T, left, A, N, rest, bad, va, vn, ⟨u7, u8, u9, u10, u11, u12, u13, u14⟩, ⟨u15, u16, u17, u18, u19, u20, u21, u22⟩, ⟨u23, u24, u25, u26, u27, u28, u29, u30⟩, ⟨u31, u32, u33, u34, u35, u36, u37, u38⟩, ⟨u39, u40, u41, u42, u43, u44, u45, u46⟩, ⟨u47, u48, u49, u50, u51, u52, u53, u54⟩, ⟨u55, u56, u57, u58, u59, u60, u61, u62⟩, ⟨u63, u64, u65, u66, u67, u68, u69, u70⟩, rfl, rfl, hst, hN, hq, hlen⟩)
    · refine ⟨_, rfl, fun H hH hF => ?_⟩
      have HH := Lib.hid hH
      have HF := Lib.hid hF
      have HST := Lib.hid hst
      have HQ := Lib.hid hq
      clear hH hF hst hq
      dsimp only
      obtain ⟨-, hrc⟩ := rd_cells HST.out.rd
      have hl8 : left < 256 := by omega
      by_cases h0 : bad = true ∨ left = 0
      case pos =>
        have hmid := nodesQ_stop h0 N rest
        rw [HQ.out] at hmid
        have HMD := Lib.hid hmid
        have hnum := number_any (T := RdT) (B := w.heap.size) (w.heap.size + 1) 2 (by omega) rest bad w' HST.out.rd
        have HNUM := Lib.hid hnum
        have hlt2 := num_lt 2 rest
        have HEND : Hid (arcsQ (bad || (numP 2 rest).2.2) (numP 2 rest).1 [] (numP 2 rest).2.1 = endP l) := Lib.hid (by unfold endP; rw [hmid])
        clear hmid hnum
        by_cases hz : left = 0
        · subst hz
          clear h0
          go_wp2_with fail
          refine HNUM.out.mono ?_
          rintro e w3 ⟨rfl, hr3, hg3⟩
          have HS3 := Lib.hid (HST.out.num hr3 hg3)
          clear hr3 hg3
          go_wp2_with fail
          go_step3
          rename_i hK
          refine hK _ _ (HF.out 1 _ _ _ _ ?_ rfl (.inr ⟨rfl, T, _, [], N, _, _, _, _, ⟨_, _, _, _, _, _, _, _⟩, ⟨_, _, _, _, _, _, _, _⟩, ⟨_, _, _, _, _, _, _, _⟩, ⟨_, _, _, _, _, _, _, _⟩, ⟨_, _, _, _, _, _, _, _⟩, ⟨_, _, _, _, _, _, _, _⟩, ⟨_, _, _, _, _, _, _, _⟩, ⟨_, _, undef, undef, undef, undef, undef, undef⟩, rfl, rfl, HS3.out, by rw [HMD.out], HEND.out, by simp; omega⟩))
          omega
        · obtain rfl : bad = true := by rcases h0 with h | h <;> first | exact h | exact absurd h hz
          have hpos : (0 : Int) < (left : Int) := by omega
          clear h0 hz
          go_wp2_with fail
          refine HNUM.out.mono ?_
          rintro e w3 ⟨rfl, hr3, hg3⟩
          have HS3 := Lib.hid (HST.out.num hr3 hg3)
          clear hr3 hg3
          go_wp2_with fail
          go_step3
          rename_i hK
          refine hK _ _ (HF.out 1 _ _ _ _ ?_ rfl (.inr ⟨rfl, T, _, [], N, _, _, _, _, ⟨_, _, _, _, _, _, _, _⟩, ⟨_, _, _, _, _, _, _, _⟩, ⟨_, _, _, _, _, _, _, _⟩, ⟨_, _, _, _, _, _, _, _⟩, ⟨_, _, _, _, _, _, _, _⟩, ⟨_, _, _, _, _, _, _, _⟩, ⟨_, _, _, _, _, _, _, _⟩, ⟨_, _, undef, undef, undef, undef, undef, undef⟩, rfl, rfl, HS3.out, by rw [HMD.out], HEND.out, by simp; omega⟩))
          omega
      have hbad : bad = false := by cases bad <;> simp_all
      subst hbad
      obtain ⟨k, rfl⟩ : ∃ k, left = k + 1 := ⟨left - 1, by omega⟩
      have hpos : (0 : Int) < ((k + 1 : Nat) : Int) := by omega
      have HD := Lib.hid HST.out.drew
      obtain ⟨xn, xc, rfl, hxn⟩ := OwnW.at HST.out.on
      have hx1 := num1_lt rest
      have hxi := num_int (k := 1) (l := rest) (by omega)
      have hxm : IntKind.i64.wrap (((numP 1 rest).1 : Int) - 1) = ((numP 1 rest).1 : Int) - 1 := IntWalk.i64_in _ (by omega)
      have HSTEP := Lib.hid (nodesQ_step k N rest)
      obtain ⟨⟨d0, d1, d2⟩, f0, f1, f2⟩ := box3 HST.out.box
      have hTl := (Array.getElem?_eq_some_iff.1 HST.out.box).1
      have HGT := Lib.hid HST.out.gt
      have hNl : N.length ≤ 1000000 := by omega
      clear h0 hxn
      go_wp2_with fail
      go_region_law (first | (go_simp; go_at_call 25; refine (number_any (T := RdT) (B := w.heap.size) (w.heap.size + 1) 1 (by omega) rest false w'.drew HD.out.rd).mono ?_; rintro e w3 ⟨rfl, hr3, hg3⟩; have HS3 := Lib.hid (HD.out.num hr3 hg3); obtain ⟨⟨y0, y1, y2⟩, z0, z1, z2⟩ := box3 HS3.out.box; have hT3 := (Array.getElem?_eq_some_iff.1 HS3.out.box).1; clear hr3 hg3) | (refine step_put_w (w := w3) (((numP 1 rest).1 : Int) - 1) rfl (.tmp 21) (.tmp 25) rfl HS3.out.on hT3 hNl rfl w3.heap.size rfl rfl ?_; intro g4 cap4 w4 hown4 hg4; have hp4 := HS3.out.putN hown4 hg4; have HP4 := Lib.hid hp4.2; obtain ⟨⟨k0, k1, k2⟩, q0, q1, q2⟩ := box3 hp4.1; clear hp4 hown4 hg4))
      all_goals
        have hk1 : IntKind.u64.wrap ((k : Int) + 1 - 1) = (k : Int) := by rw [IntKind.wrap_u64]; omega
        clear y0 y1 y2 z0 z1 z2 k0 k1 k2 q0 q1 q2 d0 d1 d2 f0 f1 f2 hrc
        generalize w4.setCell ⟨T, 2, none⟩ (.slice (some ⟨g4, 0, none⟩) (N.length + 1) cap4) = w5 at *
        go_wp2_with fail
        go_step3
        refine HH.out 0 (k + 100000) _ _ (by omega) (.inl ⟨rfl, T, k, _, _, _, _, ⟨_, _, _, _, _, _, _, _⟩, ⟨_, _, _, _, _, _, _, _⟩, ⟨_, _, _, _, _, _, _, _⟩, ⟨_, _, _, _, _, _, _, _⟩, ⟨_, _, _, _, _, _, _, _⟩, ⟨_, _, _, _, _, _, _, _⟩, ⟨_, _, _, _, _, _, _, _⟩, ⟨_, _, undef, undef, undef, undef, undef, undef⟩, rfl, rfl, HP4.out, ?_, by simp; omega⟩)
        rw [Bool.false_or, ← HSTEP.out]
        exact HQ.out
    · refine ⟨_, rfl, fun H hH hF => ?_⟩
      have HH := Lib.hid hH
      have HF := Lib.hid hF
      have HST := Lib.hid hst
      have HQ := Lib.hid hq
      clear hH hF hst hq
      dsimp only
      have HNN := Lib.hid hN
      clear hN
      obtain ⟨⟨la, lc, hrl⟩, hrc⟩ := rd_cells HST.out.rd
      have hl8 : n < 65536 := by omega
      by_cases h0 : bad = true ∨ n = 0
      case pos =>
        have hend := arcsQ_stop h0 A rest
        rw [HQ.out] at hend
        have HE := Lib.hid hend
        have HGP : Hid (getP l = ⟨((headP l).1 : Int), A, N⟩) := Lib.hid (by unfold getP; rw [hend, HNN.out])
        clear hend
        obtain ⟨⟨r0, r1, r2⟩, s0, s1, s2⟩ := box3 HST.out.res
        have HBEL := Lib.hid HST.out.bel
        have HGT := Lib.hid (And.intro HST.out.gr HST.out.gt)
        by_cases hbd : bad = true
        · subst hbd
          have HNO : Hid (¬ okG l) := Lib.hid fun h => by have := h.1.1; rw [HE.out] at this; cases this
          clear h0
          by_cases hz : n = 0
          · subst hz
            go_wp2_with fail
            refine bodyPost_ret (v := .tuple #[.agg #[.int .i64 0, .slice none 0 0, .slice none 0 0], .int .i64 2]) (by simp [results, Tryd.results11, go_sem, *]) rfl ?_
            exact getR_not HNO.out (set3_below HBEL.out (Nat.le_refl _) _ _ _)
          · have hpos : (0 : Int) < (n : Int) := by omega
            clear hz
            go_wp2_with fail
            refine bodyPost_ret (v := .tuple #[.agg #[.int .i64 0, .slice none 0 0, .slice none 0 0], .int .i64 2]) (by simp [results, Tryd.results11, go_sem, *]) rfl ?_
            exact getR_not HNO.out (set3_below HBEL.out (Nat.le_refl _) _ _ _)
        obtain rfl : n = 0 := by rcases h0 with h | h <;> first | exact h | exact absurd h hbd
        have hbad : bad = false := by simpa using hbd
        subst hbad
        clear h0 hbd
        by_cases hr0 : rest = []
        case neg =>
          have HNO : Hid (¬ okG l) := Lib.hid fun h => by have := h.1.2; rw [HE.out] at this; exact hr0 this
          obtain ⟨m, hmr⟩ : ∃ m : Nat, m = rest.length := ⟨_, rfl⟩
          have hrl0 : (0 : Int) < (m : Int) := by
            have : rest.length ≠ 0 := fun e => hr0 (List.eq_nil_of_length_eq_zero e)
            omega
          rw [← hmr] at hrl
          clear hr0 hmr
          go_wp2_with fail
          refine bodyPost_ret (v := .tuple #[.agg #[.int .i64 0, .slice none 0 0, .slice none 0 0], .int .i64 2]) (by simp [results, Tryd.results11, go_sem, *]) rfl ?_
          exact getR_not HNO.out (set3_below HBEL.out (Nat.le_refl _) _ _ _)
        subst hr0
        obtain ⟨xa, xc, rfl, hxa⟩ := OwnA.at HST.out.oa
        obtain ⟨xn, xk, rfl, hxn⟩ := OwnW.at HST.out.on
        have hmy : Calls Tryd.prog 16 #[.agg #[.int .i64 ((headP l).1 : Int), .slice xa A.length xc, .slice xn N.length xk]] w' fun e w5 => e = .returned (.bool (decide (MayT (getP l)))) ∧ Below w'.heap.size w' w5 := by
          rw [HGP.out]
          exact may_any ⟨((headP l).1 : Int), A, N⟩ xa xc xn xk w' hxa hxn
        have HMY := Lib.hid hmy
        clear hmy
        have HTA : Hid (OwnA w' (T + 1) (.slice xa A.length xc) A ∧ OwnW w' (T + 1) (.slice xn N.length xk) N) := Lib.hid ⟨HST.out.oa, HST.out.on⟩
        have HRES := Lib.hid HST.out.res
        obtain ⟨⟨d0, d1, d2⟩, f0, f1, f2⟩ := box3 HST.out.box
        have HTB := Lib.hid HST.out.box
        clear hxa hxn
        by_cases hm : MayT (getP l)
        case neg =>
          have HNO : Hid (¬ okG l) := Lib.hid fun h => hm h.2
          rw [decide_eq_false hm] at HMY
          clear hm
          go_wp2_with fail
          refine HMY.out.mono ?_
          rintro e w5 ⟨rfl, hb5⟩
          have HB5 := Lib.hid hb5
          have hlt := (Array.getElem?_eq_some_iff.1 HRES.out).1
          obtain ⟨⟨r3, r4, r5⟩, s3, s4, s5⟩ := box3 ((hb5.block _ hlt).trans HRES.out)
          clear hb5 r0 r1 r2 s0 s1 s2
          go_wp2_with fail
          refine bodyPost_ret (v := .tuple #[.agg #[.int .i64 0, .slice none 0 0, .slice none 0 0], .int .i64 2]) (by simp [results, Tryd.results11, go_sem, *]) rfl ?_
          exact getR_not HNO.out (set3_below (HBEL.out.trans (HB5.out.mono HBEL.out.size)) (Nat.le_refl _) _ _ _)
        have HOK : Hid (okG l) := Lib.hid ⟨⟨by rw [HE.out], by rw [HE.out]⟩, hm⟩
        rw [decide_eq_true hm] at HMY
        clear hm
        go_wp2_with fail
        refine HMY.out.mono ?_
        rintro e w5 ⟨rfl, hb5⟩
        have HB5 := Lib.hid hb5
        have hlt := (Array.getElem?_eq_some_iff.1 HRES.out).1
        obtain ⟨⟨r3, r4, r5⟩, s3, s4, s5⟩ := box3 ((hb5.block _ hlt).trans HRES.out)
        have hlT := (Array.getElem?_eq_some_iff.1 HTB.out).1
        obtain ⟨⟨q0, q1, q2⟩, -⟩ := box3 ((hb5.block _ hlT).trans HTB.out)
        clear hb5 r0 r1 r2 s0 s1 s2 d0 d1 d2 f0 f1 f2
        go_wp2_with fail
        refine bodyPost_ret (v := .tuple #[.agg #[.int .i64 ((headP l).1 : Int), .slice xa A.length xc, .slice xn N.length xk], .int .i64 0]) (by simp [results, Tryd.results11, go_sem, *]) rfl ?_
        have hT1 : w.heap.size < T := by have := HGT.out; omega
        have oA := own_kept (w' := set3 w5 w.heap.size (.int .i64 ((headP l).1 : Int)) (.slice xa A.length xc) (.slice xn N.length xk)) (owns_below1 HTA.out.1 HB5.out) (fun b hb _ => set3_heap _ _ _ _ _ _ (by omega))
        have oN := own_kept (w' := set3 w5 w.heap.size (.int .i64 ((headP l).1 : Int)) (.slice xa A.length xc) (.slice xn N.length xk)) (owns_below1 HTA.out.2 HB5.out) (fun b hb _ => set3_heap _ _ _ _ _ _ (by omega))
        obtain ⟨na', nc', e1', hN6⟩ := OwnW.at oN
        obtain ⟨aa', ac', e2', hA6⟩ := OwnA.at oA
        obtain ⟨rfl, -, rfl⟩ := Value.slice.inj e2'
        obtain ⟨rfl, -, rfl⟩ := Value.slice.inj e1'
        unfold GetTR gotT gotC
        rw [if_pos HOK.out, if_pos HOK.out, HGP.out]
        exact ⟨xa, xc, xn, xk, rfl, ⟨hA6, hN6⟩, set3_below (HBEL.out.trans (HB5.out.mono HBEL.out.size)) (Nat.le_refl _) _ _ _⟩
      have hbad : bad = false := by cases bad <;> simp_all
      subst hbad
      obtain ⟨k, rfl⟩ : ∃ k, n = k + 1 := ⟨n - 1, by omega⟩
      have hpos : (0 : Int) < ((k + 1 : Nat) : Int) := by omega
      have HD := Lib.hid HST.out.drew
      obtain ⟨xa, xc, rfl, hxa⟩ := OwnA.at HST.out.oa
      have hx4 : (numP 4 rest).1 < 4294967296 := num_lt 4 rest
      have hx1 := num1_lt (numP 4 rest).2.1
      have hxi := num_int (k := 1) (l := (numP 4 rest).2.1) (by omega)
      have hxu : IntKind.u32.wrap ((numP 4 rest).1 : Int) = ((numP 4 rest).1 : Int) := by rw [IntKind.wrap_u32]; omega
      have HSTEP := Lib.hid (arcsQ_step k A rest)
      obtain ⟨⟨d0, d1, d2⟩, f0, f1, f2⟩ := box3 HST.out.box
      have hTl := (Array.getElem?_eq_some_iff.1 HST.out.box).1
      have hAl : A.length ≤ 1000000 := by omega
      clear h0 hxa hrl
      go_wp2_with fail
      go_region_law (first | (go_simp; go_at_call 25; refine (number_any (T := RdT) (B := w.heap.size) (w.heap.size + 1) 1 (by omega) (numP 4 rest).2.1 (false || (numP 4 rest).2.2) w3 HS3.out.rd).mono ?_; rintro e w5 ⟨rfl, hr5, hg5⟩; have HS5 := Lib.hid (HS3.out.num hr5 hg5); obtain ⟨⟨y0, y1, y2⟩, z0, z1, z2⟩ := box3 HS5.out.box; have hT5 := (Array.getElem?_eq_some_iff.1 HS5.out.box).1; clear hr5 hg5) | (go_simp; go_at_call 25; refine (number_any (T := RdT) (B := w.heap.size) (w.heap.size + 1) 4 (by omega) rest false w'.drew HD.out.rd).mono ?_; rintro e w3 ⟨rfl, hr3, hg3⟩; have HS3 := Lib.hid (HD.out.num hr3 hg3); obtain ⟨⟨x0, x1, x2⟩, x3, x4, x5⟩ := box3 HS3.out.box; have hT3 := (Array.getElem?_eq_some_iff.1 HS3.out.box).1; clear hr3 hg3) | (refine step_put_ar (w := w5) ⟨((numP 4 rest).1 : Int), ((numP 1 (numP 4 rest).2.1).1 : Int)⟩ rfl (.tmp 39) (.tmp 45) rfl HS5.out.oa hT5 hAl rfl w5.heap.size rfl rfl ?_; intro g4 cap4 w4 hown4 hg4; have hp4 := HS5.out.putA hown4 hg4; have HP4 := Lib.hid hp4.2; obtain ⟨⟨k0, k1, k2⟩, q0, q1, q2⟩ := box3 hp4.1; clear hp4 hown4 hg4))
      all_goals
        have hk1 : IntKind.u64.wrap ((k : Int) + 1 - 1) = (k : Int) := by rw [IntKind.wrap_u64]; omega
        clear y0 y1 y2 z0 z1 z2 k0 k1 k2 q0 q1 q2 d0 d1 d2 f0 f1 f2 x0 x1 x2 x3 x4 x5 hrc
        generalize w4.setCell ⟨T, 1, none⟩ (.slice (some ⟨g4, 0, none⟩) (A.length + 1) cap4) = w6 at *
        go_wp2_with fail
        go_step3
        refine HH.out 1 k _ _ (by omega) (.inr ⟨rfl, T, k, _, N, _, _, _, _, ⟨_, _, _, _, _, _, _, _⟩, ⟨_, _, _, _, _, _, _, _⟩, ⟨_, _, _, _, _, _, _, _⟩, ⟨_, _, _, _, _, _, _, _⟩, ⟨_, _, _, _, _, _, _, _⟩, ⟨_, _, _, _, _, _, _, _⟩, ⟨_, _, _, _, _, _, _, _⟩, ⟨_, _, undef, undef, undef, undef, undef, undef⟩, rfl, rfl, HP4.out, HNN.out, ?_, by simp; omega⟩)
        rw [Bool.false_or, ← HSTEP.out]
        exact HQ.out

end Go.Proofs.YtkcccfllkgjdiaaDoor.Tl
