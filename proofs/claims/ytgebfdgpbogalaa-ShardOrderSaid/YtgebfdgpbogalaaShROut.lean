/-
  The document's out, walked.
-/
import Derived.Test.YtgebfdgpbogalaaShRSet
import Derived.Deep.RegionHeld3
namespace Go.Proofs.Ytgebfdgpbogalaa.Sh
open Go.RowKit Rg Go.Sort
set_option linter.unusedVariables false
set_option linter.unusedSimpArgs false

def goneS (s : Sd) (t : Int) : Sd := match tagI s t with
  | none => s
  | some i => { s with hd := s.hd.eraseIdx i }
def goneM (s : Sd) (t : Int) : Mg := match tagI s t with
  | none => mg0
  | some i => ((s.hd[i]?).getD hd0).m
def OutR (s : Sd) (t : Int) (w : World) (e : Ending) (w' : World) : Prop :=
  ∃ ra rc ha hc ma mc, e = .returned (.tuple #[.agg #[.bool (goneS s t).fr, .int .i64 (goneS s t).nx, .slice ra (goneS s t).rd.length rc, .slice ha (goneS s t).hd.length hc, .slice ma (goneS s t).ms.length mc], .agg #[.int .i64 (goneM s t).pub, .int .i64 (goneM s t).seq, .string ⟨(goneM s t).key.toArray⟩, .string ⟨(goneM s t).body.toArray⟩, .bool (goneM s t).again], .bool (tagI s t).isSome]) ∧ SdAt w' ra rc ha hc ma mc (goneS s t) ∧ Below w.heap.size w w'
theorem gone_some {s : Sd} {t : Int} {i : Nat} (hi : i < s.hd.length) (ht : s.hd[i].tag = t) (hno : ∀ j (hj : j < i), ¬ (s.hd[j]'(by omega)).tag = t) : tagI s t = some i ∧ goneS s t = { s with hd := s.hd.take i ++ s.hd.drop (i + 1) } ∧ goneM s t = s.hd[i].m := by
  have h1 : tagI s t = some i := find_first hi (by simpa using ht) (fun j hj => by simpa using hno j hj)
  refine ⟨h1, ?_, ?_⟩
  · unfold goneS; rw [h1]; simp only [List.eraseIdx_eq_take_drop_succ]
  · unfold goneM; rw [h1]; simp [hi]
theorem gone_none {s : Sd} {t : Int} (hno : ∀ j (hj : j < s.hd.length), ¬ s.hd[j].tag = t) : tagI s t = none ∧ goneS s t = s ∧ goneM s t = mg0 := by
  have h1 : tagI s t = none := find_not (fun j hj => by simpa using hno j hj)
  exact ⟨h1, by unfold goneS; rw [h1], by unfold goneM; rw [h1]⟩
def routRel (W : World) (l : List Hd) (t : Int) (m : Nat) (v : Value) (wr : World) : Prop :=
  ∃ i : Nat, i ≤ l.length ∧ (∀ (j : Nat) (hj : j < i) (hl : j < l.length), ¬ l[j].tag = t) ∧ v = .int .i64 i ∧ m = l.length - i ∧ W = wr
set_option maxRecDepth 100000 in
set_option maxHeartbeats 4000000 in
theorem rout_any (s : Sd) (t : Int) (ra : Option Addr) (rc : Nat) (ha : Option Addr) (hc : Nat) (ma : Option Addr) (mc : Nat) (w : World) (hs : SdAt w ra rc ha hc ma mc s) :
    Calls Try.prog 68 #[.agg #[.bool s.fr, .int .i64 s.nx, .slice ra s.rd.length rc, .slice ha s.hd.length hc, .slice ma s.ms.length mc], .int .i64 t] w (OutR s t w) := by
  obtain ⟨hx, hy, hz, hb0, hWs⟩ := three_box (w := w) (.cells #[.bool s.fr, .int .i64 s.nx, .slice ra s.rd.length rc, .slice ha s.hd.length hc, .slice ma s.ms.length mc] 47) (.cells #[.bool false, .int .i64 0, .slice none 0 0, .slice none 0 0, .slice none 0 0] 47) (.cells #[.int .i64 0, .int .i64 0, .string ⟨#[]⟩, .string ⟨#[]⟩, .bool false] 40)
  obtain ⟨W, hW⟩ : ∃ W, W = ((w.alloc (.cells #[.bool s.fr, .int .i64 s.nx, .slice ra s.rd.length rc, .slice ha s.hd.length hc, .slice ma s.ms.length mc] 47)).alloc (.cells #[.bool false, .int .i64 0, .slice none 0 0, .slice none 0 0, .slice none 0 0] 47)).alloc (.cells #[.int .i64 0, .int .i64 0, .string ⟨#[]⟩, .string ⟨#[]⟩, .bool false] 40) := ⟨_, rfl⟩
  rw [← hW] at hx hy hz hb0 hWs
  have HS := Lib.hid (hs.below ra rc ha hc ma mc hb0)
  have HS0 := Lib.hid hs
  have HB := Lib.hid hb0
  have HW := Lib.hid hW
  have HWS := Lib.hid hWs
  have HX := Lib.hid (And.intro hx (And.intro hy hz))
  obtain ⟨⟨c0, c1, c2, c3, c4⟩, -⟩ := box5 hx
  obtain ⟨⟨d0, d1, d2, d3, d4⟩, f0, f1, f2, f3, f4⟩ := box5 hy
  obtain ⟨⟨e0, e1, e2, e3, e4⟩, g0, g1, g2, g3, g4⟩ := box5 hz
  have hm1 := hs.hd.len
  have hm2 := hs.hd.max
  unfold maxLen at hm2
  clear hs hx hy hz hb0 hWs hW
  go_enter Try.func68, Try.ntmps68
  go_wp2_with fail
  rw [← HW.out]
  go_loopg [7] s.hd.length (routRel W s.hd t)
  case atStart => exact ⟨0, Nat.zero_le _, fun j hj h => by omega, rfl, rfl, rfl⟩
  case round =>
    obtain ⟨i, hi, hno, rfl, rfl, rfl⟩ := hrel
    have HNO := Lib.hid hno
    clear hno
    by_cases hlt : i < s.hd.length
    · have hlti : (i : Int) < (s.hd.length : Int) := by omega
      have h0i : (0 : Int) ≤ (i : Int) := by omega
      have h4 : IntKind.i64.wrap ((i : Int) + 1) = (i : Int) + 1 := IntWalk.i64_in _ (by omega)
      obtain ⟨b, o, hha, x0, x1, x2, x3, x4, x5⟩ := HdsAt.get HS.out.hd i hlt
      have HY := Lib.hid (fun h => gone_some (s := s) (t := t) hlt h fun j hj => HNO.out j hj (by omega))
      have HNX : Hid (¬ s.hd[i].tag = t → ∀ (j : Nat) (hj : j < i + 1) (hl : j < s.hd.length), ¬ s.hd[j].tag = t) := Lib.hid fun h j hj hl => by
        by_cases e : j = i
        · subst e; exact h
        · exact HNO.out j (by omega) hl
      by_cases q1 : s.hd[i].tag = t
      · have HR := Lib.hid (HY.out q1)
        have hf := hdE.front HS.out.hd HS.out.nh i (by omega)
        obtain ⟨ak, hbk1, hbk2, hbk3⟩ := hdE.back HS.out.hd HS.out.nh (i + 1) (by omega)
        subst hha
        generalize hxi : s.hd[i] = x at *
        have e1' : (x.tag == t) = true := by simpa using q1
        have HXI := Lib.hid hxi
        clear hxi q1 HY HNX
        go_wp2_with fail
        obtain ⟨t1, t2, t3⟩ := one_box (w := W) (.cells #[.bool s.fr, .int .i64 s.nx, .slice ra s.rd.length rc, .slice (some ⟨b, o, none⟩) s.hd.length hc, .slice ma s.ms.length mc] 47)
        obtain ⟨W3, hW3⟩ : ∃ W3, W3 = W.alloc (.cells #[.bool s.fr, .int .i64 s.nx, .slice ra s.rd.length rc, .slice (some ⟨b, o, none⟩) s.hd.length hc, .slice ma s.ms.length mc] 47) := ⟨_, rfl⟩
        rw [← hW3] at t1 t2 t3 ⊢
        have HT1 := Lib.hid t1
        have HT2 := Lib.hid t2
        have HT3 := Lib.hid t3
        have HROW := Lib.hid (fun (wx : World) (h : Below W3.heap.size W3 wx) => HdsAt.get ((HS.out.below _ _ _ _ _ _ (HT2.out.trans (h.mono HT2.out.size))).hd) i hlt)
        have HUP := Lib.hid (fun (wx : World) (h : Below W3.heap.size W3 wx) => HT2.out.trans (h.mono HT2.out.size))
        have HKEEP := Lib.hid (fun (wx : World) (h : Below W.heap.size W wx) => (box5 (box_bl HX.out.1 h)).1.2.2.2.1)
        have hd3 : Below W3.heap.size W3 W3.drew := (Below.refl _ _).drew
        have HD3 := Lib.hid hd3
        have HA3 := Lib.hid (hd3.alloc (w := W3.drew) (Nat.le_refl _) (.cells #[] 56))
        have HO4 := Lib.hid (OwnE.lit hdE W3.drew W3.heap.size (Nat.le_refl _))
        have HF1 := Lib.hid hf.1
        have hfs := hf.2
        have HBK := Lib.hid (And.intro hbk1 hbk2)
        have HCUR := Lib.hid (HKEEP.out _ (HUP.out _ (Below.refl _ _)))
        have h4' : ((i + 1 : Nat) : Int) = (i : Int) + 1 := by omega
        rw [h4'] at hbk3
        have hlk : (s.hd.drop (i + 1)).length = s.hd.length - (i + 1) := by simp
        have HLN := Lib.hid HS0.out.sm
        clear hd3 hf hbk1 hbk2 t1 t2 t3 hW3 c0 c1 c2 c3 c4 d0 d1 d2 d3 d4 f0 f1 f2 f3 f4 e0 e1 e2 e3 e4 g0 g1 g2 g3 g4 x0 x1 x2 x3 x4 x5 h4'
        go_region_held3 (fun wx => wx.cell? ⟨w.heap.size, 3, none⟩ = some (.slice (some ⟨b, o, none⟩) s.hd.length hc))
          (first | exact HKEEP.out _ (HUP.out _ HD3.out) | exact HKEEP.out _ (HUP.out _ HA3.out) | exact HKEEP.out _ (HUP.out _ HB5.out) | exact HKEEP.out _ (HUP.out _ HB6.out) | exact HKEEP.out _ (low_set (HUP.out _ HB6.out) (Nat.le_refl _)) | assumption)
          (first | (refine step_put_rows hdE (m := s.hd.take i) rfl (.tmp 25) (.tmp 29) rfl HO4.out HA3.out.size rfl _ rfl (by rw [List.length_take]; omega) (HF1.out.below (HT2.out.trans (HA3.out.mono HT2.out.size))) (by have := HLN.out; rw [List.length_take, List.length_nil]; omega) (fun e => by cases e) ?_; intro v5 w5 hown5 hg5; have HOWN5 := Lib.hid hown5; have HB5 := Lib.hid (OwnE.grown HA3.out HO4.out hg5 HA3.out.size); clear hown5 hg5) | (refine step_put_rows hdE (m := s.hd.drop (i + 1)) rfl (.tmp 30) (.tmp 35) rfl HOWN5.out HB5.out.size rfl _ rfl (by simp) (HBK.out.1.below (HT2.out.trans (HB5.out.mono HT2.out.size))) (by have := HLN.out; rw [List.length_append, List.length_take, List.length_drop, List.length_nil]; omega) HBK.out.2 ?_; intro v6 w6 hown6 hg6; obtain ⟨xh, ch, rfl, hat6, hnn6⟩ := OwnE.at hdE hown6; have HAT6 := Lib.hid (And.intro hat6 hnn6); have HOWN6 := Lib.hid hown6; have HB6 := Lib.hid (OwnE.grown HB5.out HOWN5.out hg6 HB5.out.size); obtain ⟨⟨y0, y1, y2, y3, y4⟩, z0, z1, z2, z3, z4⟩ := box5 (box_bl HT1.out HB6.out); clear hown6 hg6 hat6 hnn6))
        rename_i hHeld
        clear hHeld
        have hn : i + (s.hd.length - (i + 1)) = (s.hd.take i ++ s.hd.drop (i + 1)).length := by rw [List.length_append, List.length_take, List.length_drop]; omega
        obtain ⟨N, hN⟩ : ∃ N, i + (s.hd.length - (i + 1)) = N := ⟨_, rfl⟩
        rw [hN]
        rw [hN] at hn
        have HN := Lib.hid hn
        rw [List.nil_append] at HOWN6
        have hbw : b < w.heap.size := by
          obtain ⟨b', o', hma, x0, -⟩ := HdsAt.get HS0.out.hd i hlt
          obtain ⟨rfl, rfl⟩ : b = b' ∧ o = o' := by injection hma with he; injection he with e1 e2; exact ⟨e1, e2⟩
          exact World.block_lt_of_cell? _ _ x0
        have nb1 : ¬ b = w.heap.size + 1 := by omega
        have nb2 : ¬ b = w.heap.size + 1 + 1 := by omega
        have nb3 : ¬ w.heap.size + 1 = b := by omega
        have nb4 : ¬ w.heap.size + 1 + 1 = b := by omega
        obtain ⟨W7, hW7⟩ : ∃ W7, W7 = w6.setCell ⟨W.heap.size, 3, none⟩ (.slice xh N ch) := ⟨_, rfl⟩
        rw [← hW7]
        have hb7 : Below W.heap.size W W7 := by rw [hW7]; exact low_set (HUP.out _ HB6.out) (Nat.le_refl _)
        have hx7 : W7.heap[W.heap.size]? = some (.cells #[.bool s.fr, .int .i64 s.nx, .slice ra s.rd.length rc, .slice xh N ch, .slice ma s.ms.length mc] 47 (0, 0)) := by rw [hW7]; exact set_heap (box_bl HT1.out HB6.out) 3 _
        have hw3 := HT3.out
        have ho7 : OwnH W7 W3.heap.size (.slice xh N ch) (s.hd.take i ++ s.hd.drop (i + 1)) := by rw [hW7]; exact OwnE.kept (by have := HOWN6.out; rwa [← HN.out] at this) fun b hb _ => Below.heap_setCell w6 ⟨W.heap.size, 3, none⟩ _ b (by show b ≠ W.heap.size; omega)
        have HB7 := Lib.hid hb7
        have HO7 := Lib.hid ho7
        have hsz := HWS.out
        obtain ⟨⟨c0, c1, c2, c3, c4⟩, -⟩ := box5 (box_bl HX.out.1 hb7)
        obtain ⟨⟨d0, d1, d2, d3, d4⟩, f0, f1, f2, f3, f4⟩ := box5 (box_bl HX.out.2.1 hb7)
        obtain ⟨⟨e0, e1, e2, e3, e4⟩, g0, g1, g2, g3, g4⟩ := box5 (box_bl HX.out.2.2 hb7)
        obtain ⟨⟨p0, p1, p2, p3, p4⟩, -⟩ := box5 hx7
        obtain ⟨b', o', hma, x0, x1, x2, x3, x4, x5⟩ := HdsAt.get ((HS.out.below _ _ _ _ _ _ hb7).hd) i hlt
        obtain ⟨rfl, rfl⟩ : b = b' ∧ o = o' := by injection hma with he; injection he with e1 e2; exact ⟨e1, e2⟩
        have HZ7 := Lib.hid hb7.size
        rw [HXI.out] at x0 x1 x2 x3 x4 x5
        have n1 : ¬ w.heap.size + 1 = W.heap.size := by omega
        have n2 : ¬ w.heap.size + 1 + 1 = W.heap.size := by omega
        have n3 : ¬ w.heap.size = W.heap.size := by omega
        clear hN hma hW7 hb7 hx7 ho7 y0 y1 y2 y3 y4 z0 z1 z2 z3 z4 HOWN6 HAT6 HOWN5 HB5 hfs hbk3 hn hw3 hsz
        go_wp2_with fail
        go_region
        go_wp2_with fail
        refine bodyPost_ret (v := .tuple #[.agg #[.bool s.fr, .int .i64 s.nx, .slice ra s.rd.length rc, .slice xh N ch, .slice ma s.ms.length mc], .agg #[.int .i64 x.m.pub, .int .i64 x.m.seq, .string ⟨x.m.key.toArray⟩, .string ⟨x.m.body.toArray⟩, .bool x.m.again], .bool true]) (by simp [results, Try.results68, go_sem, *]) rfl ?_
        unfold OutR
        rw [HR.out.1, HR.out.2.1, HR.out.2.2, HN.out]
        have hz7 := HZ7.out
        have hw3 := HT3.out
        have hws := HWS.out
        refine ⟨_, _, _, _, _, _, rfl, ?_, ?_⟩
        · have hbl : Below w.heap.size w W7 := HB.out.trans (HB7.out.mono HB.out.size)
          have hbe : ∀ wz, Below w.heap.size w wz → (∀ b, W3.heap.size ≤ b → wz.heap[b]? = W7.heap[b]?) → SdAt wz ra rc xh ch ma mc { s with hd := s.hd.take i ++ s.hd.drop (i + 1) } := fun wz h hf => by
            have h1 := HS0.out.below _ _ _ _ _ _ h
            obtain ⟨a', c', he, h2, h3⟩ := OwnE.at hdE (OwnE.kept (w' := wz) HO7.out fun b hb _ => hf b hb)
            obtain ⟨rfl, -, rfl⟩ := Value.slice.inj he
            have hsm := HS0.out.sm
            exact ⟨h1.rd, h2, h1.ms, h1.nr, h3, h1.nm, hsm.1, by rw [List.length_append, List.length_take, List.length_drop]; omega, hsm.2.2⟩
          refine hbe _ ?_ ?_
          · refine low_drew ?_
            repeat (refine low_set ?_ (by omega))
            exact hbl
          · refine far_drew ?_
            repeat (refine far_set ?_ (by omega))
            exact far_refl _
        · refine low_drew ?_
          repeat (refine low_set ?_ (by omega))
          exact HB.out.trans (HB7.out.mono HB.out.size)
      · have HRES := Lib.hid (HNX.out q1)
        subst hha
        generalize hxi : s.hd[i] = x at *
        have e1' : (x.tag == t) = false := by simpa using q1
        clear hxi q1 HY HNX
        go_wp2_with fail
        go_roundg (s.hd.length - (i + 1))
        case measure => omega
        case rel => exact ⟨i + 1, by omega, HRES.out, by go_num, rfl, rfl⟩
    · obtain rfl : i = s.hd.length := by omega
      have HR := Lib.hid (gone_none (s := s) (t := t) fun j hj => HNO.out j hj hj)
      go_wp2_with fail
      refine bodyPost_ret (v := .tuple #[.agg #[.bool s.fr, .int .i64 s.nx, .slice ra s.rd.length rc, .slice ha s.hd.length hc, .slice ma s.ms.length mc], .agg #[.int .i64 mg0.pub, .int .i64 mg0.seq, .string ⟨mg0.key.toArray⟩, .string ⟨mg0.body.toArray⟩, .bool mg0.again], .bool false]) (by simp [results, Try.results68, go_sem, mg0, *]) rfl ?_
      unfold OutR
      rw [HR.out.1, HR.out.2.1, HR.out.2.2]
      have hsz := HWS.out
      refine ⟨_, _, _, _, _, _, rfl, HS0.out.below _ _ _ _ _ _ ?_, ?_⟩
      all_goals
        repeat (refine low_set ?_ (by omega))
        exact HB.out

end Go.Proofs.Ytgebfdgpbogalaa.Sh
