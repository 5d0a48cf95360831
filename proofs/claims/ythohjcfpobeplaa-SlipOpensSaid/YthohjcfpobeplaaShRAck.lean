/-
  The document's out, walked.
  The document's Ack, Nack, walked.
-/
import Derived.Test.YthohjcfpobeplaaShRSet
import Derived.Deep.RegionHeld3

namespace Go.Proofs.Ythohjcfpobeplaa.Sh
open Go.RowKit Rg Go.Sort
set_option linter.unusedVariables false
set_option linter.unusedSimpArgs false

def goneS (s : Sd) (t : Int) : Sd := match tagI s t with
  | none => s
  | some i => { s with hd := s.hd.eraseIdx i }
def goneM (s : Sd) (t : Int) : Mg := match tagI s t with
  | none => mg0
  | some i => ((s.hd[i]?).getD hd0).m
def OutR (s : Sd) (t : Int) (w : World) (e : Ending) (w' : World) : Prop :=
  ∃ ra rc ha hc ma mc, e = .returned (.tuple #[.agg #[.bool (goneS s t).fr, .int .i64 (goneS s t).nx, .slice ra (goneS s t).rd.length rc, .slice ha (goneS s t).hd.length hc, .slice ma (goneS s t).ms.length mc], .agg #[.int .i64 (goneM s t).pub, .int .i64 (goneM s t).seq, .string ⟨(goneM s t).key.toArray⟩, .string ⟨(goneM s t).body.toArray⟩, .bool (goneM s t).again], .bool (tagI s t).isSome]) ∧ SdAt w' ra rc ha hc ma mc (goneS s t) ∧ Below w.heap.size w w'
theorem gone_some {s : Sd} {t : Int} {i : Nat} (hi : i < s.hd.length) (ht : s.hd[i].tag = t) (hno : ∀ j (hj : j < i), ¬ (s.hd[j]'(by omega)).tag = t) : tagI s t = some i ∧ goneS s t = { s with hd := s.hd.take i ++ s.hd.drop (i + 1) } ∧ goneM s t = s.hd[i].m := by
  have h1 : tagI s t = some i := find_first hi (by simpa using ht) (fun j hj => by simpa using hno j hj)
  refine ⟨h1, ?_, ?_⟩
  · unfold goneS; rw [h1]; simp only [List.eraseIdx_eq_take_drop_succ]
  · unfold goneM; rw [h1]; simp [hi]
theorem gone_none {s : Sd} {t : Int} (hno : ∀ j (hj : j < s.hd.length), ¬ s.hd[j].tag = t) : tagI s t = none ∧ goneS s t = s ∧ goneM s t = mg0 := by
  have h1 : tagI s t = none := find_not (fun j hj => by simpa using hno j hj)
  exact ⟨h1, by unfold goneS; rw [h1], by unfold goneM; rw [h1]⟩
def routRel (W : World) (l : List Hd) (t : Int) (m : Nat) (v : Value) (wr : World) : Prop :=
  ∃ i : Nat, i ≤ l.length ∧ (∀ (j : Nat) (hj : j < i) (hl : j < l.length), ¬ l[j].tag = t) ∧ v = .int .i64 i ∧ m = l.length - i ∧ W = wr
set_option maxRecDepth 100000 in
set_option maxHeartbeats 4000000 in
theorem rout_any (s : Sd) (t : Int) (ra : Option Addr) (rc : Nat) (ha : Option Addr) (hc : Nat) (ma : Option Addr) (mc : Nat) (w : World) (hs : SdAt w ra rc ha hc ma mc s) :
    Calls Try.prog 77 #[.agg #[.bool s.fr, .int .i64 s.nx, .slice ra s.rd.length rc, .slice ha s.hd.length hc, .slice ma s.ms.length mc], .int .i64 t] w (OutR s t w) := by
  obtain ⟨hx, hy, hz, hb0, hWs⟩ := three_box (w := w) (.cells #[.bool s.fr, .int .i64 s.nx, .slice ra s.rd.length rc, .slice ha s.hd.length hc, .slice ma s.ms.length mc] 26) (.cells #[.bool false, .int .i64 0, .slice none 0 0, .slice none 0 0, .slice none 0 0] 26) (.cells #[.int .i64 0, .int .i64 0, .string ⟨#[]⟩, .string ⟨#[]⟩, .bool false] 35)
  obtain ⟨W, hW⟩ : ∃ W, W = ((w.alloc (.cells #[.bool s.fr, .int .i64 s.nx, .slice ra s.rd.length rc, .slice ha s.hd.length hc, .slice ma s.ms.length mc] 26)).alloc (.cells #[.bool false, .int .i64 0, .slice none 0 0, .slice none 0 0, .slice none 0 0] 26)).alloc (.cells #[.int .i64 0, .int .i64 0, .string ⟨#[]⟩, .string ⟨#[]⟩, .bool false] 35) := ⟨_, rfl⟩
  rw [← hW] at hx hy hz hb0 hWs
  have HS := Lib.hid (hs.below ra rc ha hc ma mc hb0)
  have HS0 := Lib.hid hs
  have HB := Lib.hid hb0
  have HW := Lib.hid hW
  have HWS := Lib.hid hWs
  have HX := Lib.hid (And.intro hx (And.intro hy hz))
  obtain ⟨⟨c0, c1, c2, c3, c4⟩, -⟩ := box5 hx
  obtain ⟨⟨d0, d1, d2, d3, d4⟩, f0, f1, f2, f3, f4⟩ := box5 hy
  obtain ⟨⟨e0, e1, e2, e3, e4⟩, g0, g1, g2, g3, g4⟩ := box5 hz
  have hm1 := hs.hd.len
  have hm2 := hs.hd.max
  unfold maxLen at hm2
  clear hs hx hy hz hb0 hWs hW
  go_enter Try.func77, Try.ntmps77
  go_wp2_with fail
  rw [← HW.out]
  go_loopg [7] s.hd.length (routRel W s.hd t)
  case atStart => exact ⟨0, Nat.zero_le _, fun j hj h => by omega, rfl, rfl, rfl⟩
  case round =>
    obtain ⟨i, hi, hno, rfl, rfl, rfl⟩ := hrel
    have HNO := Lib.hid hno
    clear hno
    by_cases hlt : i < s.hd.length
    · have hlti : (i : Int) < (s.hd.length : Int) := by omega
      have h0i : (0 : Int) ≤ (i : Int) := by omega
      have h4 : IntKind.i64.wrap ((i : Int) + 1) = (i : Int) + 1 := IntWalk.i64_in _ (by omega)
      obtain ⟨b, o, hha, x0, x1, x2, x3, x4, x5⟩ := HdsAt.get HS.out.hd i hlt
      have HY := Lib.hid (fun h => gone_some (s := s) (t := t) hlt h fun j hj => HNO.out j hj (by omega))
      have HNX : Hid (¬ s.hd[i].tag = t → ∀ (j : Nat) (hj : j < i + 1) (hl : j < s.hd.length), ¬ s.hd[j].tag = t) := Lib.hid fun h j hj hl => by
        by_cases e : j = i
        · subst e; exact h
        · exact HNO.out j (by omega) hl
      by_cases q1 : s.hd[i].tag = t
      · have HR := Lib.hid (HY.out q1)
        have hf := hdE.front HS.out.hd HS.out.nh i (by omega)
        obtain ⟨ak, hbk1, hbk2, hbk3⟩ := hdE.back HS.out.hd HS.out.nh (i + 1) (by omega)
        subst hha
        generalize hxi : s.hd[i] = x at *
        have e1' : (x.tag == t) = true := by simpa using q1
        have HXI := Lib.hid hxi
        clear hxi q1 HY HNX
        go_wp2_with fail
        obtain ⟨t1, t2, t3⟩ := one_box (w := W) (.cells #[.bool s.fr, .int .i64 s.nx, .slice ra s.rd.length rc, .slice (some ⟨b, o, none⟩) s.hd.length hc, .slice ma s.ms.length mc] 26)
        obtain ⟨W3, hW3⟩ : ∃ W3, W3 = W.alloc (.cells #[.bool s.fr, .int .i64 s.nx, .slice ra s.rd.length rc, .slice (some ⟨b, o, none⟩) s.hd.length hc, .slice ma s.ms.length mc] 26) := ⟨_, rfl⟩
        rw [← hW3] at t1 t2 t3 ⊢
        have HT1 := Lib.hid t1
        have HT2 := Lib.hid t2
        have HT3 := Lib.hid t3
        have HROW := Lib.hid (fun (wx : World) (h : Below W3.heap.size W3 wx) => HdsAt.get ((HS.out.below _ _ _ _ _ _ (HT2.out.trans (h.mono HT2.out.size))).hd) i hlt)
        have HUP := Lib.hid (fun (wx : World) (h : Below W3.heap.size W3 wx) => HT2.out.trans (h.mono HT2.out.size))
        have HKEEP := Lib.hid (fun (wx : World) (h : Below W.heap.size W wx) => (box5 (box_bl HX.out.1 h)).1.2.2.2.1)
        have hd3 : Below W3.heap.size W3 W3.drew := (Below.refl _ _).drew
        have HD3 := Lib.hid hd3
        have HA3 := Lib.hid (hd3.alloc (w := W3.drew) (Nat.le_refl _) (.cells #[] 37))
        have HO4 := Lib.hid (OwnE.lit hdE W3.drew W3.heap.size (Nat.le_refl _))
        have HF1 := Lib.hid hf.1
        have hfs := hf.2
        have HBK := Lib.hid (And.intro hbk1 hbk2)
        have HCUR := Lib.hid (HKEEP.out _ (HUP.out _ (Below.refl _ _)))
        have h4' : ((i + 1 : Nat) : Int) = (i : Int) + 1 := by omega
        rw [h4'] at hbk3
        have hlk : (s.hd.drop (i + 1)).length = s.hd.length - (i + 1) := by simp
        have HLN := Lib.hid HS0.out.sm
        clear hd3 hf hbk1 hbk2 t1 t2 t3 hW3 c0 c1 c2 c3 c4 d0 d1 d2 d3 d4 f0 f1 f2 f3 f4 e0 e1 e2 e3 e4 g0 g1 g2 g3 g4 x0 x1 x2 x3 x4 x5 h4'
        go_region_held3 (fun wx => wx.cell? ⟨w.heap.size, 3, none⟩ = some (.slice (some ⟨b, o, none⟩) s.hd.length hc))
          (first | exact HKEEP.out _ (HUP.out _ HD3.out) | exact HKEEP.out _ (HUP.out _ HA3.out) | exact HKEEP.out _ (HUP.out _ HB5.out) | exact HKEEP.out _ (HUP.out _ HB6.out) | exact HKEEP.out _ (low_set (HUP.out _ HB6.out) (Nat.le_refl _)) | assumption)
          (first | (refine step_put_rows hdE (m := s.hd.take i) rfl (.tmp 25) (.tmp 29) rfl HO4.out HA3.out.size rfl _ rfl (by rw [List.length_take]; omega) (HF1.out.below (HT2.out.trans (HA3.out.mono HT2.out.size))) (by have := HLN.out; rw [List.length_take, List.length_nil]; omega) (fun e => by cases e) ?_; intro v5 w5 hown5 hg5; have HOWN5 := Lib.hid hown5; have HB5 := Lib.hid (OwnE.grown HA3.out HO4.out hg5 HA3.out.size); clear hown5 hg5) | (refine step_put_rows hdE (m := s.hd.drop (i + 1)) rfl (.tmp 30) (.tmp 35) rfl HOWN5.out HB5.out.size rfl _ rfl (by simp) (HBK.out.1.below (HT2.out.trans (HB5.out.mono HT2.out.size))) (by have := HLN.out; rw [List.length_append, List.length_take, List.length_drop, List.length_nil]; omega) HBK.out.2 ?_; intro v6 w6 hown6 hg6; obtain ⟨xh, ch, rfl, hat6, hnn6⟩ := OwnE.at hdE hown6; have HAT6 := Lib.hid (And.intro hat6 hnn6); have HOWN6 := Lib.hid hown6; have HB6 := Lib.hid (OwnE.grown HB5.out HOWN5.out hg6 HB5.out.size); obtain ⟨⟨y0, y1, y2, y3, y4⟩, z0, z1, z2, z3, z4⟩ := box5 (box_bl HT1.out HB6.out); clear hown6 hg6 hat6 hnn6))
        rename_i hHeld
        clear hHeld
        have hn : i + (s.hd.length - (i + 1)) = (s.hd.take i ++ s.hd.drop (i + 1)).length := by rw [List.length_append, List.length_take, List.length_drop]; omega
        obtain ⟨N, hN⟩ : ∃ N, i + (s.hd.length - (i + 1)) = N := ⟨_, rfl⟩
        rw [hN]
        rw [hN] at hn
        have HN := Lib.hid hn
        rw [List.nil_append] at HOWN6
        have hbw : b < w.heap.size := by
          obtain ⟨b', o', hma, x0, -⟩ := HdsAt.get HS0.out.hd i hlt
          obtain ⟨rfl, rfl⟩ : b = b' ∧ o = o' := by injection hma with he; injection he with e1 e2; exact ⟨e1, e2⟩
          exact World.block_lt_of_cell? _ _ x0
        have nb1 : ¬ b = w.heap.size + 1 := by omega
        have nb2 : ¬ b = w.heap.size + 1 + 1 := by omega
        have nb3 : ¬ w.heap.size + 1 = b := by omega
        have nb4 : ¬ w.heap.size + 1 + 1 = b := by omega
        obtain ⟨W7, hW7⟩ : ∃ W7, W7 = w6.setCell ⟨W.heap.size, 3, none⟩ (.slice xh N ch) := ⟨_, rfl⟩
        rw [← hW7]
        have hb7 : Below W.heap.size W W7 := by rw [hW7]; exact low_set (HUP.out _ HB6.out) (Nat.le_refl _)
        have hx7 : W7.heap[W.heap.size]? = some (.cells #[.bool s.fr, .int .i64 s.nx, .slice ra s.rd.length rc, .slice xh N ch, .slice ma s.ms.length mc] 26 (0, 0)) := by rw [hW7]; exact set_heap (box_bl HT1.out HB6.out) 3 _
        have hw3 := HT3.out
        have ho7 : OwnH W7 W3.heap.size (.slice xh N ch) (s.hd.take i ++ s.hd.drop (i + 1)) := by rw [hW7]; exact OwnE.kept (by have := HOWN6.out; rwa [← HN.out] at this) fun b hb _ => Below.heap_setCell w6 ⟨W.heap.size, 3, none⟩ _ b (by show b ≠ W.heap.size; omega)
        have HB7 := Lib.hid hb7
        have HO7 := Lib.hid ho7
        have hsz := HWS.out
        obtain ⟨⟨c0, c1, c2, c3, c4⟩, -⟩ := box5 (box_bl HX.out.1 hb7)
        obtain ⟨⟨d0, d1, d2, d3, d4⟩, f0, f1, f2, f3, f4⟩ := box5 (box_bl HX.out.2.1 hb7)
        obtain ⟨⟨e0, e1, e2, e3, e4⟩, g0, g1, g2, g3, g4⟩ := box5 (box_bl HX.out.2.2 hb7)
        obtain ⟨⟨p0, p1, p2, p3, p4⟩, -⟩ := box5 hx7
        obtain ⟨b', o', hma, x0, x1, x2, x3, x4, x5⟩ := HdsAt.get ((HS.out.below _ _ _ _ _ _ hb7).hd) i hlt
        obtain ⟨rfl, rfl⟩ : b = b' ∧ o = o' := by injection hma with he; injection he with e1 e2; exact ⟨e1, e2⟩
        have HZ7 := Lib.hid hb7.size
        rw [HXI.out] at x0 x1 x2 x3 x4 x5
        have n1 : ¬ w.heap.size + 1 = W.heap.size := by omega
        have n2 : ¬ w.heap.size + 1 + 1 = W.heap.size := by omega
        have n3 : ¬ w.heap.size = W.heap.size := by omega
        clear hN hma hW7 hb7 hx7 ho7 y0 y1 y2 y3 y4 z0 z1 z2 z3 z4 HOWN6 HAT6 HOWN5 HB5 hfs hbk3 hn hw3 hsz
        go_wp2_with fail
        go_region
        go_wp2_with fail
        refine bodyPost_ret (v := .tuple #[.agg #[.bool s.fr, .int .i64 s.nx, .slice ra s.rd.length rc, .slice xh N ch, .slice ma s.ms.length mc], .agg #[.int .i64 x.m.pub, .int .i64 x.m.seq, .string ⟨x.m.key.toArray⟩, .string ⟨x.m.body.toArray⟩, .bool x.m.again], .bool true]) (by simp [results, Try.results77, go_sem, *]) rfl ?_
        unfold OutR
        rw [HR.out.1, HR.out.2.1, HR.out.2.2, HN.out]
        have hz7 := HZ7.out
        have hw3 := HT3.out
        have hws := HWS.out
        refine ⟨_, _, _, _, _, _, rfl, ?_, ?_⟩
        · have hbl : Below w.heap.size w W7 := HB.out.trans (HB7.out.mono HB.out.size)
          have hbe : ∀ wz, Below w.heap.size w wz → (∀ b, W3.heap.size ≤ b → wz.heap[b]? = W7.heap[b]?) → SdAt wz ra rc xh ch ma mc { s with hd := s.hd.take i ++ s.hd.drop (i + 1) } := fun wz h hf => by
            have h1 := HS0.out.below _ _ _ _ _ _ h
            obtain ⟨a', c', he, h2, h3⟩ := OwnE.at hdE (OwnE.kept (w' := wz) HO7.out fun b hb _ => hf b hb)
            obtain ⟨rfl, -, rfl⟩ := Value.slice.inj he
            have hsm := HS0.out.sm
            exact ⟨h1.rd, h2, h1.ms, h1.nr, h3, h1.nm, hsm.1, by rw [List.length_append, List.length_take, List.length_drop]; omega, hsm.2.2⟩
          refine hbe _ ?_ ?_
          · refine low_drew ?_
            repeat (refine low_set ?_ (by omega))
            exact hbl
          · refine far_drew ?_
            repeat (refine far_set ?_ (by omega))
            exact far_refl _
        · refine low_drew ?_
          repeat (refine low_set ?_ (by omega))
          exact HB.out.trans (HB7.out.mono HB.out.size)
      · have HRES := Lib.hid (HNX.out q1)
        subst hha
        generalize hxi : s.hd[i] = x at *
        have e1' : (x.tag == t) = false := by simpa using q1
        clear hxi q1 HY HNX
        go_wp2_with fail
        go_roundg (s.hd.length - (i + 1))
        case measure => omega
        case rel => exact ⟨i + 1, by omega, HRES.out, by go_num, rfl, rfl⟩
    · obtain rfl : i = s.hd.length := by omega
      have HR := Lib.hid (gone_none (s := s) (t := t) fun j hj => HNO.out j hj hj)
      go_wp2_with fail
      refine bodyPost_ret (v := .tuple #[.agg #[.bool s.fr, .int .i64 s.nx, .slice ra s.rd.length rc, .slice ha s.hd.length hc, .slice ma s.ms.length mc], .agg #[.int .i64 mg0.pub, .int .i64 mg0.seq, .string ⟨mg0.key.toArray⟩, .string ⟨mg0.body.toArray⟩, .bool mg0.again], .bool false]) (by simp [results, Try.results77, go_sem, mg0, *]) rfl ?_
      unfold OutR
      rw [HR.out.1, HR.out.2.1, HR.out.2.2]
      have hsz := HWS.out
      refine ⟨_, _, _, _, _, _, rfl, HS0.out.below _ _ _ _ _ _ ?_, ?_⟩
      all_goals
        repeat (refine low_set ?_ (by omega))
        exact HB.out

end Go.Proofs.Ythohjcfpobeplaa.Sh

namespace Go.Proofs.Ythohjcfpobeplaa.Sh
open Go.RowKit Rg Go.Sort
set_option linter.unusedVariables false
set_option linter.unusedSimpArgs false

theorem ack_arg {s : Sd} {t : Int} (h : ¬ MaySd s) : outC s t = 1 ∧ ackS s t = s ∧ nackS s t = s := by
  have h1 : outC s t = 1 := by unfold outC; rw [if_pos h]
  exact ⟨h1, by unfold ackS; rw [if_neg (by rw [h1]; decide)], by unfold nackS; rw [if_neg (by rw [h1]; decide)]⟩
theorem ack_none {s : Sd} {t : Int} (h : MaySd s) (h2 : tagI s t = none) : outC s t = 3 ∧ ackS s t = s ∧ nackS s t = s := by
  have h1 : outC s t = 3 := by unfold outC; rw [if_neg (fun g => g h), if_pos h2]
  exact ⟨h1, by unfold ackS; rw [if_neg (by rw [h1]; decide)], by unfold nackS; rw [if_neg (by rw [h1]; decide)]⟩
theorem ack_ok {s : Sd} {t : Int} {i : Nat} (h : MaySd s) (h2 : tagI s t = some i) : outC s t = 0 ∧ ackS s t = goneS s t ∧ nackS s t = { goneS s t with rd := { goneM s t with again := true } :: s.rd } := by
  have h1 : outC s t = 0 := by unfold outC; rw [if_neg (fun g => g h), if_neg (by rw [h2]; exact fun e => by cases e)]
  refine ⟨h1, ?_, ?_⟩
  · unfold ackS goneS outI; rw [if_pos h1, h2]; rfl
  · unfold nackS goneS goneM outM outI; rw [if_pos h1, h2]; rfl
theorem gone_sm {s : Sd} {t : Int} (h : s.rd.length ≤ 1000 ∧ s.hd.length ≤ 1000 ∧ s.ms.length ≤ 1000) : (goneS s t).rd = s.rd ∧ (goneS s t).ms = s.ms := by
  unfold goneS
  cases tagI s t with
  | none => exact ⟨rfl, rfl⟩
  | some i => exact ⟨rfl, rfl⟩

theorem own_one {w : World} {base g : Nat} (m : Mg) (hg : w.heap.size = g) (hb : base ≤ g) : OwnG (w.alloc (.cells #[.int .i64 m.pub, .int .i64 m.seq, .string ⟨m.key.toArray⟩, .string ⟨m.body.toArray⟩, .bool m.again] 35)) base (.slice (some ⟨g, 0, none⟩) 1 1) [m] := by
  subst hg
  exact World.ownsRow_lit w _ 1 hb (by decide) rfl
theorem OwnE.sdg {w w' w2 : World} {o : Option Nat} (ra : Option Addr) (rc : Nat) (ha : Option Addr) (hc : Nat) (ma : Option Addr) (mc : Nat) {s : Sd} (h : SdAt w ra rc ha hc ma mc s) (hg : w.grownBy w' o) (hlt : ∀ b, b < w2.heap.size → some b ≠ o) (h2 : SdAt w2 ra rc ha hc ma mc s) (hsz : w2.heap.size ≤ w.heap.size) : SdAt w' ra rc ha hc ma mc s := by
  have key : ∀ {α : Type} {k : Nat} {f : α → List Value} {a : Option Addr} {cap : Nat} {l : List α}, (∀ x, 0 < (f x).length) → RowsAt k f w a cap l → RowsAt k f w2 a cap l → RowsAt k f w' a cap l := by
    intro α k f a cap l hpos h1 h2
    refine ⟨h1.len, h1.max, fun h0 => ?_⟩
    obtain ⟨b, o', ha, hc⟩ := h1.at' h0
    obtain ⟨b2, o2, ha2, hc2⟩ := h2.at' h0
    obtain ⟨rfl, rfl⟩ : b = b2 ∧ o' = o2 := by rw [ha] at ha2; injection ha2 with he; injection he with e1 e2; exact ⟨e1, e2⟩
    have hb : b < w2.heap.size := by
      obtain ⟨v, hv⟩ : ∃ v, (f l[0])[0]? = some v := ⟨_, List.getElem?_eq_getElem (hpos _)⟩
      exact lt_of_cell (hc2 0 h0 0 v hv)
    exact ⟨b, o', ha, fun i hi r v hv => (World.cell?_of_block (w := w) (a := ⟨b, o' + i * k + r, none⟩) (hg.block b (by omega) (hlt b hb))).trans (hc i hi r v hv)⟩
  exact ⟨key (fun _ => Nat.zero_lt_succ _) h.rd h2.rd, key (fun _ => Nat.zero_lt_succ _) h.hd h2.hd, key (fun _ => Nat.zero_lt_succ _) h.ms h2.ms, h.nr, h.nh, h.nm, h.sm⟩
theorem shr_two {w w2 : World} {g : Nat} {s' : Sd} (c : Int) (ra : Option Addr) (rc : Nat) (ha : Option Addr) (hc : Nat) (ma : Option Addr) (mc : Nat) {b0 : Bool} {n0 : Int} {a1 : Option Addr} {l1 c1 : Nat} {a2 : Option Addr} {l2 c2 : Nat} {a3 : Option Addr} {l3 c3 : Nat} {T : TypeId} (x y z u v : Value) (o1 o2 : Obj) (hs : SdAt w2 ra rc ha hc ma mc s') (hx : w2.heap[g]? = some (.cells #[.bool b0, .int .i64 n0, .slice a1 l1 c1, .slice a2 l2 c2, .slice a3 l3 c3] T (0, 0))) (hb : Below w.heap.size w w2) (hg : w.heap.size ≤ g) :
    ShR s' c w (.returned (.tuple #[.agg #[.bool s'.fr, .int .i64 s'.nx, .slice ra s'.rd.length rc, .slice ha s'.hd.length hc, .slice ma s'.ms.length mc], .int .i64 c])) (((set5 w2 g x y z u v).alloc o1).alloc o2) := by
  have h1 : SdAt (set5 w2 g x y z u v) ra rc ha hc ma mc s' := sd_keep _ _ _ _ _ _ hs hx fun b hb => set5_heap _ _ _ _ _ _ _ _ hb
  have h2 := set5_below hb hg x y z u v
  exact shr_of _ _ _ _ _ _ (sd_al _ _ _ _ _ _ (sd_al _ _ _ _ _ _ h1 o1) o2) (low_al (low_al h2 (Nat.le_refl _) o1) (Nat.le_refl _) o2)

set_option maxRecDepth 100000 in
set_option maxHeartbeats 4000000 in
theorem rack_any (s : Sd) (t : Int) (ra : Option Addr) (rc : Nat) (ha : Option Addr) (hc : Nat) (ma : Option Addr) (mc : Nat) (w : World) (hs : SdAt w ra rc ha hc ma mc s) : Calls Try.prog 28 #[.agg #[.bool s.fr, .int .i64 s.nx, .slice ra s.rd.length rc, .slice ha s.hd.length hc, .slice ma s.ms.length mc], .int .i64 t] w (ShR (ackS s t) (outC s t) w) := by
  obtain ⟨hx, hy, hb0, hWs⟩ := two_box (w := w) (.cells #[.bool s.fr, .int .i64 s.nx, .slice ra s.rd.length rc, .slice ha s.hd.length hc, .slice ma s.ms.length mc] 26) (.cells #[.bool false, .int .i64 0, .slice none 0 0, .slice none 0 0, .slice none 0 0] 26)
  obtain ⟨W, hW⟩ : ∃ W, W = (w.alloc (.cells #[.bool s.fr, .int .i64 s.nx, .slice ra s.rd.length rc, .slice ha s.hd.length hc, .slice ma s.ms.length mc] 26)).alloc (.cells #[.bool false, .int .i64 0, .slice none 0 0, .slice none 0 0, .slice none 0 0] 26) := ⟨_, rfl⟩
  rw [← hW] at hx hy hb0 hWs
  have HBX := Lib.hid (boxes ra rc ha hc ma mc hx hy (by omega))
  have HB0 := Lib.hid hb0
  have HWS := Lib.hid hWs
  have HS1 := Lib.hid (hs.below ra rc ha hc ma mc hb0)
  have HS0 := Lib.hid hs
  have HW := Lib.hid hW
  have HMAY := Lib.hid (rmay_any s ra rc ha hc ma mc W HS1.out)
  rw [hW] at HMAY
  have HOUT := Lib.hid fun wx (hx : Below W.heap.size W wx) => rout_any s t ra rc ha hc ma mc wx (HS1.out.below _ _ _ _ _ _ hx)
  unfold OutR at HOUT
  clear hs hx hy hb0 hWs hW
  by_cases h1 : MaySd s
  case neg =>
    have HR := Lib.hid (ack_arg (t := t) h1)
    rw [decide_eq_false h1] at HMAY
    clear h1
    go_enter Try.func28, Try.ntmps28
    go_wp2_with (first | (go_at_call 25; refine HMAY.out.mono ?_; rintro e w1 ⟨rfl, hb1⟩; rw [← HW.out] at hb1; have HB1 := Lib.hid hb1; obtain ⟨⟨c0, c1, c2, c3, c4⟩, -⟩ := box5 (HBX.out _ hb1).1; obtain ⟨⟨d0, d1, d2, d3, d4⟩, f0, f1, f2, f3, f4⟩ := box5 (HBX.out _ hb1).2; clear hb1))
    refine bodyPost_ret (v := .tuple #[.agg #[.bool s.fr, .int .i64 s.nx, .slice ra s.rd.length rc, .slice ha s.hd.length hc, .slice ma s.ms.length mc], .int .i64 1]) (by simp [results, Try.results28, go_sem, *]) rfl ?_
    rw [HR.out.1, HR.out.2.1]
    have hsz := HWS.out
    have hs1 := HB1.out.size
    have hbl : Below w.heap.size w w1 := HB0.out.trans (HB1.out.mono HB0.out.size)
    refine shr_of _ _ _ _ _ _ (HS0.out.below _ _ _ _ _ _ ?_) ?_
    all_goals
      repeat (refine low_set ?_ (by omega))
      exact hbl
  rw [decide_eq_true h1] at HMAY
  cases h2 : tagI s t with
  | none =>
    have HR := Lib.hid (ack_none h1 h2)
    rw [h2] at HOUT
    clear h1 h2
    go_enter Try.func28, Try.ntmps28
    go_wp2_with (first | (go_at_call 25; refine HMAY.out.mono ?_; rintro e w1 ⟨rfl, hb1⟩; rw [← HW.out] at hb1; have HB1 := Lib.hid hb1; obtain ⟨⟨c0, c1, c2, c3, c4⟩, -⟩ := box5 (HBX.out _ hb1).1; clear hb1) | (go_at_call 77; refine (HOUT.out _ HB1.out).mono ?_; rintro e w2 ⟨ra2, rc2, ha2, hc2, ma2, mc2, rfl, hs2, hb2⟩; have HS2 := Lib.hid hs2; have HB2 := Lib.hid (HB1.out.trans (hb2.mono HB1.out.size)); obtain ⟨⟨x0, x1, x2, x3, x4⟩, k0, k1, k2, k3, k4⟩ := box5 (HBX.out _ HB2.out).1; obtain ⟨⟨d0, d1, d2, d3, d4⟩, f0, f1, f2, f3, f4⟩ := box5 (HBX.out _ HB2.out).2; have n0 : ¬ w.heap.size = w2.heap.size := (by have := HB2.out.size; have := HWS.out; omega); have n1 : ¬ w.heap.size + 1 = w2.heap.size := (by have := HB2.out.size; have := HWS.out; omega); have n2 : w.heap.size < w2.heap.size := (by have := HB2.out.size; have := HWS.out; omega); have n3 : w.heap.size + 1 < w2.heap.size := (by have := HB2.out.size; have := HWS.out; omega); clear hs2 hb2 c0 c1 c2 c3 c4))
    refine bodyPost_ret (v := .tuple #[.agg #[.bool s.fr, .int .i64 s.nx, .slice ra s.rd.length rc, .slice ha s.hd.length hc, .slice ma s.ms.length mc], .int .i64 3]) (by simp [results, Try.results28, go_sem, *]) rfl ?_
    rw [HR.out.1, HR.out.2.1]
    exact shr_two _ _ _ _ _ _ _ _ _ _ _ _ _ _ (HS0.out.below _ _ _ _ _ _ (HB0.out.trans (HB2.out.mono HB0.out.size))) (HBX.out _ HB2.out).2 (HB0.out.trans (HB2.out.mono HB0.out.size)) (by omega)
  | some i =>
    have HR := Lib.hid (ack_ok h1 h2)
    rw [h2] at HOUT
    clear h1 h2
    go_enter Try.func28, Try.ntmps28
    go_wp2_with (first | (go_at_call 25; refine HMAY.out.mono ?_; rintro e w1 ⟨rfl, hb1⟩; rw [← HW.out] at hb1; have HB1 := Lib.hid hb1; obtain ⟨⟨c0, c1, c2, c3, c4⟩, -⟩ := box5 (HBX.out _ hb1).1; clear hb1) | (go_at_call 77; refine (HOUT.out _ HB1.out).mono ?_; rintro e w2 ⟨ra2, rc2, ha2, hc2, ma2, mc2, rfl, hs2, hb2⟩; have HS2 := Lib.hid hs2; have HB2 := Lib.hid (HB1.out.trans (hb2.mono HB1.out.size)); have HX2 := Lib.hid (HBX.out _ HB2.out).2; obtain ⟨⟨x0, x1, x2, x3, x4⟩, k0, k1, k2, k3, k4⟩ := box5 (HBX.out _ HB2.out).1; obtain ⟨⟨d0, d1, d2, d3, d4⟩, f0, f1, f2, f3, f4⟩ := box5 (HBX.out _ HB2.out).2; have n0 : ¬ w.heap.size = w2.heap.size := (by have := HB2.out.size; have := HWS.out; omega); have n1 : ¬ w.heap.size + 1 = w2.heap.size := (by have := HB2.out.size; have := HWS.out; omega); have n2 : w.heap.size < w2.heap.size := (by have := HB2.out.size; have := HWS.out; omega); have n3 : w.heap.size + 1 < w2.heap.size := (by have := HB2.out.size; have := HWS.out; omega); clear hs2 hb2 c0 c1 c2 c3 c4))
    refine bodyPost_ret (v := .tuple #[.agg #[.bool (goneS s t).fr, .int .i64 (goneS s t).nx, .slice ra2 (goneS s t).rd.length rc2, .slice ha2 (goneS s t).hd.length hc2, .slice ma2 (goneS s t).ms.length mc2], .int .i64 0]) (by simp [results, Try.results28, go_sem, *]) rfl ?_
    rw [HR.out.1, HR.out.2.1]
    exact shr_two _ _ _ _ _ _ _ _ _ _ _ _ _ _ HS2.out HX2.out (HB0.out.trans (HB2.out.mono HB0.out.size)) (by omega)

set_option maxRecDepth 100000 in
set_option maxHeartbeats 4000000 in
theorem rnack_any (s : Sd) (t : Int) (ra : Option Addr) (rc : Nat) (ha : Option Addr) (hc : Nat) (ma : Option Addr) (mc : Nat) (w : World) (hs : SdAt w ra rc ha hc ma mc s) : Calls Try.prog 30 #[.agg #[.bool s.fr, .int .i64 s.nx, .slice ra s.rd.length rc, .slice ha s.hd.length hc, .slice ma s.ms.length mc], .int .i64 t] w (ShR (nackS s t) (outC s t) w) := by
  obtain ⟨hx, hy, hb0, hWs⟩ := two_box (w := w) (.cells #[.bool s.fr, .int .i64 s.nx, .slice ra s.rd.length rc, .slice ha s.hd.length hc, .slice ma s.ms.length mc] 26) (.cells #[.bool false, .int .i64 0, .slice none 0 0, .slice none 0 0, .slice none 0 0] 26)
  obtain ⟨W, hW⟩ : ∃ W, W = (w.alloc (.cells #[.bool s.fr, .int .i64 s.nx, .slice ra s.rd.length rc, .slice ha s.hd.length hc, .slice ma s.ms.length mc] 26)).alloc (.cells #[.bool false, .int .i64 0, .slice none 0 0, .slice none 0 0, .slice none 0 0] 26) := ⟨_, rfl⟩
  rw [← hW] at hx hy hb0 hWs
  have HBX := Lib.hid (boxes ra rc ha hc ma mc hx hy (by omega))
  have HB0 := Lib.hid hb0
  have HWS := Lib.hid hWs
  have HS1 := Lib.hid (hs.below ra rc ha hc ma mc hb0)
  have HS0 := Lib.hid hs
  have HW := Lib.hid hW
  have HMAY := Lib.hid (rmay_any s ra rc ha hc ma mc W HS1.out)
  rw [hW] at HMAY
  have HOUT := Lib.hid fun wx (hx : Below W.heap.size W wx) => rout_any s t ra rc ha hc ma mc wx (HS1.out.below _ _ _ _ _ _ hx)
  unfold OutR at HOUT
  clear hs hx hy hb0 hWs hW
  by_cases h1 : MaySd s
  case neg =>
    have HR := Lib.hid (ack_arg (t := t) h1)
    rw [decide_eq_false h1] at HMAY
    clear h1
    go_enter Try.func30, Try.ntmps30
    go_wp2_with (first | (go_at_call 25; refine HMAY.out.mono ?_; rintro e w1 ⟨rfl, hb1⟩; rw [← HW.out] at hb1; have HB1 := Lib.hid hb1; obtain ⟨⟨c0, c1, c2, c3, c4⟩, -⟩ := box5 (HBX.out _ hb1).1; obtain ⟨⟨d0, d1, d2, d3, d4⟩, f0, f1, f2, f3, f4⟩ := box5 (HBX.out _ hb1).2; clear hb1))
    refine bodyPost_ret (v := .tuple #[.agg #[.bool s.fr, .int .i64 s.nx, .slice ra s.rd.length rc, .slice ha s.hd.length hc, .slice ma s.ms.length mc], .int .i64 1]) (by simp [results, Try.results30, go_sem, *]) rfl ?_
    rw [HR.out.1, HR.out.2.2]
    have hsz := HWS.out
    have hs1 := HB1.out.size
    have hbl : Below w.heap.size w w1 := HB0.out.trans (HB1.out.mono HB0.out.size)
    refine shr_of _ _ _ _ _ _ (HS0.out.below _ _ _ _ _ _ ?_) ?_
    all_goals
      repeat (refine low_set ?_ (by omega))
      exact hbl
  rw [decide_eq_true h1] at HMAY
  cases h2 : tagI s t with
  | none =>
    have HR := Lib.hid (ack_none h1 h2)
    rw [h2] at HOUT
    clear h1 h2
    go_enter Try.func30, Try.ntmps30
    go_wp2_with (first | (go_at_call 25; refine HMAY.out.mono ?_; rintro e w1 ⟨rfl, hb1⟩; rw [← HW.out] at hb1; have HB1 := Lib.hid hb1; obtain ⟨⟨c0, c1, c2, c3, c4⟩, -⟩ := box5 (HBX.out _ hb1).1; clear hb1) | (go_at_call 77; refine (HOUT.out _ HB1.out).mono ?_; rintro e w2 ⟨ra2, rc2, ha2, hc2, ma2, mc2, rfl, hs2, hb2⟩; have HS2 := Lib.hid hs2; have HB2 := Lib.hid (HB1.out.trans (hb2.mono HB1.out.size)); obtain ⟨⟨x0, x1, x2, x3, x4⟩, k0, k1, k2, k3, k4⟩ := box5 (HBX.out _ HB2.out).1; obtain ⟨⟨d0, d1, d2, d3, d4⟩, f0, f1, f2, f3, f4⟩ := box5 (HBX.out _ HB2.out).2; have n0 : ¬ w.heap.size = w2.heap.size := (by have := HB2.out.size; have := HWS.out; omega); have n1 : ¬ w.heap.size + 1 = w2.heap.size := (by have := HB2.out.size; have := HWS.out; omega); have n2 : w.heap.size < w2.heap.size := (by have := HB2.out.size; have := HWS.out; omega); have n3 : w.heap.size + 1 < w2.heap.size := (by have := HB2.out.size; have := HWS.out; omega); clear hs2 hb2 c0 c1 c2 c3 c4))
    refine bodyPost_ret (v := .tuple #[.agg #[.bool s.fr, .int .i64 s.nx, .slice ra s.rd.length rc, .slice ha s.hd.length hc, .slice ma s.ms.length mc], .int .i64 3]) (by simp [results, Try.results30, go_sem, *]) rfl ?_
    rw [HR.out.1, HR.out.2.2]
    exact shr_two _ _ _ _ _ _ _ _ _ _ _ _ _ _ (HS0.out.below _ _ _ _ _ _ (HB0.out.trans (HB2.out.mono HB0.out.size))) (HBX.out _ HB2.out).2 (HB0.out.trans (HB2.out.mono HB0.out.size)) (by omega)
  | some i =>
    have HR := Lib.hid (ack_ok h1 h2)
    have HRL : Hid (s.rd.length + 1 ≤ 1000) := Lib.hid (by have := h1.2.2.1; omega)
    have HG := Lib.hid (gone_sm (t := t) HS0.out.sm)
    rw [h2] at HOUT
    clear h1 h2
    go_enter Try.func30, Try.ntmps30
    go_wp2_with (first | (go_at_call 25; refine HMAY.out.mono ?_; rintro e w1 ⟨rfl, hb1⟩; rw [← HW.out] at hb1; have HB1 := Lib.hid hb1; obtain ⟨⟨c0, c1, c2, c3, c4⟩, -⟩ := box5 (HBX.out _ hb1).1; clear hb1) | (go_at_call 77; refine (HOUT.out _ HB1.out).mono ?_; rintro e w2 ⟨ra2, rc2, ha2, hc2, ma2, mc2, rfl, hs2, hb2⟩; have HS2 := Lib.hid hs2; have HB2 := Lib.hid (HB1.out.trans (hb2.mono HB1.out.size)); have HX2 := Lib.hid (HBX.out _ HB2.out); obtain ⟨⟨x0, x1, x2, x3, x4⟩, k0, k1, k2, k3, k4⟩ := box5 (HBX.out _ HB2.out).1; obtain ⟨⟨d0, d1, d2, d3, d4⟩, f0, f1, f2, f3, f4⟩ := box5 (HBX.out _ HB2.out).2; have n0 : ¬ w.heap.size = w2.heap.size := (by have := HB2.out.size; have := HWS.out; omega); have n1 : ¬ w.heap.size + 1 = w2.heap.size := (by have := HB2.out.size; have := HWS.out; omega); have n2 : w.heap.size < w2.heap.size := (by have := HB2.out.size; have := HWS.out; omega); have n3 : w.heap.size + 1 < w2.heap.size := (by have := HB2.out.size; have := HWS.out; omega); have n4 : ¬ w.heap.size = w2.heap.size + 1 := (by omega); have n5 : ¬ w.heap.size = w2.heap.size + 1 + 1 := (by omega); have n6 : ¬ w.heap.size = w2.heap.size + 2 := (by omega); have n7 : w.heap.size < w2.heap.size + 1 := (by omega); have n8 : w.heap.size < w2.heap.size + 1 + 1 := (by omega); clear hs2 hb2 c0 c1 c2 c3 c4) |
      (at_builtin; obtain ⟨t1, t2, t3, t4, t5⟩ := three_box (w := w2) (.cells #[.bool (goneS s t).fr, .int .i64 (goneS s t).nx, .slice ra2 (goneS s t).rd.length rc2, .slice ha2 (goneS s t).hd.length hc2, .slice ma2 (goneS s t).ms.length mc2] 26) (.cells #[.int .i64 ({ goneM s t with again := true } : Mg).pub, .int .i64 ({ goneM s t with again := true } : Mg).seq, .string ⟨({ goneM s t with again := true } : Mg).key.toArray⟩, .string ⟨({ goneM s t with again := true } : Mg).body.toArray⟩, .bool ({ goneM s t with again := true } : Mg).again] 35) (.cells #[.int .i64 ({ goneM s t with again := true } : Mg).pub, .int .i64 ({ goneM s t with again := true } : Mg).seq, .string ⟨({ goneM s t with again := true } : Mg).key.toArray⟩, .string ⟨({ goneM s t with again := true } : Mg).body.toArray⟩, .bool ({ goneM s t with again := true } : Mg).again] 35); have hb3 : Below w.heap.size w _ := HB0.out.trans ((HB2.out.trans (t4.mono HB2.out.size)).mono HB0.out.size); refine put_rows mgE (base := w2.heap.size + 2) (w := ((w2.alloc (.cells #[.bool (goneS s t).fr, .int .i64 (goneS s t).nx, .slice ra2 (goneS s t).rd.length rc2, .slice ha2 (goneS s t).hd.length hc2, .slice ma2 (goneS s t).ms.length mc2] 26)).alloc (.cells #[.int .i64 ({ goneM s t with again := true } : Mg).pub, .int .i64 ({ goneM s t with again := true } : Mg).seq, .string ⟨({ goneM s t with again := true } : Mg).key.toArray⟩, .string ⟨({ goneM s t with again := true } : Mg).body.toArray⟩, .bool ({ goneM s t with again := true } : Mg).again] 35)).alloc (.cells #[.int .i64 ({ goneM s t with again := true } : Mg).pub, .int .i64 ({ goneM s t with again := true } : Mg).seq, .string ⟨({ goneM s t with again := true } : Mg).key.toArray⟩, .string ⟨({ goneM s t with again := true } : Mg).body.toArray⟩, .bool ({ goneM s t with again := true } : Mg).again] 35)) (l := [({ goneM s t with again := true } : Mg)]) (m := s.rd) rfl (.tmp 25) (.tmp 27) rfl (own_one _ (by simp) (Nat.le_refl _)) (by rw [t5]; omega) rfl _ rfl rfl (HS0.out.below _ _ _ _ _ _ hb3).rd (by have := HRL.out; simp; omega) HS0.out.nr ?_; intro v4 w4 hr4 hg4; obtain ⟨xr, cr, rfl, hat4, hnn4⟩ := OwnE.at mgE hr4; clear k0 k1 k2 k3 k4 d0 d1 d2 d3 d4 f0 f1 f2 f3 f4 x0 x1 x2 x3 x4; have HR4 := Lib.hid hr4; have q1 := (hg4.block w2.heap.size (by rw [t5]; omega) (by intro e; have e : w2.heap.size = w2.heap.size + 1 + 1 := Option.some.inj e; omega)).trans t1; have q2 := (hg4.block (w.heap.size + 1) (by rw [t5]; omega) (by intro e; have e : w.heap.size + 1 = w2.heap.size + 1 + 1 := Option.some.inj e; omega)).trans (box_bl HX2.out.2 t4); have HBB := Lib.hid (And.intro q1 q2); have hs4 := hg4.size; rw [t5] at hs4; have HS4 : Hid (SdAt w4 ra2 rc2 ha2 hc2 ma2 mc2 (goneS s t)) := Lib.hid (OwnE.sdg _ _ _ _ _ _ (HS2.out.below _ _ _ _ _ _ t4) hg4 (by intro b hb e; have e : b = w2.heap.size + 1 + 1 := Option.some.inj e; omega) HS2.out (by rw [t5]; omega)); have HB4 : Hid (Below w.heap.size w w4) := Lib.hid (hb3.grown hg4 (by rw [t5]; omega) (by intro b e; have e : b = w2.heap.size + 1 + 1 := (Option.some.inj e).symm; omega)); have m1 : ¬ w2.heap.size = w.heap.size + 1 := (by omega); have m2 : ¬ w.heap.size + 1 = w2.heap.size := (by omega); obtain ⟨⟨y0, y1, y2, y3, y4⟩, z0, z1, z2, z3, z4⟩ := box5 q1; obtain ⟨⟨d0, d1, d2, d3, d4⟩, f0, f1, f2, f3, f4⟩ := box5 q2; clear t1 t2 t3 t4 t5 hb3 hr4 hg4 hat4 hnn4 q1 q2))
    refine bodyPost_ret (v := .tuple #[.agg #[.bool (goneS s t).fr, .int .i64 (goneS s t).nx, .slice xr (s.rd.length + 1) cr, .slice ha2 (goneS s t).hd.length hc2, .slice ma2 (goneS s t).ms.length mc2], .int .i64 0]) (by simp [results, Try.results30, go_sem, *]) rfl ?_
    rw [HR.out.1, HR.out.2.2]
    have hn2 : w.heap.size + 1 < w2.heap.size := n3
    have ho4 : OwnG w4 (w2.heap.size + 2) (.slice xr (s.rd.length + 1) cr) (({ goneM s t with again := true } : Mg) :: s.rd) := HR4.out
    generalize hV : (Value.slice xr (s.rd.length + 1) cr) = V at *
    have hk1 : SdAt (w4.setCell ⟨w2.heap.size, 2, none⟩ V) ra2 rc2 ha2 hc2 ma2 mc2 (goneS s t) := sd_keep _ _ _ _ _ _ HS4.out HBB.out.1 (fun b hb => Below.heap_setCell w4 ⟨w2.heap.size, 2, none⟩ V b hb)
    have hx1 := (Below.heap_setCell w4 ⟨w2.heap.size, 2, none⟩ V (w.heap.size + 1) (by show w.heap.size + 1 ≠ w2.heap.size; omega)).trans HBB.out.2
    have hb1 : Below w.heap.size w (w4.setCell ⟨w2.heap.size, 2, none⟩ V) := low_set HB4.out (by omega)
    have ho5 : OwnG (w4.setCell ⟨w2.heap.size, 2, none⟩ V) (w2.heap.size + 2) V (({ goneM s t with again := true } : Mg) :: s.rd) := OwnE.kept ho4 fun b hb _ => Below.heap_setCell w4 ⟨w2.heap.size, 2, none⟩ V b (by show b ≠ w2.heap.size; omega)
    generalize w4.setCell ⟨w2.heap.size, 2, none⟩ V = w5 at *
    have hk2 : SdAt (set5 w5 (w.heap.size + 1) (.bool (goneS s t).fr) (.int .i64 (goneS s t).nx) V (.slice ha2 (goneS s t).hd.length hc2) (.slice ma2 (goneS s t).ms.length mc2)) ra2 rc2 ha2 hc2 ma2 mc2 (goneS s t) := sd_keep _ _ _ _ _ _ hk1 hx1 fun b hb => set5_heap _ _ _ _ _ _ _ _ hb
    have ho6 : OwnG (set5 w5 (w.heap.size + 1) (.bool (goneS s t).fr) (.int .i64 (goneS s t).nx) V (.slice ha2 (goneS s t).hd.length hc2) (.slice ma2 (goneS s t).ms.length mc2)) (w2.heap.size + 2) V (({ goneM s t with again := true } : Mg) :: s.rd) := OwnE.kept ho5 fun b hb _ => set5_heap _ _ _ _ _ _ _ _ (by omega)
    subst hV
    obtain ⟨a', c', he, h2, h3⟩ := OwnE.at mgE ho6
    obtain ⟨rfl, -, rfl⟩ := Value.slice.inj he
    have hsm := hk2.sm
    exact ⟨_, _, _, _, _, _, rfl, ⟨h2, hk2.hd, hk2.ms, h3, hk2.nh, hk2.nm, HRL.out, hsm.2.1, hsm.2.2⟩, set5_below hb1 (by omega) _ _ _ _ _⟩

end Go.Proofs.Ythohjcfpobeplaa.Sh
