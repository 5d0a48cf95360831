/-
  The document's Ack, Nack, walked.
-/
import Derived.Test.YtgebfdgpbogalaaShROut
namespace Go.Proofs.Ytgebfdgpbogalaa.Sh
open Go.RowKit Rg Go.Sort
set_option linter.unusedVariables false
set_option linter.unusedSimpArgs false

theorem ack_arg {s : Sd} {t : Int} (h : ¬ MaySd s) : outC s t = 1 ∧ ackS s t = s ∧ nackS s t = s := by
  have h1 : outC s t = 1 := by unfold outC; rw [if_pos h]
  exact ⟨h1, by unfold ackS; rw [if_neg (by rw [h1]; decide)], by unfold nackS; rw [if_neg (by rw [h1]; decide)]⟩
theorem ack_none {s : Sd} {t : Int} (h : MaySd s) (h2 : tagI s t = none) : outC s t = 3 ∧ ackS s t = s ∧ nackS s t = s := by
  have h1 : outC s t = 3 := by unfold outC; rw [if_neg (fun g => g h), if_pos h2]
  exact ⟨h1, by unfold ackS; rw [if_neg (by rw [h1]; decide)], by unfold nackS; rw [if_neg (by rw [h1]; decide)]⟩
theorem ack_ok {s : Sd} {t : Int} {i : Nat} (h : MaySd s) (h2 : tagI s t = some i) : outC s t = 0 ∧ ackS s t = goneS s t ∧ nackS s t = { goneS s t with rd := { goneM s t with again := true } :: s.rd } := by
  have h1 : outC s t = 0 := by unfold outC; rw [if_neg (fun g => g h), if_neg (by rw [h2]; exact fun e => by cases e)]
  refine ⟨h1, ?_, ?_⟩
  · unfold ackS goneS outI; rw [if_pos h1, h2]; rfl
  · unfold nackS goneS goneM outM outI; rw [if_pos h1, h2]; rfl
theorem gone_sm {s : Sd} {t : Int} (h : s.rd.length ≤ 1000 ∧ s.hd.length ≤ 1000 ∧ s.ms.length ≤ 1000) : (goneS s t).rd = s.rd ∧ (goneS s t).ms = s.ms := by
  unfold goneS
  cases tagI s t with
  | none => exact ⟨rfl, rfl⟩
  | some i => exact ⟨rfl, rfl⟩

theorem own_one {w : World} {base g : Nat} (m : Mg) (hg : w.heap.size = g) (hb : base ≤ g) : OwnG (w.alloc (.cells #[.int .i64 m.pub, .int .i64 m.seq, .string ⟨m.key.toArray⟩, .string ⟨m.body.toArray⟩, .bool m.again] 40)) base (.slice (some ⟨g, 0, none⟩) 1 1) [m] := by
  subst hg
  exact World.ownsRow_lit w _ 1 hb (by decide) rfl
theorem OwnE.sdg {w w' w2 : World} {o : Option Nat} (ra : Option Addr) (rc : Nat) (ha : Option Addr) (hc : Nat) (ma : Option Addr) (mc : Nat) {s : Sd} (h : SdAt w ra rc ha hc ma mc s) (hg : w.grownBy w' o) (hlt : ∀ b, b < w2.heap.size → some b ≠ o) (h2 : SdAt w2 ra rc ha hc ma mc s) (hsz : w2.heap.size ≤ w.heap.size) : SdAt w' ra rc ha hc ma mc s := by
  have key : ∀ {α : Type} {k : Nat} {f : α → List Value} {a : Option Addr} {cap : Nat} {l : List α}, (∀ x, 0 < (f x).length) → RowsAt k f w a cap l → RowsAt k f w2 a cap l → RowsAt k f w' a cap l := by
    intro α k f a cap l hpos h1 h2
    refine ⟨h1.len, h1.max, fun h0 => ?_⟩
    obtain ⟨b, o', ha, hc⟩ := h1.at' h0
    obtain ⟨b2, o2, ha2, hc2⟩ := h2.at' h0
    obtain ⟨rfl, rfl⟩ : b = b2 ∧ o' = o2 := by rw [ha] at ha2; injection ha2 with he; injection he with e1 e2; exact ⟨e1, e2⟩
    have hb : b < w2.heap.size := by
      obtain ⟨v, hv⟩ : ∃ v, (f l[0])[0]? = some v := ⟨_, List.getElem?_eq_getElem (hpos _)⟩
      exact lt_of_cell (hc2 0 h0 0 v hv)
    exact ⟨b, o', ha, fun i hi r v hv => (World.cell?_of_block (w := w) (a := ⟨b, o' + i * k + r, none⟩) (hg.block b (by omega) (hlt b hb))).trans (hc i hi r v hv)⟩
  exact ⟨key (fun _ => Nat.zero_lt_succ _) h.rd h2.rd, key (fun _ => Nat.zero_lt_succ _) h.hd h2.hd, key (fun _ => Nat.zero_lt_succ _) h.ms h2.ms, h.nr, h.nh, h.nm, h.sm⟩
theorem shr_two {w w2 : World} {g : Nat} {s' : Sd} (c : Int) (ra : Option Addr) (rc : Nat) (ha : Option Addr) (hc : Nat) (ma : Option Addr) (mc : Nat) {b0 : Bool} {n0 : Int} {a1 : Option Addr} {l1 c1 : Nat} {a2 : Option Addr} {l2 c2 : Nat} {a3 : Option Addr} {l3 c3 : Nat} {T : TypeId} (x y z u v : Value) (o1 o2 : Obj) (hs : SdAt w2 ra rc ha hc ma mc s') (hx : w2.heap[g]? = some (.cells #[.bool b0, .int .i64 n0, .slice a1 l1 c1, .slice a2 l2 c2, .slice a3 l3 c3] T (0, 0))) (hb : Below w.heap.size w w2) (hg : w.heap.size ≤ g) :
    ShR s' c w (.returned (.tuple #[.agg #[.bool s'.fr, .int .i64 s'.nx, .slice ra s'.rd.length rc, .slice ha s'.hd.length hc, .slice ma s'.ms.length mc], .int .i64 c])) (((set5 w2 g x y z u v).alloc o1).alloc o2) := by
  have h1 : SdAt (set5 w2 g x y z u v) ra rc ha hc ma mc s' := sd_keep _ _ _ _ _ _ hs hx fun b hb => set5_heap _ _ _ _ _ _ _ _ hb
  have h2 := set5_below hb hg x y z u v
  exact shr_of _ _ _ _ _ _ (sd_al _ _ _ _ _ _ (sd_al _ _ _ _ _ _ h1 o1) o2) (low_al (low_al h2 (Nat.le_refl _) o1) (Nat.le_refl _) o2)

set_option maxRecDepth 100000 in
set_option maxHeartbeats 4000000 in
theorem rack_any (s : Sd) (t : Int) (ra : Option Addr) (rc : Nat) (ha : Option Addr) (hc : Nat) (ma : Option Addr) (mc : Nat) (w : World) (hs : SdAt w ra rc ha hc ma mc s) : Calls Try.prog 38 #[.agg #[.bool s.fr, .int .i64 s.nx, .slice ra s.rd.length rc, .slice ha s.hd.length hc, .slice ma s.ms.length mc], .int .i64 t] w (ShR (ackS s t) (outC s t) w) := by
  obtain ⟨hx, hy, hb0, hWs⟩ := two_box (w := w) (.cells #[.bool s.fr, .int .i64 s.nx, .slice ra s.rd.length rc, .slice ha s.hd.length hc, .slice ma s.ms.length mc] 47) (.cells #[.bool false, .int .i64 0, .slice none 0 0, .slice none 0 0, .slice none 0 0] 47)
  obtain ⟨W, hW⟩ : ∃ W, W = (w.alloc (.cells #[.bool s.fr, .int .i64 s.nx, .slice ra s.rd.length rc, .slice ha s.hd.length hc, .slice ma s.ms.length mc] 47)).alloc (.cells #[.bool false, .int .i64 0, .slice none 0 0, .slice none 0 0, .slice none 0 0] 47) := ⟨_, rfl⟩
  rw [← hW] at hx hy hb0 hWs
  have HBX := Lib.hid (boxes ra rc ha hc ma mc hx hy (by omega))
  have HB0 := Lib.hid hb0
  have HWS := Lib.hid hWs
  have HS1 := Lib.hid (hs.below ra rc ha hc ma mc hb0)
  have HS0 := Lib.hid hs
  have HW := Lib.hid hW
  have HMAY := Lib.hid (rmay_any s ra rc ha hc ma mc W HS1.out)
  rw [hW] at HMAY
  have HOUT := Lib.hid fun wx (hx : Below W.heap.size W wx) => rout_any s t ra rc ha hc ma mc wx (HS1.out.below _ _ _ _ _ _ hx)
  unfold OutR at HOUT
  clear hs hx hy hb0 hWs hW
  by_cases h1 : MaySd s
  case neg =>
    have HR := Lib.hid (ack_arg (t := t) h1)
    rw [decide_eq_false h1] at HMAY
    clear h1
    go_enter Try.func38, Try.ntmps38
    go_wp2_with (first | (go_at_call 65; refine HMAY.out.mono ?_; rintro e w1 ⟨rfl, hb1⟩; rw [← HW.out] at hb1; have HB1 := Lib.hid hb1; obtain ⟨⟨c0, c1, c2, c3, c4⟩, -⟩ := box5 (HBX.out _ hb1).1; obtain ⟨⟨d0, d1, d2, d3, d4⟩, f0, f1, f2, f3, f4⟩ := box5 (HBX.out _ hb1).2; clear hb1))
    refine bodyPost_ret (v := .tuple #[.agg #[.bool s.fr, .int .i64 s.nx, .slice ra s.rd.length rc, .slice ha s.hd.length hc, .slice ma s.ms.length mc], .int .i64 1]) (by simp [results, Try.results38, go_sem, *]) rfl ?_
    rw [HR.out.1, HR.out.2.1]
    have hsz := HWS.out
    have hs1 := HB1.out.size
    have hbl : Below w.heap.size w w1 := HB0.out.trans (HB1.out.mono HB0.out.size)
    refine shr_of _ _ _ _ _ _ (HS0.out.below _ _ _ _ _ _ ?_) ?_
    all_goals
      repeat (refine low_set ?_ (by omega))
      exact hbl
  rw [decide_eq_true h1] at HMAY
  cases h2 : tagI s t with
  | none =>
    have HR := Lib.hid (ack_none h1 h2)
    rw [h2] at HOUT
    clear h1 h2
    go_enter Try.func38, Try.ntmps38
    go_wp2_with (first | (go_at_call 65; refine HMAY.out.mono ?_; rintro e w1 ⟨rfl, hb1⟩; rw [← HW.out] at hb1; have HB1 := Lib.hid hb1; obtain ⟨⟨c0, c1, c2, c3, c4⟩, -⟩ := box5 (HBX.out _ hb1).1; clear hb1) | (go_at_call 68; refine (HOUT.out _ HB1.out).mono ?_; rintro e w2 ⟨ra2, rc2, ha2, hc2, ma2, mc2, rfl, hs2, hb2⟩; have HS2 := Lib.hid hs2; have HB2 := Lib.hid (HB1.out.trans (hb2.mono HB1.out.size)); obtain ⟨⟨x0, x1, x2, x3, x4⟩, k0, k1, k2, k3, k4⟩ := box5 (HBX.out _ HB2.out).1; obtain ⟨⟨d0, d1, d2, d3, d4⟩, f0, f1, f2, f3, f4⟩ := box5 (HBX.out _ HB2.out).2; have n0 : ¬ w.heap.size = w2.heap.size := (by have := HB2.out.size; have := HWS.out; omega); have n1 : ¬ w.heap.size + 1 = w2.heap.size := (by have := HB2.out.size; have := HWS.out; omega); have n2 : w.heap.size < w2.heap.size := (by have := HB2.out.size; have := HWS.out; omega); have n3 : w.heap.size + 1 < w2.heap.size := (by have := HB2.out.size; have := HWS.out; omega); clear hs2 hb2 c0 c1 c2 c3 c4))
    refine bodyPost_ret (v := .tuple #[.agg #[.bool s.fr, .int .i64 s.nx, .slice ra s.rd.length rc, .slice ha s.hd.length hc, .slice ma s.ms.length mc], .int .i64 3]) (by simp [results, Try.results38, go_sem, *]) rfl ?_
    rw [HR.out.1, HR.out.2.1]
    exact shr_two _ _ _ _ _ _ _ _ _ _ _ _ _ _ (HS0.out.below _ _ _ _ _ _ (HB0.out.trans (HB2.out.mono HB0.out.size))) (HBX.out _ HB2.out).2 (HB0.out.trans (HB2.out.mono HB0.out.size)) (by omega)
  | some i =>
    have HR := Lib.hid (ack_ok h1 h2)
    rw [h2] at HOUT
    clear h1 h2
    go_enter Try.func38, Try.ntmps38
    go_wp2_with (first | (go_at_call 65; refine HMAY.out.mono ?_; rintro e w1 ⟨rfl, hb1⟩; rw [← HW.out] at hb1; have HB1 := Lib.hid hb1; obtain ⟨⟨c0, c1, c2, c3, c4⟩, -⟩ := box5 (HBX.out _ hb1).1; clear hb1) | (go_at_call 68; refine (HOUT.out _ HB1.out).mono ?_; rintro e w2 ⟨ra2, rc2, ha2, hc2, ma2, mc2, rfl, hs2, hb2⟩; have HS2 := Lib.hid hs2; have HB2 := Lib.hid (HB1.out.trans (hb2.mono HB1.out.size)); have HX2 := Lib.hid (HBX.out _ HB2.out).2; obtain ⟨⟨x0, x1, x2, x3, x4⟩, k0, k1, k2, k3, k4⟩ := box5 (HBX.out _ HB2.out).1; obtain ⟨⟨d0, d1, d2, d3, d4⟩, f0, f1, f2, f3, f4⟩ := box5 (HBX.out _ HB2.out).2; have n0 : ¬ w.heap.size = w2.heap.size := (by have := HB2.out.size; have := HWS.out; omega); have n1 : ¬ w.heap.size + 1 = w2.heap.size := (by have := HB2.out.size; have := HWS.out; omega); have n2 : w.heap.size < w2.heap.size := (by have := HB2.out.size; have := HWS.out; omega); have n3 : w.heap.size + 1 < w2.heap.size := (by have := HB2.out.size; have := HWS.out; omega); clear hs2 hb2 c0 c1 c2 c3 c4))
    refine bodyPost_ret (v := .tuple #[.agg #[.bool (goneS s t).fr, .int .i64 (goneS s t).nx, .slice ra2 (goneS s t).rd.length rc2, .slice ha2 (goneS s t).hd.length hc2, .slice ma2 (goneS s t).ms.length mc2], .int .i64 0]) (by simp [results, Try.results38, go_sem, *]) rfl ?_
    rw [HR.out.1, HR.out.2.1]
    exact shr_two _ _ _ _ _ _ _ _ _ _ _ _ _ _ HS2.out HX2.out (HB0.out.trans (HB2.out.mono HB0.out.size)) (by omega)

set_option maxRecDepth 100000 in
set_option maxHeartbeats 4000000 in
theorem rnack_any (s : Sd) (t : Int) (ra : Option Addr) (rc : Nat) (ha : Option Addr) (hc : Nat) (ma : Option Addr) (mc : Nat) (w : World) (hs : SdAt w ra rc ha hc ma mc s) : Calls Try.prog 39 #[.agg #[.bool s.fr, .int .i64 s.nx, .slice ra s.rd.length rc, .slice ha s.hd.length hc, .slice ma s.ms.length mc], .int .i64 t] w (ShR (nackS s t) (outC s t) w) := by
  obtain ⟨hx, hy, hb0, hWs⟩ := two_box (w := w) (.cells #[.bool s.fr, .int .i64 s.nx, .slice ra s.rd.length rc, .slice ha s.hd.length hc, .slice ma s.ms.length mc] 47) (.cells #[.bool false, .int .i64 0, .slice none 0 0, .slice none 0 0, .slice none 0 0] 47)
  obtain ⟨W, hW⟩ : ∃ W, W = (w.alloc (.cells #[.bool s.fr, .int .i64 s.nx, .slice ra s.rd.length rc, .slice ha s.hd.length hc, .slice ma s.ms.length mc] 47)).alloc (.cells #[.bool false, .int .i64 0, .slice none 0 0, .slice none 0 0, .slice none 0 0] 47) := ⟨_, rfl⟩
  rw [← hW] at hx hy hb0 hWs
  have HBX := Lib.hid (boxes ra rc ha hc ma mc hx hy (by omega))
  have HB0 := Lib.hid hb0
  have HWS := Lib.hid hWs
  have HS1 := Lib.hid (hs.below ra rc ha hc ma mc hb0)
  have HS0 := Lib.hid hs
  have HW := Lib.hid hW
  have HMAY := Lib.hid (rmay_any s ra rc ha hc ma mc W HS1.out)
  rw [hW] at HMAY
  have HOUT := Lib.hid fun wx (hx : Below W.heap.size W wx) => rout_any s t ra rc ha hc ma mc wx (HS1.out.below _ _ _ _ _ _ hx)
  unfold OutR at HOUT
  clear hs hx hy hb0 hWs hW
  by_cases h1 : MaySd s
  case neg =>
    have HR := Lib.hid (ack_arg (t := t) h1)
    rw [decide_eq_false h1] at HMAY
    clear h1
    go_enter Try.func39, Try.ntmps39
    go_wp2_with (first | (go_at_call 65; refine HMAY.out.mono ?_; rintro e w1 ⟨rfl, hb1⟩; rw [← HW.out] at hb1; have HB1 := Lib.hid hb1; obtain ⟨⟨c0, c1, c2, c3, c4⟩, -⟩ := box5 (HBX.out _ hb1).1; obtain ⟨⟨d0, d1, d2, d3, d4⟩, f0, f1, f2, f3, f4⟩ := box5 (HBX.out _ hb1).2; clear hb1))
    refine bodyPost_ret (v := .tuple #[.agg #[.bool s.fr, .int .i64 s.nx, .slice ra s.rd.length rc, .slice ha s.hd.length hc, .slice ma s.ms.length mc], .int .i64 1]) (by simp [results, Try.results39, go_sem, *]) rfl ?_
    rw [HR.out.1, HR.out.2.2]
    have hsz := HWS.out
    have hs1 := HB1.out.size
    have hbl : Below w.heap.size w w1 := HB0.out.trans (HB1.out.mono HB0.out.size)
    refine shr_of _ _ _ _ _ _ (HS0.out.below _ _ _ _ _ _ ?_) ?_
    all_goals
      repeat (refine low_set ?_ (by omega))
      exact hbl
  rw [decide_eq_true h1] at HMAY
  cases h2 : tagI s t with
  | none =>
    have HR := Lib.hid (ack_none h1 h2)
    rw [h2] at HOUT
    clear h1 h2
    go_enter Try.func39, Try.ntmps39
    go_wp2_with (first | (go_at_call 65; refine HMAY.out.mono ?_; rintro e w1 ⟨rfl, hb1⟩; rw [← HW.out] at hb1; have HB1 := Lib.hid hb1; obtain ⟨⟨c0, c1, c2, c3, c4⟩, -⟩ := box5 (HBX.out _ hb1).1; clear hb1) | (go_at_call 68; refine (HOUT.out _ HB1.out).mono ?_; rintro e w2 ⟨ra2, rc2, ha2, hc2, ma2, mc2, rfl, hs2, hb2⟩; have HS2 := Lib.hid hs2; have HB2 := Lib.hid (HB1.out.trans (hb2.mono HB1.out.size)); obtain ⟨⟨x0, x1, x2, x3, x4⟩, k0, k1, k2, k3, k4⟩ := box5 (HBX.out _ HB2.out).1; obtain ⟨⟨d0, d1, d2, d3, d4⟩, f0, f1, f2, f3, f4⟩ := box5 (HBX.out _ HB2.out).2; have n0 : ¬ w.heap.size = w2.heap.size := (by have := HB2.out.size; have := HWS.out; omega); have n1 : ¬ w.heap.size + 1 = w2.heap.size := (by have := HB2.out.size; have := HWS.out; omega); have n2 : w.heap.size < w2.heap.size := (by have := HB2.out.size; have := HWS.out; omega); have n3 : w.heap.size + 1 < w2.heap.size := (by have := HB2.out.size; have := HWS.out; omega); clear hs2 hb2 c0 c1 c2 c3 c4))
    refine bodyPost_ret (v := .tuple #[.agg #[.bool s.fr, .int .i64 s.nx, .slice ra s.rd.length rc, .slice ha s.hd.length hc, .slice ma s.ms.length mc], .int .i64 3]) (by simp [results, Try.results39, go_sem, *]) rfl ?_
    rw [HR.out.1, HR.out.2.2]
    exact shr_two _ _ _ _ _ _ _ _ _ _ _ _ _ _ (HS0.out.below _ _ _ _ _ _ (HB0.out.trans (HB2.out.mono HB0.out.size))) (HBX.out _ HB2.out).2 (HB0.out.trans (HB2.out.mono HB0.out.size)) (by omega)
  | some i =>
    have HR := Lib.hid (ack_ok h1 h2)
    have HRL : Hid (s.rd.length + 1 ≤ 1000) := Lib.hid (by have := h1.2.2.1; omega)
    have HG := Lib.hid (gone_sm (t := t) HS0.out.sm)
    rw [h2] at HOUT
    clear h1 h2
    go_enter Try.func39, Try.ntmps39
    go_wp2_with (first | (go_at_call 65; refine HMAY.out.mono ?_; rintro e w1 ⟨rfl, hb1⟩; rw [← HW.out] at hb1; have HB1 := Lib.hid hb1; obtain ⟨⟨c0, c1, c2, c3, c4⟩, -⟩ := box5 (HBX.out _ hb1).1; clear hb1) | (go_at_call 68; refine (HOUT.out _ HB1.out).mono ?_; rintro e w2 ⟨ra2, rc2, ha2, hc2, ma2, mc2, rfl, hs2, hb2⟩; have HS2 := Lib.hid hs2; have HB2 := Lib.hid (HB1.out.trans (hb2.mono HB1.out.size)); have HX2 := Lib.hid (HBX.out _ HB2.out); obtain ⟨⟨x0, x1, x2, x3, x4⟩, k0, k1, k2, k3, k4⟩ := box5 (HBX.out _ HB2.out).1; obtain ⟨⟨d0, d1, d2, d3, d4⟩, f0, f1, f2, f3, f4⟩ := box5 (HBX.out _ HB2.out).2; have n0 : ¬ w.heap.size = w2.heap.size := (by have := HB2.out.size; have := HWS.out; omega); have n1 : ¬ w.heap.size + 1 = w2.heap.size := (by have := HB2.out.size; have := HWS.out; omega); have n2 : w.heap.size < w2.heap.size := (by have := HB2.out.size; have := HWS.out; omega); have n3 : w.heap.size + 1 < w2.heap.size := (by have := HB2.out.size; have := HWS.out; omega); have n4 : ¬ w.heap.size = w2.heap.size + 1 := (by omega); have n5 : ¬ w.heap.size = w2.heap.size + 1 + 1 := (by omega); have n6 : ¬ w.heap.size = w2.heap.size + 2 := (by omega); have n7 : w.heap.size < w2.heap.size + 1 := (by omega); have n8 : w.heap.size < w2.heap.size + 1 + 1 := (by omega); clear hs2 hb2 c0 c1 c2 c3 c4) |
      (at_builtin; obtain ⟨t1, t2, t3, t4, t5⟩ := three_box (w := w2) (.cells #[.bool (goneS s t).fr, .int .i64 (goneS s t).nx, .slice ra2 (goneS s t).rd.length rc2, .slice ha2 (goneS s t).hd.length hc2, .slice ma2 (goneS s t).ms.length mc2] 47) (.cells #[.int .i64 ({ goneM s t with again := true } : Mg).pub, .int .i64 ({ goneM s t with again := true } : Mg).seq, .string ⟨({ goneM s t with again := true } : Mg).key.toArray⟩, .string ⟨({ goneM s t with again := true } : Mg).body.toArray⟩, .bool ({ goneM s t with again := true } : Mg).again] 40) (.cells #[.int .i64 ({ goneM s t with again := true } : Mg).pub, .int .i64 ({ goneM s t with again := true } : Mg).seq, .string ⟨({ goneM s t with again := true } : Mg).key.toArray⟩, .string ⟨({ goneM s t with again := true } : Mg).body.toArray⟩, .bool ({ goneM s t with again := true } : Mg).again] 40); have hb3 : Below w.heap.size w _ := HB0.out.trans ((HB2.out.trans (t4.mono HB2.out.size)).mono HB0.out.size); refine put_rows mgE (base := w2.heap.size + 2) (w := ((w2.alloc (.cells #[.bool (goneS s t).fr, .int .i64 (goneS s t).nx, .slice ra2 (goneS s t).rd.length rc2, .slice ha2 (goneS s t).hd.length hc2, .slice ma2 (goneS s t).ms.length mc2] 47)).alloc (.cells #[.int .i64 ({ goneM s t with again := true } : Mg).pub, .int .i64 ({ goneM s t with again := true } : Mg).seq, .string ⟨({ goneM s t with again := true } : Mg).key.toArray⟩, .string ⟨({ goneM s t with again := true } : Mg).body.toArray⟩, .bool ({ goneM s t with again := true } : Mg).again] 40)).alloc (.cells #[.int .i64 ({ goneM s t with again := true } : Mg).pub, .int .i64 ({ goneM s t with again := true } : Mg).seq, .string ⟨({ goneM s t with again := true } : Mg).key.toArray⟩, .string ⟨({ goneM s t with again := true } : Mg).body.toArray⟩, .bool ({ goneM s t with again := true } : Mg).again] 40)) (l := [({ goneM s t with again := true } : Mg)]) (m := s.rd) rfl (.tmp 25) (.tmp 27) rfl (own_one _ (by simp) (Nat.le_refl _)) (by rw [t5]; omega) rfl _ rfl rfl (HS0.out.below _ _ _ _ _ _ hb3).rd (by have := HRL.out; simp; omega) HS0.out.nr ?_; intro v4 w4 hr4 hg4; obtain ⟨xr, cr, rfl, hat4, hnn4⟩ := OwnE.at mgE hr4; clear k0 k1 k2 k3 k4 d0 d1 d2 d3 d4 f0 f1 f2 f3 f4 x0 x1 x2 x3 x4; have HR4 := Lib.hid hr4; have q1 := (hg4.block w2.heap.size (by rw [t5]; omega) (by intro e; have e : w2.heap.size = w2.heap.size + 1 + 1 := Option.some.inj e; omega)).trans t1; have q2 := (hg4.block (w.heap.size + 1) (by rw [t5]; omega) (by intro e; have e : w.heap.size + 1 = w2.heap.size + 1 + 1 := Option.some.inj e; omega)).trans (box_bl HX2.out.2 t4); have HBB := Lib.hid (And.intro q1 q2); have hs4 := hg4.size; rw [t5] at hs4; have HS4 : Hid (SdAt w4 ra2 rc2 ha2 hc2 ma2 mc2 (goneS s t)) := Lib.hid (OwnE.sdg _ _ _ _ _ _ (HS2.out.below _ _ _ _ _ _ t4) hg4 (by intro b hb e; have e : b = w2.heap.size + 1 + 1 := Option.some.inj e; omega) HS2.out (by rw [t5]; omega)); have HB4 : Hid (Below w.heap.size w w4) := Lib.hid (hb3.grown hg4 (by rw [t5]; omega) (by intro b e; have e : b = w2.heap.size + 1 + 1 := (Option.some.inj e).symm; omega)); have m1 : ¬ w2.heap.size = w.heap.size + 1 := (by omega); have m2 : ¬ w.heap.size + 1 = w2.heap.size := (by omega); obtain ⟨⟨y0, y1, y2, y3, y4⟩, z0, z1, z2, z3, z4⟩ := box5 q1; obtain ⟨⟨d0, d1, d2, d3, d4⟩, f0, f1, f2, f3, f4⟩ := box5 q2; clear t1 t2 t3 t4 t5 hb3 hr4 hg4 hat4 hnn4 q1 q2))
    refine bodyPost_ret (v := .tuple #[.agg #[.bool (goneS s t).fr, .int .i64 (goneS s t).nx, .slice xr (s.rd.length + 1) cr, .slice ha2 (goneS s t).hd.length hc2, .slice ma2 (goneS s t).ms.length mc2], .int .i64 0]) (by simp [results, Try.results39, go_sem, *]) rfl ?_
    rw [HR.out.1, HR.out.2.2]
    have hn2 : w.heap.size + 1 < w2.heap.size := n3
    have ho4 : OwnG w4 (w2.heap.size + 2) (.slice xr (s.rd.length + 1) cr) (({ goneM s t with again := true } : Mg) :: s.rd) := HR4.out
    generalize hV : (Value.slice xr (s.rd.length + 1) cr) = V at *
    have hk1 : SdAt (w4.setCell ⟨w2.heap.size, 2, none⟩ V) ra2 rc2 ha2 hc2 ma2 mc2 (goneS s t) := sd_keep _ _ _ _ _ _ HS4.out HBB.out.1 (fun b hb => Below.heap_setCell w4 ⟨w2.heap.size, 2, none⟩ V b hb)
    have hx1 := (Below.heap_setCell w4 ⟨w2.heap.size, 2, none⟩ V (w.heap.size + 1) (by show w.heap.size + 1 ≠ w2.heap.size; omega)).trans HBB.out.2
    have hb1 : Below w.heap.size w (w4.setCell ⟨w2.heap.size, 2, none⟩ V) := low_set HB4.out (by omega)
    have ho5 : OwnG (w4.setCell ⟨w2.heap.size, 2, none⟩ V) (w2.heap.size + 2) V (({ goneM s t with again := true } : Mg) :: s.rd) := OwnE.kept ho4 fun b hb _ => Below.heap_setCell w4 ⟨w2.heap.size, 2, none⟩ V b (by show b ≠ w2.heap.size; omega)
    generalize w4.setCell ⟨w2.heap.size, 2, none⟩ V = w5 at *
    have hk2 : SdAt (set5 w5 (w.heap.size + 1) (.bool (goneS s t).fr) (.int .i64 (goneS s t).nx) V (.slice ha2 (goneS s t).hd.length hc2) (.slice ma2 (goneS s t).ms.length mc2)) ra2 rc2 ha2 hc2 ma2 mc2 (goneS s t) := sd_keep _ _ _ _ _ _ hk1 hx1 fun b hb => set5_heap _ _ _ _ _ _ _ _ hb
    have ho6 : OwnG (set5 w5 (w.heap.size + 1) (.bool (goneS s t).fr) (.int .i64 (goneS s t).nx) V (.slice ha2 (goneS s t).hd.length hc2) (.slice ma2 (goneS s t).ms.length mc2)) (w2.heap.size + 2) V (({ goneM s t with again := true } : Mg) :: s.rd) := OwnE.kept ho5 fun b hb _ => set5_heap _ _ _ _ _ _ _ _ (by omega)
    subst hV
    obtain ⟨a', c', he, h2, h3⟩ := OwnE.at mgE ho6
    obtain ⟨rfl, -, rfl⟩ := Value.slice.inj he
    have hsm := hk2.sm
    exact ⟨_, _, _, _, _, _, rfl, ⟨h2, hk2.hd, hk2.ms, h3, hk2.nh, hk2.nm, HRL.out, hsm.2.1, hsm.2.2⟩, set5_below hb1 (by omega) _ _ _ _ _⟩

end Go.Proofs.Ytgebfdgpbogalaa.Sh
