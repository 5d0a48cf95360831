/-
  shard.Part, walked.
-/
import Derived.Test.YthohjcfpobeplaaShPartD
import Derived.Deep.LoopGhost
namespace Go.Proofs.Ythohjcfpobeplaa.Sh
open Go.RowKit Rg Go.Sort
set_option linter.unusedVariables false
set_option linter.unusedSimpArgs false

def partRel1 (W : World) (s : Sd) (p : Mg → Bool) (g : Nat) (m : Nat) (v40 : Value) (wr : World) : Prop :=
  ∃ (i : Nat) (r : List Mg) (xr : Option Addr) (cr : Nat), i ≤ s.rd.length ∧ v40 = .int .i64 i ∧ m = s.rd.length - i ∧ r = (s.rd.take i).filter p ∧ Below g W wr ∧ g < wr.heap.size ∧
    wr.heap[g]? = some (.cells #[.bool false, .int .i64 s.nx, .slice xr r.length cr, .slice none 0 0, .slice none 0 0] 26 (0, 0)) ∧ OwnG wr (g + 1) (.slice xr r.length cr) r
def partRel2 (W : World) (s : Sd) (r : List Mg) (xr : Option Addr) (cr : Nat) (p : Mk → Bool) (g : Nat) (m : Nat) (v59 : Value) (wr : World) : Prop :=
  ∃ (i : Nat) (q : List Mk) (xm : Option Addr) (cm : Nat), i ≤ s.ms.length ∧ v59 = .int .i64 i ∧ m = s.ms.length - i ∧ q = (s.ms.take i).filter p ∧ Below g W wr ∧ g < wr.heap.size ∧
    wr.heap[g]? = some (.cells #[.bool false, .int .i64 s.nx, .slice xr r.length cr, .slice none 0 0, .slice xm q.length cm] 26 (0, 0)) ∧ OwnG wr (g + 1) (.slice xr r.length cr) r ∧ OwnK wr (g + 1) (.slice xm q.length cm) q

set_option maxRecDepth 100000 in
set_option maxHeartbeats 4000000 in
theorem part_any (s : Sd) (ra : Option Addr) (rc : Nat) (ha : Option Addr) (hc : Nat) (ma : Option Addr) (mc : Nat) (la : Option Addr) (lc : Nat) (l : List Ar) (k : Int) (w : World) (hs : SdAt w ra rc ha hc ma mc s) (hf : AsAt w la lc l) :
    Calls Try.prog 31 #[.agg #[.bool s.fr, .int .i64 s.nx, .slice ra s.rd.length rc, .slice ha s.hd.length hc, .slice ma s.ms.length mc], .slice la l.length lc, .int .i64 k] w (ShO (partS s l k) (partC s l) w) := by
  obtain ⟨hx, hy, hb0, hWs⟩ := two_box (w := w) (.cells #[.bool s.fr, .int .i64 s.nx, .slice ra s.rd.length rc, .slice ha s.hd.length hc, .slice ma s.ms.length mc] 26) (.cells #[.bool false, .int .i64 0, .slice none 0 0, .slice none 0 0, .slice none 0 0] 26)
  obtain ⟨W, hW⟩ : ∃ W, W = (w.alloc (.cells #[.bool s.fr, .int .i64 s.nx, .slice ra s.rd.length rc, .slice ha s.hd.length hc, .slice ma s.ms.length mc] 26)).alloc (.cells #[.bool false, .int .i64 0, .slice none 0 0, .slice none 0 0, .slice none 0 0] 26) := ⟨_, rfl⟩
  rw [← hW] at hx hy hb0 hWs
  have HBX := Lib.hid (boxes ra rc ha hc ma mc hx hy (by omega))
  have HB0 := Lib.hid hb0
  have HWS := Lib.hid hWs
  have HS1 := Lib.hid (hs.below ra rc ha hc ma mc hb0)
  have HSM := Lib.hid hs.sm
  have HF := Lib.hid (hf.below hb0)
  have HW := Lib.hid hW
  have HMAY := Lib.hid (may_any s ra rc ha hc ma mc W HS1.out)
  rw [hW] at HMAY
  have HRM := Lib.hid fun wx (hx : Below W.heap.size W wx) => Rg.may_any la lc l wx (HF.out.below hx)
  have HOWN := Lib.hid fun wx (hx : Below W.heap.size W wx) => own2_any s ra rc ha hc ma mc wx (HS1.out.below _ _ _ _ _ _ hx)
  clear hs hf hx hy hb0 hWs hW
  by_cases h1 : MaySd s
  case neg =>
    have HR := Lib.hid (partC_arg (l := l) k (fun h => h1 h.1))
    rw [decide_eq_false h1] at HMAY
    clear h1
    go_enter Try.func31, Try.ntmps31
    go_wp2_with (first | (go_at_call 24; refine HMAY.out.mono ?_; rintro e w1 ⟨rfl, hb1⟩; rw [← HW.out] at hb1; have HB1 := Lib.hid hb1; obtain ⟨⟨c0, c1, c2, c3, c4⟩, -⟩ := box5 (HBX.out _ hb1).1; clear hb1) | (go_at_call 64; refine (HOWN.out _ HB1.out).mono ?_; rintro e w2 ⟨ra2, rc2, ha2, hc2, ma2, mc2, rfl, ho2, hb2⟩; have HO2 := Lib.hid ho2; have HB2 := Lib.hid (HB1.out.trans (hb2.mono HB1.out.size)); obtain ⟨⟨d0, d1, d2, d3, d4⟩, f0, f1, f2, f3, f4⟩ := box5 (HBX.out _ HB2.out).2; obtain ⟨-, k0, k1, k2, k3, k4⟩ := box5 (HBX.out _ HB2.out).1; clear ho2 hb2))
    refine bodyPost_ret (v := .tuple #[.agg #[.bool s.fr, .int .i64 s.nx, .slice ra2 s.rd.length rc2, .slice ha2 s.hd.length hc2, .slice ma2 s.ms.length mc2], .int .i64 1]) (res_sd (i := 6) (j := 7) (g := w.heap.size + 1) Try.results31 rfl rfl (set5_box (HBX.out _ HB2.out).2 _ _ _ _ _)) rfl ?_
    rw [HR.out.1, HR.out.2]
    have hsz := HWS.out
    have hs1 := HB1.out.size
    refine sho_of _ _ _ _ _ _ (HO2.out.kept ?_) (by omega) HSM.out ?_
    · repeat (refine far_set ?_ (by omega))
      exact fun _ _ => rfl
    · repeat (refine low_set ?_ (by omega))
      exact HB0.out.trans (HB2.out.mono HB0.out.size)
  rw [decide_eq_true h1] at HMAY
  by_cases h2 : May l
  case neg =>
    have HR := Lib.hid (partC_arg (s := s) k (fun h => h2 h.2))
    have HRB : Hid (decide (May l) = false) := Lib.hid (decide_eq_false h2)
    clear h1 h2
    go_enter Try.func31, Try.ntmps31
    go_wp2_with (first | (go_at_call 24; refine HMAY.out.mono ?_; rintro e w1 ⟨rfl, hb1⟩; rw [← HW.out] at hb1; have HB1 := Lib.hid hb1; clear hb1) | (go_at_call 43; refine (HRM.out _ HB1.out).mono ?_; rintro e w3 ⟨rfl, hd⟩; rw [HRB.out]; have HB1' := HB1; clear HB1; have HB1 := Lib.hid (HB1'.out.trans (hd.below.mono HB1'.out.size)); obtain ⟨⟨c0, c1, c2, c3, c4⟩, -⟩ := box5 (HBX.out _ HB1.out).1; clear hd HB1') | (go_at_call 64; refine (HOWN.out _ HB1.out).mono ?_; rintro e w2 ⟨ra2, rc2, ha2, hc2, ma2, mc2, rfl, ho2, hb2⟩; have HO2 := Lib.hid ho2; have HB2 := Lib.hid (HB1.out.trans (hb2.mono HB1.out.size)); obtain ⟨⟨d0, d1, d2, d3, d4⟩, f0, f1, f2, f3, f4⟩ := box5 (HBX.out _ HB2.out).2; obtain ⟨-, k0, k1, k2, k3, k4⟩ := box5 (HBX.out _ HB2.out).1; clear ho2 hb2))
    refine bodyPost_ret (v := .tuple #[.agg #[.bool s.fr, .int .i64 s.nx, .slice ra2 s.rd.length rc2, .slice ha2 s.hd.length hc2, .slice ma2 s.ms.length mc2], .int .i64 1]) (res_sd (i := 6) (j := 7) (g := w.heap.size + 1) Try.results31 rfl rfl (set5_box (HBX.out _ HB2.out).2 _ _ _ _ _)) rfl ?_
    rw [HR.out.1, HR.out.2]
    have hsz := HWS.out
    have hs1 := HB1.out.size
    refine sho_of _ _ _ _ _ _ (HO2.out.kept ?_) (by omega) HSM.out ?_
    · repeat (refine far_set ?_ (by omega))
      exact fun _ _ => rfl
    · repeat (refine low_set ?_ (by omega))
      exact HB0.out.trans (HB2.out.mono HB0.out.size)
  have HRB : Hid (decide (May l) = true) := Lib.hid (decide_eq_true h2)
  by_cases h3 : s.fr = true ∧ s.hd = []
  case neg =>
    have HR := Lib.hid (partC_state k h1 h2 h3)
    have h4 : s.fr = false ∨ (s.fr = true ∧ (0 : Int) < (s.hd.length : Int)) := by
      cases hq : s.fr with
      | false => exact .inl rfl
      | true => exact .inr ⟨rfl, by have : s.hd ≠ [] := fun g => h3 ⟨hq, g⟩; have := List.length_pos_iff.2 this; omega⟩
    clear h1 h2 h3
    rcases h4 with h4 | ⟨h4, h5⟩
    all_goals
      have HFR := Lib.hid h4
      clear h4
      go_enter Try.func31, Try.ntmps31
      go_wp2_with (first | (go_at_call 24; refine HMAY.out.mono ?_; rintro e w1 ⟨rfl, hb1⟩; rw [← HW.out] at hb1; have HB1 := Lib.hid hb1; clear hb1) | (go_at_call 43; refine (HRM.out _ HB1.out).mono ?_; rintro e w3 ⟨rfl, hd⟩; rw [HRB.out]; have HB1' := HB1; clear HB1; have HB1 := Lib.hid (HB1'.out.trans (hd.below.mono HB1'.out.size)); obtain ⟨⟨c0, c1, c2, c3, c4⟩, -⟩ := box5 (HBX.out _ HB1.out).1; rw [HFR.out] at c0; clear hd HB1') | (go_at_call 64; rw [← HFR.out]; refine (HOWN.out _ HB1.out).mono ?_; rintro e w2 ⟨ra2, rc2, ha2, hc2, ma2, mc2, rfl, ho2, hb2⟩; have HO2 := Lib.hid ho2; have HB2 := Lib.hid (HB1.out.trans (hb2.mono HB1.out.size)); obtain ⟨⟨d0, d1, d2, d3, d4⟩, f0, f1, f2, f3, f4⟩ := box5 (HBX.out _ HB2.out).2; obtain ⟨-, k0, k1, k2, k3, k4⟩ := box5 (HBX.out _ HB2.out).1; clear ho2 hb2))
      refine bodyPost_ret (v := .tuple #[.agg #[.bool s.fr, .int .i64 s.nx, .slice ra2 s.rd.length rc2, .slice ha2 s.hd.length hc2, .slice ma2 s.ms.length mc2], .int .i64 7]) (res_sd (i := 6) (j := 7) (g := w.heap.size + 1) Try.results31 rfl rfl (set5_box (HBX.out _ HB2.out).2 _ _ _ _ _)) rfl ?_
      rw [HR.out.1, HR.out.2]
      have hsz := HWS.out
      have hs1 := HB1.out.size
      refine sho_of _ _ _ _ _ _ (HO2.out.kept ?_) (by omega) HSM.out ?_
      · repeat (refine far_set ?_ (by omega))
        exact fun _ _ => rfl
      · repeat (refine low_set ?_ (by omega))
        exact HB0.out.trans (HB2.out.mono HB0.out.size)
  obtain ⟨h3, h4⟩ := h3
  have HR := Lib.hid (partC_ok k h1 h2 h3 h4)
  have HRK : Hid (∀ m ∈ s.rd, m.key.length ≤ 1000) := Lib.hid fun m hm => by
    have := (h1.2.2.2.2.2.2.2.2.2.1 m (List.mem_append_right _ hm)).1.1.2.2.2.2.2
    omega
  have HMK : Hid (∀ m ∈ s.ms, m.key.length ≤ 1000) := Lib.hid fun m hm => by
    have := (h1.2.2.2.2.1 m hm).2.2.2.2.2
    omega
  have HL48 : Hid (s.rd.length ≤ 48) := Lib.hid (by have := h1.2.2.1; omega)
  have HL64 : Hid (s.ms.length ≤ 64) := Lib.hid h1.2.2.2.1
  have HFR := Lib.hid h3
  have hhd : s.hd.length = 0 := by rw [h4]; rfl
  have HHD := Lib.hid h4
  have HHL := Lib.hid hhd
  clear h1 h2 h3 h4 hhd
  go_enter Try.func31, Try.ntmps31
  go_wp2_with (first | (go_at_call 24; refine HMAY.out.mono ?_; rintro e w1 ⟨rfl, hb1⟩; rw [← HW.out] at hb1; have HB1 := Lib.hid hb1; clear hb1) | (go_at_call 43; refine (HRM.out _ HB1.out).mono ?_; rintro e w3 ⟨rfl, hd⟩; rw [HRB.out]; have HB1' := HB1; clear HB1; have HB1 := Lib.hid (HB1'.out.trans (hd.below.mono HB1'.out.size)); obtain ⟨⟨c0, c1, c2, c3, c4⟩, -⟩ := box5 (HBX.out _ HB1.out).1; rw [HFR.out] at c0; rw [HHL.out] at c3; have n0 : w.heap.size < w3.heap.size := (by have := HWS.out; have := HB1.out.size; omega); have n1 : ¬ w.heap.size = w3.heap.size := (by omega); clear hd HB1'))
  obtain ⟨t1, t2, t3⟩ := one_box (w := w3) (.cells #[.bool false, .int .i64 s.nx, .slice none 0 0, .slice none 0 0, .slice none 0 0] 26)
  generalize w3.alloc (.cells #[.bool false, .int .i64 s.nx, .slice none 0 0, .slice none 0 0, .slice none 0 0] 26) = W3 at *
  have HT2 := Lib.hid t2
  have HT3 := Lib.hid t3
  have HT1 := Lib.hid t1
  have HUP := Lib.hid (fun (wx : World) (h : Below w3.heap.size w3 wx) => HB1.out.trans (h.mono HB1.out.size))
  clear t1 t2 t3 c0 c1 c2 c3 c4
  go_loopg [40] s.rd.length (partRel1 w3 s (fun m => partF l k m.key) w3.heap.size)
  case atStart => exact ⟨0, [], none, 0, Nat.zero_le _, rfl, rfl, rfl, HT2.out, by have := HT3.out; omega, HT1.out, OwnE.nil _ _ _ _ _⟩
  case round =>
    obtain ⟨i, r, xr, cr, hi, rfl, rfl, hr, hb, hgs, hx, ho⟩ := hrel
    have HR1 := Lib.hid hr
    have HB := Lib.hid hb
    have HGS := Lib.hid hgs
    have HX := Lib.hid hx
    have HO := Lib.hid ho
    clear hr hb hgs hx ho HT1 HT2
    by_cases hlt : i < s.rd.length
    case pos =>
      have hlti : (i : Int) < (s.rd.length : Int) := by omega
      have h0i : (0 : Int) ≤ (i : Int) := by omega
      have hw1 : IntKind.i64.wrap ((i : Int) + 1) = (i : Int) + 1 := IntWalk.i64_in _ (by have := HL48.out; omega)
      obtain ⟨sb, so, rfl, z0, z1, z2, z3, z4⟩ := MgsAt.get (HS1.out.below _ _ _ _ _ _ (HUP.out _ HB.out)).rd i hlt
      have HSN := Lib.hid (filter_snoc (fun m : Mg => partF l k m.key) s.rd i hlt)
      have HKL := Lib.hid (HRK.out _ (List.getElem_mem hlt))
      have HRL : Hid (r.length ≤ 48) := Lib.hid (by rw [HR1.out]; exact Nat.le_trans (filter_len _ _ _) HL48.out)
      generalize s.rd[i] = x at *
      obtain ⟨t1, t2, t3⟩ := one_box (w := wr) (.cells #[.int .i64 x.pub, .int .i64 x.seq, .string ⟨x.key.toArray⟩, .string ⟨x.body.toArray⟩, .bool x.again] 35)
      have HB4 := Lib.hid (HB.out.trans (t2.mono HB.out.size))
      have HT2 := Lib.hid t2
      have HOW := Lib.hid (owns_any la lc l k x.key HKL.out _ (HF.out.below (HUP.out _ HB4.out)))
      have HX4 := Lib.hid (box_bl HX.out t2)
      have HM4 := Lib.hid t1
      have HO4 := Lib.hid (HO.out.below1 t2)
      clear t1 t2 t3
      cases hq : partF l k x.key with
      | false =>
        have HQ := Lib.hid hq
        clear hq
        go_wp2_with (go_at_call 79; refine HOW.out.mono ?_; rintro e w5 ⟨rfl, hd⟩; rw [HQ.out]; have HD := Lib.hid hd.below; clear hd)
        go_roundg (s.rd.length - (i + 1))
        case measure => omega
        case rel => exact ⟨i + 1, r, xr, cr, by omega, by go_num, by simp, by rw [HSN.out, HQ.out, HR1.out]; rfl, HB4.out.trans (HD.out.mono HB4.out.size), Nat.lt_of_lt_of_le HGS.out (Nat.le_trans HT2.out.size HD.out.size), box_bl HX4.out HD.out, HO4.out.below1 HD.out⟩
      | true =>
        have HQ := Lib.hid hq
        clear hq
        go_wp2_with (first | (go_at_call 79; refine HOW.out.mono ?_; rintro e w5 ⟨rfl, hd⟩; rw [HQ.out]; have HD := Lib.hid hd.below; have HX5 := Lib.hid (box_bl HX4.out hd.below); have HO5 := Lib.hid (HO4.out.below1 hd.below); have hm5 := box_bl HM4.out hd.below; obtain ⟨⟨y0, y1, y2, y3, y4⟩, -⟩ := box5 HX5.out; obtain ⟨⟨u0, u1, u2, u3, u4⟩, -⟩ := box5 hm5; have hgs5 : w3.heap.size + 1 ≤ w5.heap.size := (Nat.lt_of_lt_of_le HGS.out (Nat.le_trans HT2.out.size hd.below.size)); have HG5 := Lib.hid hgs5; clear hd hm5 hgs5) |
          (at_builtin; refine put_one mgE (base := w3.heap.size + 1) x rfl (.tmp 50) (.tmp 52) rfl HO5.out HG5.out (by have := HRL.out; omega) _ rfl rfl _ rfl rfl ?_; intro v6 w6 hown6 hg6; obtain ⟨xr6, cr6, rfl, -, -⟩ := OwnE.at mgE hown6; rw [show (r ++ [x]).length = r.length + 1 from List.length_append] at hown6; obtain ⟨p1, p2, p3, p4⟩ := push_box (i := 2) HX5.out (Nat.lt_succ_self _) HG5.out HO5.out hown6 hg6; obtain ⟨⟨j0, j1, j2, j3, j4⟩, f0, f1, f2, f3, f4⟩ := box5 p1; have HP2 := Lib.hid p2; have HP3 := Lib.hid p3; have HP4 := Lib.hid p4; have hsz6 := (Array.getElem?_eq_some_iff.1 p2).1; have HS6 := Lib.hid hsz6; clear p1 p2 p3 p4 hown6 hg6 hsz6))
        go_roundg (s.rd.length - (i + 1))
        case measure => omega
        case rel => exact ⟨i + 1, r ++ [x], xr6, cr6, by omega, by go_num, by simp, by rw [HSN.out, HQ.out, HR1.out]; rfl, (HB4.out.trans (HD.out.mono HB4.out.size)).trans HP4.out, HS6.out, by rw [List.length_append]; exact HP2.out, by rw [List.length_append]; exact HP3.out⟩
    case neg =>
      obtain rfl : i = s.rd.length := by omega
      have hlti : ¬ (s.rd.length : Int) < (s.rd.length : Int) := by omega
      have hr9 : r = s.rd.filter (fun m => partF l k m.key) := by have := HR1.out; rwa [List.take_length] at this
      have HR9 := Lib.hid hr9
      have HRL : Hid (r.length ≤ 48) := Lib.hid (by rw [hr9]; exact Nat.le_trans (List.length_filter_le _ _) HL48.out)
      obtain ⟨⟨c0, c1, c2, c3, c4⟩, -⟩ := box5 (HBX.out _ (HUP.out _ HB.out)).1
      clear hr9 HR1
      go_wp2_with fail
      go_loopg [59] s.ms.length (partRel2 w3 s r xr cr (fun m => partF l k m.key) w3.heap.size)
      case atStart => exact ⟨0, [], none, 0, Nat.zero_le _, rfl, rfl, rfl, HB.out, HGS.out, HX.out, HO.out, OwnE.nil _ _ _ _ _⟩
      case round =>
        clear c0 c1 c2 c3 c4
        obtain ⟨i, q, xm, cm, hi, rfl, rfl, hr, hb, hgs, hx, ho, hk⟩ := hrel
        clear HB HGS HX HO
        have HR1 := Lib.hid hr
        have HB := Lib.hid hb
        have HGS := Lib.hid hgs
        have HX := Lib.hid hx
        have HO := Lib.hid ho
        have HK := Lib.hid hk
        clear hr hb hgs hx ho hk
        by_cases hlt : i < s.ms.length
        case pos =>
          have hlti : (i : Int) < (s.ms.length : Int) := by omega
          have h0i : (0 : Int) ≤ (i : Int) := by omega
          have hw1 : IntKind.i64.wrap ((i : Int) + 1) = (i : Int) + 1 := IntWalk.i64_in _ (by have := HL64.out; omega)
          obtain ⟨sb, so, rfl, z0, z1, z2⟩ := MksAt.get (HS1.out.below _ _ _ _ _ _ (HUP.out _ HB.out)).ms i hlt
          have HSN := Lib.hid (filter_snoc (fun m : Mk => partF l k m.key) s.ms i hlt)
          have HKL := Lib.hid (HMK.out _ (List.getElem_mem hlt))
          have HQL : Hid (q.length ≤ 64) := Lib.hid (by rw [HR1.out]; exact Nat.le_trans (filter_len _ _ _) HL64.out)
          generalize s.ms[i] = x at *
          obtain ⟨t1, t2, t3⟩ := one_box (w := wr) (.cells #[.int .i64 x.pub, .string ⟨x.key.toArray⟩, .int .i64 x.seq] 93)
          have HB4 := Lib.hid (HB.out.trans (t2.mono HB.out.size))
          have HT2 := Lib.hid t2
          have HOW := Lib.hid (owns_any la lc l k x.key HKL.out _ (HF.out.below (HUP.out _ HB4.out)))
          have HX4 := Lib.hid (box_bl HX.out t2)
          have HM4 := Lib.hid t1
          have HO4 := Lib.hid (HO.out.below1 t2)
          have HK4 := Lib.hid (HK.out.below1 t2)
          clear t1 t2 t3
          cases hq : partF l k x.key with
          | false =>
            have HQ := Lib.hid hq
            clear hq
            go_wp2_with (go_at_call 79; refine HOW.out.mono ?_; rintro e w5 ⟨rfl, hd⟩; rw [HQ.out]; have HD := Lib.hid hd.below; clear hd)
            go_roundg (s.ms.length - (i + 1))
            case measure => omega
            case rel => exact ⟨i + 1, q, xm, cm, by omega, by go_num, by simp, by rw [HSN.out, HQ.out, HR1.out]; rfl, HB4.out.trans (HD.out.mono HB4.out.size), Nat.lt_of_lt_of_le HGS.out (Nat.le_trans HT2.out.size HD.out.size), box_bl HX4.out HD.out, HO4.out.below1 HD.out, HK4.out.below1 HD.out⟩
          | true =>
            have HQ := Lib.hid hq
            clear hq
            go_wp2_with (first | (go_at_call 79; refine HOW.out.mono ?_; rintro e w5 ⟨rfl, hd⟩; rw [HQ.out]; have HD := Lib.hid hd.below; have HX5 := Lib.hid (box_bl HX4.out hd.below); have HO5 := Lib.hid (HO4.out.below1 hd.below); have HK5 := Lib.hid (HK4.out.below1 hd.below); have hm5 := box_bl HM4.out hd.below; obtain ⟨⟨y0, y1, y2, y3, y4⟩, -⟩ := box5 HX5.out; obtain ⟨u0, u1, u2⟩ := box3m hm5; have hgs5 : w3.heap.size + 1 ≤ w5.heap.size := (Nat.lt_of_lt_of_le HGS.out (Nat.le_trans HT2.out.size hd.below.size)); have HG5 := Lib.hid hgs5; clear hd hm5 hgs5) |
              (at_builtin; refine put_one mkE (base := w3.heap.size + 1) x rfl (.tmp 69) (.tmp 71) rfl HK5.out HG5.out (by have := HQL.out; omega) _ rfl rfl _ rfl rfl ?_; intro v6 w6 hown6 hg6; obtain ⟨xk6, ck6, rfl, -, -⟩ := OwnE.at mkE hown6; rw [show (q ++ [x]).length = q.length + 1 from List.length_append] at hown6; have HO6 := OwnE.other HK5.out HO5.out (by decide) hg6; obtain ⟨p1, p2, p3, p4⟩ := push_box (i := 4) HX5.out (Nat.lt_succ_self _) HG5.out HK5.out hown6 hg6; obtain ⟨⟨j0, j1, j2, j3, j4⟩, f0, f1, f2, f3, f4⟩ := box5 p1; have HP2 := Lib.hid p2; have HP3 := Lib.hid p3; have HP4 := Lib.hid p4; have HP5 := Lib.hid (OwnE.kept HO6 (w' := w6.setCell ⟨w3.heap.size, 4, none⟩ (.slice xk6 (q.length + 1) ck6)) fun b hb _ => Below.heap_setCell w6 ⟨w3.heap.size, 4, none⟩ _ b (by show b ≠ w3.heap.size; omega)); have hsz6 := (Array.getElem?_eq_some_iff.1 p2).1; have HS6 := Lib.hid hsz6; clear p1 p2 p3 p4 HO6 hown6 hg6 hsz6))
            go_roundg (s.ms.length - (i + 1))
            case measure => omega
            case rel => exact ⟨i + 1, q ++ [x], xk6, ck6, by omega, by go_num, by simp, by rw [HSN.out, HQ.out, HR1.out]; rfl, (HB4.out.trans (HD.out.mono HB4.out.size)).trans HP4.out, HS6.out, by rw [List.length_append]; exact HP2.out, HP5.out, by rw [List.length_append]; exact HP3.out⟩
        case neg =>
          obtain rfl : i = s.ms.length := by omega
          have hlti : ¬ (s.ms.length : Int) < (s.ms.length : Int) := by omega
          have hr9 : q = s.ms.filter (fun m => partF l k m.key) := by have := HR1.out; rwa [List.take_length] at this
          have HR10 := Lib.hid hr9
          obtain ⟨⟨y0, y1, y2, y3, y4⟩, -⟩ := box5 HX.out
          obtain ⟨⟨d0, d1, d2, d3, d4⟩, f0, f1, f2, f3, f4⟩ := box5 (HBX.out _ (HUP.out _ HB.out)).2
          clear hr9 HR1
          go_wp2_with fail
          refine bodyPost_ret (v := .tuple #[.agg #[.bool false, .int .i64 s.nx, .slice xr r.length cr, .slice none 0 0, .slice xm q.length cm], .int .i64 0]) (res_sd (i := 6) (j := 7) (g := w.heap.size + 1) Try.results31 rfl rfl (set5_box (HBX.out _ (HUP.out _ HB.out)).2 _ _ _ _ _)) rfl ?_
          rw [HR.out.1, HR.out.2, ← HR9.out, ← HR10.out]
          have h1s := HB1.out.size
          have hws := HWS.out
          have hq9 : q.length ≤ 64 := by rw [HR10.out]; exact Nat.le_trans (List.length_filter_le _ _) HL64.out
          have hr9 := HRL.out
          refine sho_of (s' := ⟨false, s.nx, r, [], q⟩) xr cr none 0 xm cm (base := w3.heap.size + 1) (OwnS.kept (s := ⟨false, s.nx, r, [], q⟩) ⟨HO.out, OwnE.nil _ _ _ _ _, HK.out⟩ ?_) (by omega) ⟨by show r.length ≤ 1000; omega, by simp, by show q.length ≤ 1000; omega⟩ ?_
          · repeat (refine far_set ?_ (by omega))
            exact fun _ _ => rfl
          · repeat (refine low_set ?_ (by omega))
            exact HB0.out.trans ((HUP.out _ HB.out).mono HB0.out.size)
end Go.Proofs.Ythohjcfpobeplaa.Sh
