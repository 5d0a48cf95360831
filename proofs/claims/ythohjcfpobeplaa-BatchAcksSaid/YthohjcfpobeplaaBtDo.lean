/-
  batch.ackAll, walked.
  batch.Do, walked (printed by tools/gen_bdo.py).
-/
import Derived.Test.YthohjcfpobeplaaBtBase
import Derived.Test.YthohjcfpobeplaaShAck
import Derived.Test.YthohjcfpobeplaaShTold
import Derived.Test.YthohjcfpobeplaaShRSet
import Derived.Deep.RegionLaw
import Derived.Test.YthohjcfpobeplaaShOwnA
import Derived.Test.YthohjcfpobeplaaShPut

namespace Go.Proofs.Ythohjcfpobeplaa.Bt
open Go.RowKit Rg Sh Go.Sort
set_option linter.unusedVariables false
set_option linter.unusedSimpArgs false

theorem ackA_cons (s : Sd) (x : Int) (l : List Int) : ackA s (x :: l) = if outC s x = 0 then ackA (ackS s x) l else (ackS s x, outC s x) := rfl
def allRel (s0 : Sd) (l0 : List Int) (w0 : World) (ra : Option Addr) (rc : Nat) (ha : Option Addr) (hc : Nat) (ma : Option Addr) (mc : Nat) (m : Nat) (a' : Act) (w' : World) : Prop :=
  ∃ (r : List Int) (ta : Option Addr) (tc : Nat) (s : Sd) (c : Int) (ra2 : Option Addr) (rc2 : Nat) (ha2 : Option Addr) (hc2 : Nat) (ma2 : Option Addr) (mc2 : Nat) (u3 : Value) (u7 u8 u9 u10 u11 u12 u13 u14 u15 u16 u17 u18 u19 u20 u21 u22 u23 u24 u25 : Value), a' = { tmps := #[.agg #[.bool s0.fr, .int .i64 s0.nx, .slice ra s0.rd.length rc, .slice ha s0.hd.length hc, .slice ma s0.ms.length mc], .slice ta r.length tc, .pointer (some ⟨w0.heap.size, 0, none⟩), u3, .pointer (some ⟨w0.heap.size + 1, 0, none⟩), .int .i64 0, .int .i64 c, u7, u8, u9, u10, u11, u12, u13, u14, u15, u16, u17, u18, u19, u20, u21, u22, u23, u24, u25], defers := [] } ∧
    m = r.length ∧ InsAt w0 ta tc r ∧ (ta = none → tc = 0) ∧ Below w0.heap.size w0 w' ∧ w0.heap.size + 2 ≤ w'.heap.size ∧ w'.heap[w0.heap.size]? = some (.cells #[.bool s.fr, .int .i64 s.nx, .slice ra2 s.rd.length rc2, .slice ha2 s.hd.length hc2, .slice ma2 s.ms.length mc2] 26 (0, 0)) ∧
    w'.heap[w0.heap.size + 1]? = some (.cells #[.bool false, .int .i64 0, .slice none 0 0, .slice none 0 0, .slice none 0 0] 26 (0, 0)) ∧ SdAt w' ra2 rc2 ha2 hc2 ma2 mc2 s ∧
    ((c = 0 ∧ ackA s0 l0 = ackA s r) ∨ (c ≠ 0 ∧ ackA s0 l0 = (s, c)))
theorem all_end {w W : World} {s : Sd} {c : Int} (ra : Option Addr) (rc : Nat) (ha : Option Addr) (hc : Nat) (ma : Option Addr) (mc : Nat) (hs : SdAt W ra rc ha hc ma mc s) (hb : Below w.heap.size w W) (hy : W.heap[w.heap.size + 1]? = some (.cells #[.bool false, .int .i64 0, .slice none 0 0, .slice none 0 0, .slice none 0 0] 26 (0, 0))) (x y z u v : Value) : ShR s c w (.returned (.tuple #[.agg #[.bool s.fr, .int .i64 s.nx, .slice ra s.rd.length rc, .slice ha s.hd.length hc, .slice ma s.ms.length mc], .int .i64 c])) (set5 W (w.heap.size + 1) x y z u v) :=
  shr_of _ _ _ _ _ _ (sd_keep _ _ _ _ _ _ hs hy fun b hb => set5_heap _ _ _ _ _ _ _ _ hb) (set5_below hb (Nat.le_succ _) _ _ _ _ _)
theorem ackA_end {s0 s : Sd} {l0 r : List Int} {c : Int} (h : (c = 0 ∧ ackA s0 l0 = ackA s r) ∨ (c ≠ 0 ∧ ackA s0 l0 = (s, c))) (hr : r = [] ∨ c ≠ 0) : (ackA s0 l0).1 = s ∧ (ackA s0 l0).2 = c := by
  rcases h with ⟨rfl, h⟩ | ⟨_, h⟩
  · rcases hr with rfl | hr
    · rw [h]; exact ⟨rfl, rfl⟩
    · exact absurd rfl hr
  · rw [h]; exact ⟨rfl, rfl⟩
theorem ackA_next {s0 s : Sd} {l0 l : List Int} {x : Int} (h : ackA s0 l0 = ackA s (x :: l)) : (outC s x = 0 ∧ ackA s0 l0 = ackA (ackS s x) l) ∨ (outC s x ≠ 0 ∧ ackA s0 l0 = (ackS s x, outC s x)) := by
  rw [ackA_cons] at h
  by_cases hc : outC s x = 0
  · rw [if_pos hc] at h; exact .inl ⟨hc, h⟩
  · rw [if_neg hc] at h; exact .inr ⟨hc, h⟩
/-- an ack's answer laid into the box. -/
theorem all_step {w w' w7 : World} {s : Sd} (ra3 : Option Addr) (rc3 : Nat) (ha3 : Option Addr) (hc3 : Nat) (ma3 : Option Addr) (mc3 : Nat) {x y z u v : Value} (hb : Below w.heap.size w w'.drew) (hz : w.heap.size + 2 ≤ w'.heap.size) (hx : w'.heap[w.heap.size]? = some (.cells #[x, y, z, u, v] 26 (0, 0))) (hy : w'.heap[w.heap.size + 1]? = some (.cells #[.bool false, .int .i64 0, .slice none 0 0, .slice none 0 0, .slice none 0 0] 26 (0, 0)))
    (ho : OwnS w7 w'.drew.heap.size s (.slice ra3 s.rd.length rc3) (.slice ha3 s.hd.length hc3) (.slice ma3 s.ms.length mc3)) (hsm : s.rd.length ≤ 1000 ∧ s.hd.length ≤ 1000 ∧ s.ms.length ≤ 1000) (hb7 : Below w'.drew.heap.size w'.drew w7) :
    w7.heap[w.heap.size]? = some (.cells #[x, y, z, u, v] 26 (0, 0)) ∧
    Below w.heap.size w (set5 w7 w.heap.size (.bool s.fr) (.int .i64 s.nx) (.slice ra3 s.rd.length rc3) (.slice ha3 s.hd.length hc3) (.slice ma3 s.ms.length mc3)) ∧
    Bx (set5 w7 w.heap.size (.bool s.fr) (.int .i64 s.nx) (.slice ra3 s.rd.length rc3) (.slice ha3 s.hd.length hc3) (.slice ma3 s.ms.length mc3)) w.heap.size ra3 rc3 ha3 hc3 ma3 mc3 s ∧
    w.heap.size + 2 ≤ (set5 w7 w.heap.size (.bool s.fr) (.int .i64 s.nx) (.slice ra3 s.rd.length rc3) (.slice ha3 s.hd.length hc3) (.slice ma3 s.ms.length mc3)).heap.size ∧
    (set5 w7 w.heap.size (.bool s.fr) (.int .i64 s.nx) (.slice ra3 s.rd.length rc3) (.slice ha3 s.hd.length hc3) (.slice ma3 s.ms.length mc3)).heap[w.heap.size + 1]? = some (.cells #[.bool false, .int .i64 0, .slice none 0 0, .slice none 0 0, .slice none 0 0] 26 (0, 0)) := by
  have hs7 : w'.heap.size ≤ w7.heap.size := hb7.size
  have h1 := (hb7.block w.heap.size (by show _ < w'.heap.size; omega)).trans hx
  have h2 := (hb7.block (w.heap.size + 1) (by show _ < w'.heap.size; omega)).trans hy
  have hb2 : Below w.heap.size w w7 := hb.trans (hb7.mono (by show _ ≤ w'.heap.size; omega))
  obtain ⟨g1, g2⟩ := bx_store _ _ _ _ _ _ hb2 (Nat.le_refl _) (show w.heap.size < w'.drew.heap.size by show _ < w'.heap.size; omega) ho hsm h1
  exact ⟨h1, g1, g2, by rw [set5_size]; omega, (set5_heap _ _ _ _ _ _ _ _ (by omega)).trans h2⟩
set_option maxRecDepth 100000 in
set_option maxHeartbeats 4000000 in
theorem ackall_any (s : Sd) (ra : Option Addr) (rc : Nat) (ha : Option Addr) (hc : Nat) (ma : Option Addr) (mc : Nat) (ta : Option Addr) (tc : Nat) (l : List Int) (w : World) (hs : SdAt w ra rc ha hc ma mc s) (hf : InsAt w ta tc l) (hn : ta = none → tc = 0) :
    Calls Try.prog 95 #[.agg #[.bool s.fr, .int .i64 s.nx, .slice ra s.rd.length rc, .slice ha s.hd.length hc, .slice ma s.ms.length mc], .slice ta l.length tc] w (ShR (ackA s l).1 (ackA s l).2 w) := by
  obtain ⟨hx, hy, hb0, hWs⟩ := two_box (w := w) (.cells #[.bool s.fr, .int .i64 s.nx, .slice ra s.rd.length rc, .slice ha s.hd.length hc, .slice ma s.ms.length mc] 26) (.cells #[.bool false, .int .i64 0, .slice none 0 0, .slice none 0 0, .slice none 0 0] 26)
  have HF := Lib.hid hf
  have HN := Lib.hid hn
  have HS := Lib.hid hs
  have HX := Lib.hid hx
  have HY := Lib.hid hy
  have HB0 := Lib.hid hb0
  have HWS := Lib.hid hWs
  clear hs hf hn hx hy hb0 hWs
  go_enter Try.func95, Try.ntmps95
  go_wp2_with fail
  refine wp_scope_ghost 0 (allRel s l w ra rc ha hc ma mc) rfl ?_ ?_
  · intro H hb'
    have HBK := Lib.hid hb'
    clear hb'
    go_wp2_with fail
    go_step3
    rename_i hK
    refine hK _ _ (HBK.out l.length _ _ ⟨l, ta, tc, s, 0, ra, rc, ha, hc, ma, mc, ?_⟩)
    repeat apply Exists.intro
    exact ⟨rfl, rfl, HF.out, HN.out, HB0.out, by rw [HWS.out]; omega, HX.out, HY.out, HS.out.below _ _ _ _ _ _ HB0.out, .inl ⟨rfl, rfl⟩⟩
  · rintro m a' w' ⟨r, ta, tc, s1, c, ra2, rc2, ha2, hc2, ma2, mc2, u3, u7, u8, u9, u10, u11, u12, u13, u14, u15, u16, u17, u18, u19, u20, u21, u22, u23, u24, u25, rfl, rfl, hr, hn, hb, hz, hx, hy, hs1, he⟩ H hH
    have HH := Lib.hid hH
    have HR := Lib.hid hr
    have HNN := Lib.hid hn
    have HB := Lib.hid hb
    have HZ := Lib.hid hz
    have HBX := Lib.hid hx
    have HBY := Lib.hid hy
    have HS1 := Lib.hid hs1
    have HE := Lib.hid he
    clear hH hr hn hb hz hs1 he
    obtain ⟨⟨c0, c1, c2, c3, c4⟩, f0, f1, f2, f3, f4⟩ := box5 hx
    obtain ⟨⟨d0, d1, d2, d3, d4⟩, k0, k1, k2, k3, k4⟩ := box5 hy
    clear hx hy
    cases r with
    | nil =>
      have HEE := Lib.hid (ackA_end HE.out (.inl rfl))
      go_wp2_with fail
      refine bodyPost_ret (v := .tuple #[.agg #[.bool s1.fr, .int .i64 s1.nx, .slice ra2 s1.rd.length rc2, .slice ha2 s1.hd.length hc2, .slice ma2 s1.ms.length mc2], .int .i64 c]) (res_sd (i := 4) (j := 5) (g := w.heap.size + 1) Try.results95 rfl rfl (set5_box HBY.out _ _ _ _ _)) rfl ?_
      rw [HEE.out.1, HEE.out.2]
      exact all_end _ _ _ _ _ _ HS1.out HB.out HBY.out _ _ _ _ _
    | cons x rest =>
      have n0 : (0 : Int) < (rest.length : Int) + 1 := by omega
      have n1 : 0 < rest.length + 1 := by omega
      have hmax := HR.out.max
      have hlen := HR.out.len
      unfold maxLen at hmax
      simp only [List.length_cons] at hlen
      by_cases hc : c = 0
      case neg =>
        have HEE := Lib.hid (ackA_end HE.out (.inr hc))
        have n2 : (c == 0) = false := by simpa using hc
        clear hc
        go_wp2_with fail
        refine bodyPost_ret (v := .tuple #[.agg #[.bool s1.fr, .int .i64 s1.nx, .slice ra2 s1.rd.length rc2, .slice ha2 s1.hd.length hc2, .slice ma2 s1.ms.length mc2], .int .i64 c]) (res_sd (i := 4) (j := 5) (g := w.heap.size + 1) Try.results95 rfl rfl (set5_box HBY.out _ _ _ _ _)) rfl ?_
        rw [HEE.out.1, HEE.out.2]
        exact all_end _ _ _ _ _ _ HS1.out HB.out HBY.out _ _ _ _ _
      subst hc
      have HE2 : Hid (ackA s l = ackA s1 (x :: rest)) := Lib.hid (by rcases HE.out with ⟨-, h⟩ | ⟨h, -⟩; exact h; exact absurd rfl h)
      obtain ⟨b, o, a2, rfl, hcl, hr2, h1c, hn2, hsl⟩ := inE.head HR.out
      have hx0 := hcl 0 _ rfl
      rw [Nat.add_zero] at hx0
      have x0 := (HB.out.cell (p := ⟨b, o, none⟩) (lt_of_cell hx0)).trans hx0
      have HR2 := Lib.hid hr2
      have HN2 := Lib.hid hn2
      clear hr2 hcl hx0 hn2
      have HSD := Lib.hid (HS1.out.below _ _ _ _ _ _ (Below.refl _ _).drew)
      have HBD : Hid (Below w.heap.size w w'.drew) := Lib.hid HB.out.drew
      go_wp2_with fail
      go_region_law (first | (go_simp; go_at_call 27; refine (ack_any s1 x ra2 rc2 ha2 hc2 ma2 mc2 w'.drew HSD.out).mono ?_; rintro e w7 ⟨ra3, rc3, ha3, hc3, ma3, mc3, rfl, ho7, hsm7, hb7⟩; obtain ⟨y1, y2, y3, y4, y5⟩ := all_step _ _ _ _ _ _ HBD.out HZ.out HBX.out HBY.out ho7 hsm7 hb7; obtain ⟨⟨p0, p1, p2, p3, p4⟩, r0, r1, r2, r3, r4⟩ := box5 y1; have HY := Lib.hid (And.intro y2 (And.intro y3 (And.intro y4 y5))); clear ho7 hsm7 hb7 y1 y2 y3 y4 y5))
      all_goals
        go_wp2_with fail
        go_step3
        refine ⟨rfl, HH.out rest.length _ _ (by simp) ⟨rest, a2, tc - 1, ackS s1 x, outC s1 x, ra3, rc3, ha3, hc3, ma3, mc3, ?_⟩⟩
        repeat apply Exists.intro
        exact ⟨rfl, rfl, HR2.out, HN2.out, HY.out.1, HY.out.2.2.1, HY.out.2.1.bx, HY.out.2.2.2, HY.out.2.1.sd, ackA_next HE2.out⟩

end Go.Proofs.Ythohjcfpobeplaa.Bt

namespace Go.Proofs.Ythohjcfpobeplaa.Bt
open Go.RowKit Rg Sh
set_option linter.unusedVariables false
set_option linter.unusedSimpArgs false

end Go.Proofs.Ythohjcfpobeplaa.Bt

namespace Go.Proofs.Ythohjcfpobeplaa.Bt
open Go.RowKit Rg Sh Go.Sort
set_option linter.unusedVariables false
set_option linter.unusedSimpArgs false

theorem bown2_any (s : Sd) (ra : Option Addr) (rc : Nat) (ha : Option Addr) (hc : Nat) (ma : Option Addr) (mc : Nat) (w : World) (hs : SdAt w ra rc ha hc ma mc s) : Calls Try.prog 64 #[.agg #[.bool s.fr, .int .i64 s.nx, .slice ra s.rd.length rc, .slice ha s.hd.length hc, .slice ma s.ms.length mc]] w fun e w' =>
    ∃ ra9 rc9 ha9 hc9 ma9 mc9, e = .returned (.agg #[.bool s.fr, .int .i64 s.nx, .slice ra9 s.rd.length rc9, .slice ha9 s.hd.length hc9, .slice ma9 s.ms.length mc9]) ∧ OwnS w' w.heap.size s (.slice ra9 s.rd.length rc9) (.slice ha9 s.hd.length hc9) (.slice ma9 s.ms.length mc9) ∧ Below w.heap.size w w' := by
  refine (Sh.own_any s ra rc ha hc ma mc w hs).mono ?_
  rintro e w' ⟨vr, vh, vm, rfl, ho, hb⟩
  obtain ⟨ra2, rc2, ha2, hc2, ma2, mc2, rfl, rfl, rfl, -⟩ := ho.at hs.sm
  exact ⟨_, _, _, _, _, _, rfl, ho, hb⟩
theorem outC_cases (s : Sd) (t : Int) : outC s t = 0 ∨ outC s t = 1 ∨ outC s t = 3 := by
  unfold outC
  split
  · exact .inr (.inl rfl)
  · split
    · exact .inr (.inr rfl)
    · exact .inl rfl
theorem ackA_code : ∀ (l : List Int) (s : Sd), (ackA s l).2 = 0 ∨ (ackA s l).2 = 1 ∨ (ackA s l).2 = 3
  | [], s => .inl rfl
  | x :: l, s => by
    rw [ackA_cons]
    by_cases h : outC s x = 0
    · rw [if_pos h]; exact ackA_code l _
    · rw [if_neg h]; exact outC_cases s x
/-- Put's answer laid into the third box. -/
theorem do_store {W w4 w6 : World} {s : Sd} (ra6 : Option Addr) (rc6 : Nat) (ha6 : Option Addr) (hc6 : Nat) (ma6 : Option Addr) (mc6 : Nat) {x y z u v : Value} {o8 : Obj} (hb : Below W.heap.size W w6) (h4 : W.heap.size ≤ w4.heap.size) (hx : w6.heap[w4.heap.size]? = some (.cells #[x, y, z, u, v] 26 (0, 0)))
    (ho : OwnS w6 (w4.alloc o8).heap.size s (.slice ra6 s.rd.length rc6) (.slice ha6 s.hd.length hc6) (.slice ma6 s.ms.length mc6)) (hsm : s.rd.length ≤ 1000 ∧ s.hd.length ≤ 1000 ∧ s.ms.length ≤ 1000) (hlt : w4.heap.size < (w4.alloc o8).heap.size) :
    Below W.heap.size W (set5 w6 w4.heap.size (.bool s.fr) (.int .i64 s.nx) (.slice ra6 s.rd.length rc6) (.slice ha6 s.hd.length hc6) (.slice ma6 s.ms.length mc6)) ∧ Bx (set5 w6 w4.heap.size (.bool s.fr) (.int .i64 s.nx) (.slice ra6 s.rd.length rc6) (.slice ha6 s.hd.length hc6) (.slice ma6 s.ms.length mc6)) w4.heap.size ra6 rc6 ha6 hc6 ma6 mc6 s :=
  bx_store _ _ _ _ _ _ hb h4 hlt ho hsm hx
set_option maxRecDepth 100000 in
set_option maxHeartbeats 4000000 in
theorem bdo_any (s : Sd) (ra : Option Addr) (rc : Nat) (ha : Option Addr) (hc : Nat) (ma : Option Addr) (mc : Nat) (pa : Option Addr) (pc : Nat) (put : List Mg) (hl9 : put.length ≤ 1000) (ta : Option Addr) (tc : Nat) (ack : List Int) (w : World) (hs : SdAt w ra rc ha hc ma mc s) (hf : MgsAt w pa pc put) (hn : pa = none → pc = 0) (ht : InsAt w ta tc ack) (htn : ta = none → tc = 0) :
    Calls Try.prog 55 #[.agg #[.bool s.fr, .int .i64 s.nx, .slice ra s.rd.length rc, .slice ha s.hd.length hc, .slice ma s.ms.length mc], .slice pa put.length pc, .slice ta ack.length tc] w (ShR (doS s put ack) (doC s put ack) w) := by
  obtain ⟨hx, hy, hb0, hWs⟩ := two_box (w := w) (.cells #[.bool s.fr, .int .i64 s.nx, .slice ra s.rd.length rc, .slice ha s.hd.length hc, .slice ma s.ms.length mc] 26) (.cells #[.bool false, .int .i64 0, .slice none 0 0, .slice none 0 0, .slice none 0 0] 26)
  obtain ⟨W, hW⟩ : ∃ W, W = (w.alloc (.cells #[.bool s.fr, .int .i64 s.nx, .slice ra s.rd.length rc, .slice ha s.hd.length hc, .slice ma s.ms.length mc] 26)).alloc (.cells #[.bool false, .int .i64 0, .slice none 0 0, .slice none 0 0, .slice none 0 0] 26) := ⟨_, rfl⟩
  rw [← hW] at hx hy hb0 hWs
  have HBX := Lib.hid (boxes ra rc ha hc ma mc hx hy (by omega))
  have HB0 := Lib.hid hb0
  have HWS := Lib.hid hWs
  have HS1 := Lib.hid (hs.below ra rc ha hc ma mc hb0)
  have HSM := Lib.hid hs.sm
  have HF := Lib.hid hf
  have HN := Lib.hid hn
  have HW := Lib.hid hW
  have HALL := Lib.hid (ackall_any s ra rc ha hc ma mc ta tc ack W HS1.out (ht.below hb0) htn)
  rw [hW] at HALL
  have HOWN := Lib.hid fun wx (hx : Below W.heap.size W wx) => bown2_any s ra rc ha hc ma mc wx (HS1.out.below _ _ _ _ _ _ hx)
  have HOWN0 := Lib.hid (bown2_any s ra rc ha hc ma mc W HS1.out)
  rw [hW] at HOWN0
  clear hs hf hn ht htn hx hy hb0 hWs hW
  by_cases hp : put.length = 0
  · by_cases ha : ack.length = 0
    · have hdo : doC s put ack = 1 ∧ doS s put ack = s := by
        obtain rfl := List.eq_nil_of_length_eq_zero hp
        obtain rfl := List.eq_nil_of_length_eq_zero ha
        exact ⟨rfl, rfl⟩
      have HR := Lib.hid hdo
      have q1 : ((put.length : Int) == 0) = true := by rw [beq_iff_eq]; omega
      have q2 : ((ack.length : Int) == 0) = true := by rw [beq_iff_eq]; omega
      clear hp ha hdo
      go_enter Try.func55, Try.ntmps55
      go_wp2_with (go_at_call 64; refine HOWN0.out.mono ?_; rintro e w9 ⟨ra9, rc9, ha9, hc9, ma9, mc9, rfl, ho9, hb9⟩; rw [← HW.out] at hb9; have HB9 := Lib.hid hb9; have HO9 := Lib.hid (OwnS.sd _ _ _ _ _ _ ho9 HSM.out); obtain ⟨⟨d0, d1, d2, d3, d4⟩, k0, k1, k2, k3, k4⟩ := box5 (HBX.out _ HB9.out).2; clear ho9 hb9)
      refine bodyPost_ret (v := .tuple #[.agg #[.bool s.fr, .int .i64 s.nx, .slice ra9 s.rd.length rc9, .slice ha9 s.hd.length hc9, .slice ma9 s.ms.length mc9], .int .i64 1]) (res_sd (i := 6) (j := 7) (g := w.heap.size + 1) Try.results55 rfl rfl (set5_box (HBX.out _ HB9.out).2 _ _ _ _ _)) rfl ?_
      rw [HR.out.1, HR.out.2]
      exact all_end _ _ _ _ _ _ HO9.out (HB0.out.trans (HB9.out.mono HB0.out.size)) (HBX.out _ HB9.out).2 _ _ _ _ _
    · have q1 : ((put.length : Int) == 0) = true := by rw [beq_iff_eq]; omega
      have q2 : ((ack.length : Int) == 0) = false := by rw [beq_eq_false_iff_ne]; omega
      have hput : put = [] := List.eq_nil_of_length_eq_zero hp
      have hack : ¬ (put = [] ∧ ack = []) := fun h => ha (by rw [h.2]; rfl)
      have q3 : ¬ (0 : Int) < (put.length : Int) := by omega
      have q4 : ¬ 0 < put.length := by omega
      by_cases hc : (ackA s ack).2 = 0
      · have HR : Hid (doC s put ack = 0 ∧ doS s put ack = (ackA s ack).1) := Lib.hid ⟨by unfold doC; rw [if_neg hack, if_neg (fun h => h hc), if_pos hput], by unfold doS; rw [if_neg hack, if_neg (fun h => h hc), if_pos hput]⟩
        rw [hc] at HALL
        clear hp ha hput hack hc
        go_enter Try.func55, Try.ntmps55
        go_wp2_with (go_at_call 95; refine HALL.out.mono ?_; rintro e w4 ⟨ra4, rc4, ha4, hc4, ma4, mc4, rfl, hs4, hb4⟩; rw [← HW.out] at hb4; have HS4 := Lib.hid hs4; have HB4 := Lib.hid hb4; have HB5 := Lib.hid (hb4.alloc hb4.size (.cells #[.bool ((ackA s ack).1).fr, .int .i64 ((ackA s ack).1).nx, .slice ra4 ((ackA s ack).1).rd.length rc4, .slice ha4 ((ackA s ack).1).hd.length hc4, .slice ma4 ((ackA s ack).1).ms.length mc4] 26)); obtain ⟨⟨c0, c1, c2, c3, c4⟩, -⟩ := box5 (HBX.out _ HB5.out).1; obtain ⟨⟨d0, d1, d2, d3, d4⟩, k0, k1, k2, k3, k4⟩ := box5 (HBX.out _ HB5.out).2; clear hs4 hb4)
        refine bodyPost_ret (v := .tuple #[.agg #[.bool ((ackA s ack).1).fr, .int .i64 ((ackA s ack).1).nx, .slice ra4 ((ackA s ack).1).rd.length rc4, .slice ha4 ((ackA s ack).1).hd.length hc4, .slice ma4 ((ackA s ack).1).ms.length mc4], .int .i64 0]) (res_sd (i := 6) (j := 7) (g := w.heap.size + 1) Try.results55 rfl rfl (set5_box (HBX.out _ HB5.out).2 _ _ _ _ _)) rfl ?_
        rw [HR.out.1, HR.out.2]
        exact all_end _ _ _ _ _ _ (HS4.out.below _ _ _ _ _ _ ((Below.refl _ _).alloc (Nat.le_refl _) _)) (HB0.out.trans (HB5.out.mono HB0.out.size)) (HBX.out _ HB5.out).2 _ _ _ _ _
      · have HR : Hid (doC s put ack = (ackA s ack).2 ∧ doS s put ack = s) := Lib.hid ⟨by unfold doC; rw [if_neg hack, if_pos hc], by unfold doS; rw [if_neg hack, if_pos hc]⟩
        have q5 : ((ackA s ack).2 == 0) = false := by simpa using hc
        have q6 : ((ackA s ack).2 != 0) = true := by simpa using hc
        have q7 : ((ackA s ack).2 != 8) = true := by rcases ackA_code ack s with h | h | h <;> rw [h] <;> rfl
        have q8 : ((ackA s ack).2 == 8) = false := by rcases ackA_code ack s with h | h | h <;> rw [h] <;> rfl
        clear hp ha hput hack hc
        go_enter Try.func55, Try.ntmps55
        go_wp2_with (first | (go_at_call 95; refine HALL.out.mono ?_; rintro e w4 ⟨ra4, rc4, ha4, hc4, ma4, mc4, rfl, hs4, hb4⟩; rw [← HW.out] at hb4; have HS4 := Lib.hid hs4; have HB4 := Lib.hid hb4; have HB5 := Lib.hid (hb4.alloc hb4.size (.cells #[.bool ((ackA s ack).1).fr, .int .i64 ((ackA s ack).1).nx, .slice ra4 ((ackA s ack).1).rd.length rc4, .slice ha4 ((ackA s ack).1).hd.length hc4, .slice ma4 ((ackA s ack).1).ms.length mc4] 26)); obtain ⟨⟨c0, c1, c2, c3, c4⟩, -⟩ := box5 (HBX.out _ HB5.out).1; obtain ⟨⟨d0, d1, d2, d3, d4⟩, k0, k1, k2, k3, k4⟩ := box5 (HBX.out _ HB5.out).2; clear hs4 hb4) | (go_at_call 64; (with_reducible refine (HOWN.out _ HB5.out).mono ?_); rintro e w9 ⟨ra9, rc9, ha9, hc9, ma9, mc9, rfl, ho9, hb9⟩; have HB9 := Lib.hid (HB5.out.trans (hb9.mono HB5.out.size)); have HO9 := Lib.hid (OwnS.sd _ _ _ _ _ _ ho9 HSM.out); have HY9 := Lib.hid (HBX.out _ HB9.out).2; obtain ⟨⟨d0, d1, d2, d3, d4⟩, k0, k1, k2, k3, k4⟩ := box5 (HBX.out _ HB9.out).2; clear ho9 hb9))
        refine bodyPost_ret (v := .tuple #[.agg #[.bool s.fr, .int .i64 s.nx, .slice ra9 s.rd.length rc9, .slice ha9 s.hd.length hc9, .slice ma9 s.ms.length mc9], .int .i64 (ackA s ack).2]) (res_sd (i := 6) (j := 7) (g := w.heap.size + 1) Try.results55 rfl rfl (set5_box HY9.out _ _ _ _ _)) rfl ?_
        rw [HR.out.1, HR.out.2]
        exact all_end _ _ _ _ _ _ HO9.out (HB0.out.trans (HB9.out.mono HB0.out.size)) HY9.out _ _ _ _ _
  have q1 : ((put.length : Int) == 0) = false := by rw [beq_eq_false_iff_ne]; omega
  have q3 : (0 : Int) < (put.length : Int) := by omega
  have q4 : 0 < put.length := by omega
  have hput : ¬ put = [] := fun h => hp (by rw [h]; rfl)
  have hack : ¬ (put = [] ∧ ack = []) := fun h => hput h.1
  by_cases hc : (ackA s ack).2 = 0
  case neg =>
    have HR : Hid (doC s put ack = (ackA s ack).2 ∧ doS s put ack = s) := Lib.hid ⟨by unfold doC; rw [if_neg hack, if_pos hc], by unfold doS; rw [if_neg hack, if_pos hc]⟩
    have q5 : ((ackA s ack).2 == 0) = false := by simpa using hc
    have q6 : ((ackA s ack).2 != 0) = true := by simpa using hc
    have q7 : ((ackA s ack).2 != 8) = true := by rcases ackA_code ack s with h | h | h <;> rw [h] <;> rfl
    have q8 : ((ackA s ack).2 == 8) = false := by rcases ackA_code ack s with h | h | h <;> rw [h] <;> rfl
    clear hp hput hack hc
    go_enter Try.func55, Try.ntmps55
    go_wp2_with (first | (go_at_call 95; refine HALL.out.mono ?_; rintro e w4 ⟨ra4, rc4, ha4, hc4, ma4, mc4, rfl, hs4, hb4⟩; rw [← HW.out] at hb4; have HS4 := Lib.hid hs4; have HB4 := Lib.hid hb4; have HB5 := Lib.hid (hb4.alloc hb4.size (.cells #[.bool ((ackA s ack).1).fr, .int .i64 ((ackA s ack).1).nx, .slice ra4 ((ackA s ack).1).rd.length rc4, .slice ha4 ((ackA s ack).1).hd.length hc4, .slice ma4 ((ackA s ack).1).ms.length mc4] 26)); obtain ⟨⟨c0, c1, c2, c3, c4⟩, -⟩ := box5 (HBX.out _ HB5.out).1; obtain ⟨⟨d0, d1, d2, d3, d4⟩, k0, k1, k2, k3, k4⟩ := box5 (HBX.out _ HB5.out).2; clear hs4 hb4) | (go_at_call 64; (with_reducible refine (HOWN.out _ HB5.out).mono ?_); rintro e w9 ⟨ra9, rc9, ha9, hc9, ma9, mc9, rfl, ho9, hb9⟩; have HB9 := Lib.hid (HB5.out.trans (hb9.mono HB5.out.size)); have HO9 := Lib.hid (OwnS.sd _ _ _ _ _ _ ho9 HSM.out); have HY9 := Lib.hid (HBX.out _ HB9.out).2; obtain ⟨⟨d0, d1, d2, d3, d4⟩, k0, k1, k2, k3, k4⟩ := box5 (HBX.out _ HB9.out).2; clear ho9 hb9))
    refine bodyPost_ret (v := .tuple #[.agg #[.bool s.fr, .int .i64 s.nx, .slice ra9 s.rd.length rc9, .slice ha9 s.hd.length hc9, .slice ma9 s.ms.length mc9], .int .i64 (ackA s ack).2]) (res_sd (i := 6) (j := 7) (g := w.heap.size + 1) Try.results55 rfl rfl (set5_box HY9.out _ _ _ _ _)) rfl ?_
    rw [HR.out.1, HR.out.2]
    exact all_end _ _ _ _ _ _ HO9.out (HB0.out.trans (HB9.out.mono HB0.out.size)) HY9.out _ _ _ _ _
  have hdc : doC s put ack = putC (ackA s ack).1 put := by unfold doC; rw [if_neg hack, if_neg (fun h => h hc), if_neg hput]
  have hds : doS s put ack = if putC (ackA s ack).1 put = 0 ∨ putC (ackA s ack).1 put = 8 then putS (ackA s ack).1 put else s := by unfold doS; rw [if_neg hack, if_neg (fun h => h hc), if_neg hput]
  rw [hc] at HALL
  by_cases hpc : putC (ackA s ack).1 put = 0 ∨ putC (ackA s ack).1 put = 8
  · have HR : Hid (doC s put ack = putC (ackA s ack).1 put ∧ doS s put ack = putS (ackA s ack).1 put) := Lib.hid ⟨hdc, by rw [hds, if_pos hpc]⟩
    rcases hpc with hpc | hpc
    · have HPC := Lib.hid hpc
      rw [hpc] at HR
      clear hp hput hack hc hdc hds hpc
      go_enter Try.func55, Try.ntmps55
      go_wp2_with (first | (go_at_call 95; refine HALL.out.mono ?_; rintro e w4 ⟨ra4, rc4, ha4, hc4, ma4, mc4, rfl, hs4, hb4⟩; rw [← HW.out] at hb4; have HS4 := Lib.hid hs4; have HB4 := Lib.hid hb4; have HB5 := Lib.hid (hb4.alloc hb4.size (.cells #[.bool ((ackA s ack).1).fr, .int .i64 ((ackA s ack).1).nx, .slice ra4 ((ackA s ack).1).rd.length rc4, .slice ha4 ((ackA s ack).1).hd.length hc4, .slice ma4 ((ackA s ack).1).ms.length mc4] 26)); obtain ⟨⟨c0, c1, c2, c3, c4⟩, -⟩ := box5 (HBX.out _ HB5.out).1; obtain ⟨⟨d0, d1, d2, d3, d4⟩, k0, k1, k2, k3, k4⟩ := box5 (HBX.out _ HB5.out).2; clear hs4 hb4) | ((go_at_call 20; refine (put_any (ackA s ack).1 ra4 rc4 ha4 hc4 ma4 mc4 pa pc put hl9 (w4.alloc (.cells #[.bool ((ackA s ack).1).fr, .int .i64 ((ackA s ack).1).nx, .slice ra4 ((ackA s ack).1).rd.length rc4, .slice ha4 ((ackA s ack).1).hd.length hc4, .slice ma4 ((ackA s ack).1).ms.length mc4] 26)) (HS4.out.below _ _ _ _ _ _ ((Below.refl _ _).alloc (Nat.le_refl _) _)) (HF.out.below (HB0.out.trans (HB5.out.mono HB0.out.size))) HN.out).mono ?_; rintro e w6 ⟨ra6, rc6, ha6, hc6, ma6, mc6, rfl, ho6, hsm6, hb6⟩; have HB6 := Lib.hid (HB5.out.trans (hb6.mono HB5.out.size)); have hx8 := box_bl (heap_alloc_new w4 (.cells #[.bool ((ackA s ack).1).fr, .int .i64 ((ackA s ack).1).nx, .slice ra4 ((ackA s ack).1).rd.length rc4, .slice ha4 ((ackA s ack).1).hd.length hc4, .slice ma4 ((ackA s ack).1).ms.length mc4] 26)) hb6; obtain ⟨⟨p0, p1, p2, p3, p4⟩, r0, r1, r2, r3, r4⟩ := box5 hx8; obtain ⟨⟨c0, c1, c2, c3, c4⟩, -⟩ := box5 (HBX.out _ HB6.out).1; obtain ⟨⟨d0, d1, d2, d3, d4⟩, k0, k1, k2, k3, k4⟩ := box5 (HBX.out _ HB6.out).2; have HST := Lib.hid (do_store _ _ _ _ _ _ HB6.out HB4.out.size hx8 ho6 hsm6 (by simp)); have hlt8 : W.heap.size ≤ w4.heap.size := HB4.out.size; have hww := HWS.out; clear ho6 hsm6 hb6 hx8); rw [HPC.out]))
      refine bodyPost_ret (v := .tuple #[.agg #[.bool (putS (ackA s ack).1 put).fr, .int .i64 (putS (ackA s ack).1 put).nx, .slice ra6 (putS (ackA s ack).1 put).rd.length rc6, .slice ha6 (putS (ackA s ack).1 put).hd.length hc6, .slice ma6 (putS (ackA s ack).1 put).ms.length mc6], .int .i64 0]) (res_sd (i := 6) (j := 7) (g := w.heap.size + 1) Try.results55 rfl rfl (set5_box (HBX.out _ HST.out.1).2 _ _ _ _ _)) rfl ?_
      rw [HR.out.1, HR.out.2]
      exact all_end _ _ _ _ _ _ HST.out.2.sd (HB0.out.trans (HST.out.1.mono HB0.out.size)) (HBX.out _ HST.out.1).2 _ _ _ _ _
    · have HPC := Lib.hid hpc
      rw [hpc] at HR
      clear hp hput hack hc hdc hds hpc
      go_enter Try.func55, Try.ntmps55
      go_wp2_with (first | (go_at_call 95; refine HALL.out.mono ?_; rintro e w4 ⟨ra4, rc4, ha4, hc4, ma4, mc4, rfl, hs4, hb4⟩; rw [← HW.out] at hb4; have HS4 := Lib.hid hs4; have HB4 := Lib.hid hb4; have HB5 := Lib.hid (hb4.alloc hb4.size (.cells #[.bool ((ackA s ack).1).fr, .int .i64 ((ackA s ack).1).nx, .slice ra4 ((ackA s ack).1).rd.length rc4, .slice ha4 ((ackA s ack).1).hd.length hc4, .slice ma4 ((ackA s ack).1).ms.length mc4] 26)); obtain ⟨⟨c0, c1, c2, c3, c4⟩, -⟩ := box5 (HBX.out _ HB5.out).1; obtain ⟨⟨d0, d1, d2, d3, d4⟩, k0, k1, k2, k3, k4⟩ := box5 (HBX.out _ HB5.out).2; clear hs4 hb4) | ((go_at_call 20; refine (put_any (ackA s ack).1 ra4 rc4 ha4 hc4 ma4 mc4 pa pc put hl9 (w4.alloc (.cells #[.bool ((ackA s ack).1).fr, .int .i64 ((ackA s ack).1).nx, .slice ra4 ((ackA s ack).1).rd.length rc4, .slice ha4 ((ackA s ack).1).hd.length hc4, .slice ma4 ((ackA s ack).1).ms.length mc4] 26)) (HS4.out.below _ _ _ _ _ _ ((Below.refl _ _).alloc (Nat.le_refl _) _)) (HF.out.below (HB0.out.trans (HB5.out.mono HB0.out.size))) HN.out).mono ?_; rintro e w6 ⟨ra6, rc6, ha6, hc6, ma6, mc6, rfl, ho6, hsm6, hb6⟩; have HB6 := Lib.hid (HB5.out.trans (hb6.mono HB5.out.size)); have hx8 := box_bl (heap_alloc_new w4 (.cells #[.bool ((ackA s ack).1).fr, .int .i64 ((ackA s ack).1).nx, .slice ra4 ((ackA s ack).1).rd.length rc4, .slice ha4 ((ackA s ack).1).hd.length hc4, .slice ma4 ((ackA s ack).1).ms.length mc4] 26)) hb6; obtain ⟨⟨p0, p1, p2, p3, p4⟩, r0, r1, r2, r3, r4⟩ := box5 hx8; obtain ⟨⟨c0, c1, c2, c3, c4⟩, -⟩ := box5 (HBX.out _ HB6.out).1; obtain ⟨⟨d0, d1, d2, d3, d4⟩, k0, k1, k2, k3, k4⟩ := box5 (HBX.out _ HB6.out).2; have HST := Lib.hid (do_store _ _ _ _ _ _ HB6.out HB4.out.size hx8 ho6 hsm6 (by simp)); have hlt8 : W.heap.size ≤ w4.heap.size := HB4.out.size; have hww := HWS.out; clear ho6 hsm6 hb6 hx8); rw [HPC.out]))
      refine bodyPost_ret (v := .tuple #[.agg #[.bool (putS (ackA s ack).1 put).fr, .int .i64 (putS (ackA s ack).1 put).nx, .slice ra6 (putS (ackA s ack).1 put).rd.length rc6, .slice ha6 (putS (ackA s ack).1 put).hd.length hc6, .slice ma6 (putS (ackA s ack).1 put).ms.length mc6], .int .i64 8]) (res_sd (i := 6) (j := 7) (g := w.heap.size + 1) Try.results55 rfl rfl (set5_box (HBX.out _ HST.out.1).2 _ _ _ _ _)) rfl ?_
      rw [HR.out.1, HR.out.2]
      exact all_end _ _ _ _ _ _ HST.out.2.sd (HB0.out.trans (HST.out.1.mono HB0.out.size)) (HBX.out _ HST.out.1).2 _ _ _ _ _
  · have HR : Hid (doC s put ack = putC (ackA s ack).1 put ∧ doS s put ack = s) := Lib.hid ⟨hdc, by rw [hds, if_neg hpc]⟩
    have q5 : (putC (ackA s ack).1 put == 0) = false := by rw [beq_eq_false_iff_ne]; exact fun h => hpc (.inl h)
    have q6 : (putC (ackA s ack).1 put != 0) = true := by rw [bne_iff_ne]; exact fun h => hpc (.inl h)
    have q7 : (putC (ackA s ack).1 put != 8) = true := by rw [bne_iff_ne]; exact fun h => hpc (.inr h)
    have q8 : (putC (ackA s ack).1 put == 8) = false := by rw [beq_eq_false_iff_ne]; exact fun h => hpc (.inr h)
    clear hp hput hack hc hdc hds hpc
    go_enter Try.func55, Try.ntmps55
    go_wp2_with (first | (go_at_call 95; refine HALL.out.mono ?_; rintro e w4 ⟨ra4, rc4, ha4, hc4, ma4, mc4, rfl, hs4, hb4⟩; rw [← HW.out] at hb4; have HS4 := Lib.hid hs4; have HB4 := Lib.hid hb4; have HB5 := Lib.hid (hb4.alloc hb4.size (.cells #[.bool ((ackA s ack).1).fr, .int .i64 ((ackA s ack).1).nx, .slice ra4 ((ackA s ack).1).rd.length rc4, .slice ha4 ((ackA s ack).1).hd.length hc4, .slice ma4 ((ackA s ack).1).ms.length mc4] 26)); obtain ⟨⟨c0, c1, c2, c3, c4⟩, -⟩ := box5 (HBX.out _ HB5.out).1; obtain ⟨⟨d0, d1, d2, d3, d4⟩, k0, k1, k2, k3, k4⟩ := box5 (HBX.out _ HB5.out).2; clear hs4 hb4) | ((go_at_call 20; refine (put_any (ackA s ack).1 ra4 rc4 ha4 hc4 ma4 mc4 pa pc put hl9 (w4.alloc (.cells #[.bool ((ackA s ack).1).fr, .int .i64 ((ackA s ack).1).nx, .slice ra4 ((ackA s ack).1).rd.length rc4, .slice ha4 ((ackA s ack).1).hd.length hc4, .slice ma4 ((ackA s ack).1).ms.length mc4] 26)) (HS4.out.below _ _ _ _ _ _ ((Below.refl _ _).alloc (Nat.le_refl _) _)) (HF.out.below (HB0.out.trans (HB5.out.mono HB0.out.size))) HN.out).mono ?_; rintro e w6 ⟨ra6, rc6, ha6, hc6, ma6, mc6, rfl, ho6, hsm6, hb6⟩; have HB6 := Lib.hid (HB5.out.trans (hb6.mono HB5.out.size)); have hx8 := box_bl (heap_alloc_new w4 (.cells #[.bool ((ackA s ack).1).fr, .int .i64 ((ackA s ack).1).nx, .slice ra4 ((ackA s ack).1).rd.length rc4, .slice ha4 ((ackA s ack).1).hd.length hc4, .slice ma4 ((ackA s ack).1).ms.length mc4] 26)) hb6; obtain ⟨⟨p0, p1, p2, p3, p4⟩, r0, r1, r2, r3, r4⟩ := box5 hx8; obtain ⟨⟨c0, c1, c2, c3, c4⟩, -⟩ := box5 (HBX.out _ HB6.out).1; obtain ⟨⟨d0, d1, d2, d3, d4⟩, k0, k1, k2, k3, k4⟩ := box5 (HBX.out _ HB6.out).2; have HST := Lib.hid (do_store _ _ _ _ _ _ HB6.out HB4.out.size hx8 ho6 hsm6 (by simp)); have hlt8 : W.heap.size ≤ w4.heap.size := HB4.out.size; have hww := HWS.out; clear ho6 hsm6 hb6 hx8); have HOW5 := HOWN.out _ HST.out.1; unfold set5 at HOW5; replace HOW5 := Lib.hid HOW5) | (go_at_call 64; (with_reducible refine HOW5.out.mono ?_); rintro e w9 ⟨ra9, rc9, ha9, hc9, ma9, mc9, rfl, ho9, hb9⟩; have HB9 := Lib.hid (HST.out.1.trans (hb9.mono HST.out.1.size)); have HO9 := Lib.hid (OwnS.sd _ _ _ _ _ _ ho9 HSM.out); have HY9 := Lib.hid (HBX.out _ HB9.out).2; obtain ⟨⟨d0, d1, d2, d3, d4⟩, k0, k1, k2, k3, k4⟩ := box5 (HBX.out _ HB9.out).2; clear ho9 hb9))
    refine bodyPost_ret (v := .tuple #[.agg #[.bool s.fr, .int .i64 s.nx, .slice ra9 s.rd.length rc9, .slice ha9 s.hd.length hc9, .slice ma9 s.ms.length mc9], .int .i64 (putC (ackA s ack).1 put)]) (res_sd (i := 6) (j := 7) (g := w.heap.size + 1) Try.results55 rfl rfl (set5_box HY9.out _ _ _ _ _)) rfl ?_
    rw [HR.out.1, HR.out.2]
    exact all_end _ _ _ _ _ _ HO9.out (HB0.out.trans (HB9.out.mono HB0.out.size)) HY9.out _ _ _ _ _

end Go.Proofs.Ythohjcfpobeplaa.Bt
