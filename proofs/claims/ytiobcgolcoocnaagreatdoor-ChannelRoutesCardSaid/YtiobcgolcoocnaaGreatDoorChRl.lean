/-
  Law ChannelRoutes, walked.
-/
import Derived.Test.YtiobcgolcoocnaaGreatDoorChBind
import Derived.Test.YtiobcgolcoocnaaGreatDoorChQue
import Derived.Test.YtiobcgolcoocnaaGreatDoorRtQu
namespace Go.Proofs.YtiobcgolcoocnaaGreatDoor.Ch
open Go.RowKit Rg Sh Bt
set_option linter.unusedVariables false
set_option linter.unusedSimpArgs false

theorem want_e (K : Nat) (h : 1 ≤ K ∧ K ≤ 4) (h4 : ¬ K = 4) (N : Int) : Rt.wantL (exE K) [107] [bdB K N] = [[113]] := by
  have hm : Top.matchB [107] [107] = true := by decide
  have h3 : K = 1 ∨ K = 2 ∨ K = 3 := by omega
  have e : bdB K N = ⟨[101], [113], [107], 0⟩ := by unfold bdB wtK; rw [if_neg h4]
  rw [e]
  rcases h3 with rfl | rfl | rfl
  · rfl
  · rfl
  · simp [Rt.wantL, Rt.wantS, Rt.takes, Rt.wantB, exE, Rt.addQ, hm]
theorem near_e (K : Nat) (N : Int) : ∃ m, Rt.nearL [101] [107] [bdB K N] = some ([113], m) := ⟨_, rfl⟩
set_option maxRecDepth 100000 in
set_option maxHeartbeats 4000000 in
theorem routes_e (g : Nat) (st : Int) (xa : Option Addr) (xc : Nat) (ba : Option Addr) (bc : Nat) (q c p : Value) (cf tx : Bool) (K : Nat) (hK : 1 ≤ K ∧ K ≤ 4) (N : Int) (w : World) (h : ChB w g st (.slice xa 1 xc) (.slice ba 1 bc) q c p cf tx) (hx : Rt.XsAt w xa xc [exE K]) (hb : Rt.BsAt w ba bc [bdB K N]) :
    Calls Tryz.prog 16 #[.pointer (some ⟨g, 0, none⟩), .string ⟨#[101]⟩, .string ⟨#[107]⟩] w fun e w' => ∃ k o cap, e = .returned (.tuple #[.slice (some ⟨k, o, none⟩) 1 cap, .int .i64 0]) ∧ w.heap.size ≤ k ∧ w'.cell? ⟨k, o, none⟩ = some (.string ⟨#[113]⟩) ∧ Below w.heap.size w w' := by
  obtain ⟨⟨d0, d1, d2, d3, d4, d5, d6, d7⟩, e0, e1, e2, e3, e4, e5, e6, e7⟩ := h.cells
  obtain ⟨z1, z2, -⟩ := box_lt h
  have hdr := below_drew w
  have hf : Rt.fnd [101] [exE K] = some 0 := rfl
  have hq2 : ∀ b ∈ [bdB K N], b.q.length ≤ 1000000 ∧ b.key.length ≤ 1000000 := by
    intro b hb
    obtain rfl : b = bdB K N := by simpa using hb
    exact ⟨(by show [113].length ≤ 1000000; decide), (by show [107].length ≤ 1000000; decide)⟩
  have hq1 : ∀ b ∈ [bdB K N], b.q.length ≤ 1000000 := fun b hb => (hq2 b hb).1
  have HQ : Hid (Calls Tryz.prog 25 #[.slice xa 1 xc, .slice ba 1 bc, .string ⟨#[101]⟩, .string ⟨#[107]⟩] w.drew fun e w' => ∃ k o cap, e = .returned (.tuple #[.slice (some ⟨k, o, none⟩) 1 cap, .int .i64 0]) ∧ w.heap.size ≤ k ∧ w'.cell? ⟨k, o, none⟩ = some (.string ⟨#[113]⟩) ∧ Below w.heap.size w w') := by
    refine Lib.hid ?_
    by_cases h4 : K = 4
    · have hq := Rt.queues_hash xa xc [exE K] ba bc [bdB K N] [101] [107] 0 (by simp) (by simp) hf (by show (K : Int) = 4; omega) (by simp) hq1 w.drew (hx.below hdr) (hb.below hdr)
      refine hq.mono ?_
      rintro e w' ⟨hb9, v, rfl, hn⟩
      obtain ⟨m, hm⟩ := near_e K N
      rw [hm] at hn
      obtain ⟨k, rfl, hk, hc⟩ := hn
      exact ⟨k, 0, 1, rfl, hk, hc, hdr.trans hb9⟩
    · have hq := Rt.queues_some xa xc [exE K] ba bc [bdB K N] [101] [107] 0 (by simp) (by simp) hf (by show ¬ (K : Int) = 4; omega) (by simp) (by simp) hq2 w.drew (hx.below hdr) (hb.below hdr)
      refine hq.mono ?_
      rintro e w' ⟨hb9, v, rfl, hn⟩
      have hn : Top.Own w' w.drew.heap.size v [[113]] := by
        have h9 := want_e K hK h4 N
        rw [← h9]; exact hn
      have hn0 := hn
      obtain ⟨a, cap, rfl, -, hs⟩ := hn.strs
      obtain ⟨k, o, rfl, hc⟩ := hs.at' (by simp)
      have hk := (World.ownsRow.lt hn0 k rfl).1
      exact ⟨k, o, cap, rfl, hk, hc 0 (by simp), hdr.trans hb9⟩
  clear h hx hb hdr hf hq1 hq2
  go_enter Tryz.func16, Tryz.ntmps16
  go_wp2_with fail
  have HSK := Lib.hid (fun (wz : World) (k : Below w.heap.size w wz) => (⟨(cell_of_below k z1).trans d1, (cell_of_below k z1).trans d2⟩ : wz.cell? ⟨g, 1, none⟩ = some (.slice xa 1 xc) ∧ wz.cell? ⟨g, 2, none⟩ = some (.slice ba 1 bc)))
  have hS0 := HSK.out _ (below_drew w)
  go_region_held3 (fun wx => wx.cell? ⟨g, 1, none⟩ = some (.slice xa 1 xc) ∧ wx.cell? ⟨g, 2, none⟩ = some (.slice ba 1 bc))
    (first | exact ⟨d1, d2⟩ | exact hS0 | exact HSK.out _ HB.out)
    (first | (go_at_call 25; refine HQ.out.mono ?_; rintro e w1 ⟨k1, o1, c1, rfl, hk1, hc1, hb⟩; have HB := Lib.hid hb; have HC := Lib.hid (And.intro hk1 hc1); clear hb hk1 hc1; dsimp only) | fail)
  go_wp2_with fail
  go_ret2
  exact ⟨_, _, _, rfl, HC.out.1, HC.out.2, HB.out⟩

theorem op_exchange (g : Nat) (b q c p : Value) (cf tx : Bool) (K : Nat) (hK : 1 ≤ K ∧ K ≤ 4) (w : World) (h : ChB w g 1 (.slice none 0 0) b q c p cf tx) :
    Calls Tryz.prog 9 #[.pointer (some ⟨g, 0, none⟩), .agg (meC (exM [101] (wordT K)) none 0)] w fun e w' => ∃ s v, e = .returned (.tuple #[.slice (some ⟨s, 0, none⟩) 1 1, .int .i64 0]) ∧ ChB w' g 1 v b q c p cf tx ∧ Rt.OwnX w' w.heap.size v [exE K] ∧ Kept [g] w w' := by
  refine (call_ok g (exM [101] (wordT K)) none 0 _ b q c p cf tx w (tb_nil w) (exM_wf _ _ (by decide) (word_len K)) (exM_may _ _ (by decide) (word_len K)) h (by decide : ¬ (4010 : Int) = 2040) (fun w1 v w2 => ∃ s v', v = .slice (some ⟨s, 0, none⟩) 1 1 ∧ ChB w2 g 1 v' b q c p cf tx ∧ Rt.OwnX w2 w.heap.size v' [exE K] ∧ Kept [g] w1 w2) fun w1 hb hch ht => ?_).mono ?_
  · refine ask_exchange g (exM [101] (wordT K)) none 0 w1 rfl 0 _ fun w2 hw => ?_
    have hb2 : Below w1.heap.size w1 w2 := by rw [hw]; exact (Below.refl _ _).alloc (Nat.le_refl _) _
    refine (exchange_new g 1 b q c p cf tx K hK w2 (hch.below hb2)).mono ?_
    rintro e w3 ⟨s, v', rfl, -, a2, a3, a4⟩
    exact ⟨_, rfl, s, v', rfl, a2, Rt.OwnX.mono a3 (Nat.le_trans hb.size hb2.size), Kept.lead hb2 a4⟩
  · rintro e w' ⟨w1, v, hb, ⟨s, v', rfl, a2, a3, a4⟩, rfl⟩
    exact ⟨s, v', rfl, a2, a3, Kept.lead hb a4⟩
theorem op_bind (g : Nat) (xa : Option Addr) (xc : Nat) (B : Nat) (q c p : Value) (cf tx : Bool) (l : List (List UInt8)) (K : Nat) (hK : 1 ≤ K ∧ K ≤ 4) (N : Int) (hN : 1 ≤ N ∧ N ≤ 4) (ib : Nat) (w : World) (hs : [113] ∈ l) (h : ChB w g 1 (.slice xa 1 xc) (.slice none 0 0) q c p cf tx) (hl : OwnS w B q l) (hx : Rt.XsAt w xa xc [exE K]) (hi : ItB w ib N) :
    Calls Tryz.prog 9 #[.pointer (some ⟨g, 0, none⟩), .agg (meC (bindM [113] [101] [107] [itW N]) (some ⟨ib, 0, none⟩) 1)] w fun e w' => ∃ s v, e = .returned (.tuple #[.slice (some ⟨s, 0, none⟩) 1 1, .int .i64 0]) ∧ MeAt w' s (Me.of 5021) none 0 ∧ ChB w' g 1 (.slice xa 1 xc) v q c p cf tx ∧ Rt.OwnB w' w.heap.size v [bdB K N] ∧ Kept [g] w w' := by
  refine (call_ok g (bindM [113] [101] [107] [itW N]) (some ⟨ib, 0, none⟩) 1 _ _ q c p cf tx w (hi.tb hN) (bindM_wf _ _ _ _ (by decide) (by decide) (by decide) (itW_fits hN) (itW_may hN)) (bindM_may _ _ _ _ (by decide) (by decide) (by decide) (itW_fits hN) (itW_may hN)) h (by decide : ¬ (5020 : Int) = 2040) (fun w1 v w2 => ∃ s v', v = .slice (some ⟨s, 0, none⟩) 1 1 ∧ MeAt w2 s (Me.of 5021) none 0 ∧ ChB w2 g 1 (.slice xa 1 xc) v' q c p cf tx ∧ Rt.OwnB w2 w.heap.size v' [bdB K N] ∧ Kept [g] w1 w2) fun w1 hb hch ht => ?_).mono ?_
  · refine ask_bind g (bindM [113] [101] [107] [itW N]) (some ⟨ib, 0, none⟩) 1 w1 rfl 0 _ fun w2 hw => ?_
    have hb2 : Below w1.heap.size w1 w2 := by rw [hw]; exact (Below.refl _ _).alloc (Nat.le_refl _) _
    obtain ⟨a, cap, rfl, hr, -⟩ := OwnE.at stE hl
    by_cases h4 : K = 4
    · refine (bind_hash g 1 xa xc a l.length cap c p cf tx l K hK h4 N hN ib w2 rfl hs (hch.below hb2) ((hr.below hb).below hb2) ((hx.below hb).below hb2) (box_bl (box_bl hi hb) hb2)).mono ?_
      rintro e w3 ⟨s, v', rfl, a1, a2, a3, a4⟩
      exact ⟨_, rfl, s, v', rfl, a1, a2, Rt.OwnB.mono a3 (Nat.le_trans hb.size hb2.size), Kept.lead hb2 a4⟩
    · refine (bind_other g 1 xa xc a l.length cap c p cf tx l K hK h4 N hN ib w2 rfl hs (hch.below hb2) ((hr.below hb).below hb2) ((hx.below hb).below hb2) (box_bl (box_bl hi hb) hb2)).mono ?_
      rintro e w3 ⟨s, v', rfl, a1, a2, a3, a4⟩
      exact ⟨_, rfl, s, v', rfl, a1, a2, Rt.OwnB.mono a3 (Nat.le_trans hb.size hb2.size), Kept.lead hb2 a4⟩
  · rintro e w' ⟨w1, v, hb, ⟨s, v', rfl, a1, a2, a3, a4⟩, rfl⟩
    exact ⟨s, v', rfl, a1, a2, a3, Kept.lead hb a4⟩
theorem xs_of {w : World} {B xc : Nat} {xa : Option Addr} {e : Rt.Ex} (h : Rt.OwnX w B (.slice xa 1 xc) [e]) : Rt.XsAt w xa xc [e] := by
  obtain ⟨a', c', he, hat⟩ := Rt.OwnX.at h
  injection he with e1 _ e3
  subst e1 e3
  exact hat
theorem it_kept {w w' : World} {ib g : Nat} {N : Int} {st : Int} {x b q c p : Value} {cf tx : Bool} (h1 : ItB w ib N) (h2 : ChB w g st x b q c p cf tx) (k : Kept [g] w w') : ItB w' ib N :=
  k.box h1 fun hm => by
    obtain rfl : ib = g := by simpa using hm
    unfold ItB at h1
    unfold ChB at h2
    rw [h1] at h2
    injection h2 with h2
    injection h2 with _ h2
    exact absurd h2 (by decide)
theorem me_kept1 {w w' : World} {s g : Nat} {m : Me} {a : Option Addr} {cap : Nat} {st : Int} {x b q c p : Value} {cf tx : Bool} (h1 : MeAt w s m a cap) (h2 : ChB w g st x b q c p cf tx) (k : Kept [g] w w') : MeAt w' s m a cap :=
  k.box h1 fun hm => me_ne h1 h2 (by simpa using hm)
theorem own_kept {w w' : World} {g B k n : Nat} {E : TypeId} {v : Value} {xs : List Value} {st : Int} {x b q c p : Value} {cf tx : Bool} (h1 : w.ownsRow B E k v n xs) (h2 : ChB w g st x b q c p cf tx) (hE : E ≠ 53) (hk : Kept [g] w w') : w'.ownsRow B E k v n xs :=
  hk.row h1 fun j hj hm => by
    obtain rfl : j = g := by simpa using hm
    exact own_box h1 h2 hE hj
theorem cell_kept {w w' : World} {g k o : Nat} {v : Value} (h : w.cell? ⟨k, o, none⟩ = some v) (hk : Kept [g] w w') (hne : g < k) : w'.cell? ⟨k, o, none⟩ = some v := by
  have h1 : w'.heap[k]? = w.heap[k]? := hk.block k (lt_of_cell h) (by simp; omega)
  exact (World.cell?_of_block (w := w) (a := ⟨k, o, none⟩) h1).trans h

set_option maxRecDepth 100000 in
set_option maxHeartbeats 8000000 in
theorem routes_law (p0 p1 : Int) (w : World) :
    Calls Tryz.prog 7 #[.int .i64 p0, .int .i64 p1] w fun e w' => e = .returned (.bool true) ∧ Below w.heap.size w w' := by
  have HT := Lib.hid told_any
  obtain ⟨ha1, ha2⟩ := u64_mod p0 4 (by decide)
  obtain ⟨hb1, hb2⟩ := u64_mod p1 4 (by decide)
  rw [show ((4 : Nat) : Int) = 4 from rfl] at ha1 hb1
  generalize u64m p0 4 = a at *
  generalize u64m p1 4 = b at *
  obtain ⟨N, hN⟩ : ∃ N : Int, N = 1 + (b : Int) := ⟨_, rfl⟩
  obtain ⟨K, hK⟩ : ∃ K, K = a + 1 := ⟨_, rfl⟩
  have wa : IntKind.i64.wrap (a : Int) = (a : Int) := IntWalk.i64_in _ (by omega)
  have wb : IntKind.i64.wrap (b : Int) = (b : Int) := IntWalk.i64_in _ (by omega)
  have wn : IntKind.i64.wrap (1 + (b : Int)) = N := by rw [IntWalk.i64_in _ (by omega)]; omega
  have HN : Hid (1 ≤ N ∧ N ≤ 4) := Lib.hid (by omega)
  have HK : Hid ((1 ≤ K ∧ K ≤ 4) ∧ (a : Int) = (K : Int) - 1) := Lib.hid (by omega)
  clear hN hK
  have hn := opened_any w
  go_enter Tryz.func7, Tryz.ntmps7
  go_upto_region 6 with (go_at_call 12; refine hn.mono ?_; clear hn; rintro e w1 ⟨rfl, ⟨k, hc1, -⟩, hb1⟩; have HC1 := Lib.hid hc1; have HB1 := Lib.hid hb1; clear hc1 hb1)
  clear wb wn
  have hx2 := one_box (w := w1) (.cells #[.string ⟨#[119, 101, 105, 103, 104, 116]⟩, .int .i64 2, .int .i64 N, .string ⟨#[]⟩, .slice none 0 0] 45)
  have hs2 : ItB (w1.alloc (.cells #[.string ⟨#[119, 101, 105, 103, 104, 116]⟩, .int .i64 2, .int .i64 N, .string ⟨#[]⟩, .slice none 0 0] 45)) w1.heap.size N := hx2.1
  obtain ⟨ib, hib⟩ : ∃ ib, ib = w1.heap.size := ⟨_, rfl⟩
  rw [← hib] at hs2 ⊢
  clear hib
  generalize hG : w.heap.size = g at *
  have HG := Lib.hid hG
  clear hG
  generalize w1.alloc (.cells #[.string ⟨#[119, 101, 105, 103, 104, 116]⟩, .int .i64 2, .int .i64 N, .string ⟨#[]⟩, .slice none 0 0] 45) = w2 at hx2 hs2 ⊢
  have HC2 := Lib.hid (HC1.out.below hx2.2.1)
  have HB2 := Lib.hid (HB1.out.trans (hx2.2.1.mono (Nat.le_of_lt HC1.out.lt)))
  have HI2 := Lib.hid hs2
  clear hx2 hs2 HC1 HB1
  have hk := op_new g g _ _ (.slice none 0 0) _ _ _ _ [] [113] w2 (Nat.le_of_lt HC2.out.lt) (by simp) (by simp) (by decide) (by decide) HC2.out (OwnE.nil _ _ _ _ _)
  go_upto_region 7 with (go_at_call 9; refine hk.mono ?_; clear hk; rintro e w3 ⟨s3, v3, rfl, -, hc3, ho3, hk3, -⟩; have HC3 := Lib.hid hc3; have HO3 : Hid (OwnS w3 g v3 [[113]]) := Lib.hid ho3; have HI3 := Lib.hid (it_kept HI2.out HC2.out hk3); have HB3 := Lib.hid (kept_g HB2.out HC2.out.lt hk3); clear hc3 ho3 hk3)
  clear HC2 HI2 HB2
  go_upto_region 8 with (first
    | (go_at_call 15; refine (type_all K HK.out.1 _ HK.out.2 w3).mono ?_; rintro e w4 ⟨rfl, hb4⟩; have HC4 := Lib.hid (HC3.out.below hb4); have HO4 := Lib.hid (OwnE.below1 HO3.out hb4); have HI4 := Lib.hid (box_bl HI3.out hb4); have HB4 := Lib.hid (HB3.out.trans (hb4.mono (Nat.le_of_lt HC3.out.lt))); clear hb4)
    | (go_at_call 9; refine (op_exchange g _ _ _ _ _ _ K HK.out.1 w4 HC4.out).mono ?_; rintro e w5 ⟨s5, v5, rfl, hc5, hx5, hk5⟩; obtain ⟨xa, xc, he, -⟩ := Rt.OwnX.at hx5; have he : v5 = .slice xa 1 xc := he; subst he; have HC5 := Lib.hid hc5; have HX5 : Hid (Rt.OwnX w5 w4.heap.size (.slice xa 1 xc) [exE K]) := Lib.hid hx5; have HO5 : Hid (OwnS w5 g v3 [[113]]) := Lib.hid (own_kept HO4.out HC4.out (by decide) hk5); have HI5 := Lib.hid (it_kept HI4.out HC4.out hk5); have HB5 := Lib.hid (kept_g HB4.out HC4.out.lt hk5); clear hc5 hx5 hk5)
    | fail)
  clear HC3 HO3 HI3 HB3 HC4 HO4 HI4 HB4 wa ha1
  have hk := op_bind g xa xc g v3 _ _ _ _ [[113]] K HK.out.1 N HN.out ib w5 (by simp) HC5.out HO5.out (xs_of HX5.out) HI5.out
  go_upto_region 9 with (go_at_call 9; refine hk.mono ?_; clear hk; rintro e w6 ⟨s6, v6, rfl, hm6, hc6, hb6, hk6⟩; obtain ⟨ya, yc, he, hy⟩ := Rt.OwnB.at hb6; have he : v6 = .slice ya 1 yc := he; subst he; have HC6 := Lib.hid hc6; have HY6 := Lib.hid hy; have HM6 := Lib.hid hm6; have HB6 := Lib.hid (kept_g HB5.out HC5.out.lt hk6); have HX6 := Lib.hid (xs_of (own_kept HX5.out HC5.out (by decide) hk6)); clear hc6 hb6 hk6 hy hm6)
  clear HC5 HO5 HI5 HB5 HX5
  have hk := routes_e g 1 xa xc ya yc v3 _ _ _ _ K HK.out.1 N w6 HC6.out HX6.out HY6.out
  go_upto_region 10 with (go_at_call 16; refine hk.mono ?_; clear hk; rintro e w7 ⟨k7, o7, c7, rfl, hlt7, hd7, hb7⟩; have HC7 := Lib.hid (HC6.out.below hb7); have HX7 := Lib.hid (HX6.out.below hb7); have HM7 := Lib.hid (box_bl HM6.out hb7); have HD7 := Lib.hid (And.intro (Nat.lt_of_lt_of_le HC6.out.lt hlt7) hd7); have HB7 := Lib.hid (HB6.out.trans (hb7.mono (Nat.le_of_lt HC6.out.lt))); clear hb7 hlt7 hd7)
  clear HC6 HX6 HY6 HM6 HB6
  have hk := routes_nf g 1 xa 1 xc ya 1 yc v3 _ _ _ _ [exE K] [102] [107] w7 rfl (by simp) rfl HC7.out HX7.out
  go_upto_region 11 with (go_at_call 16; refine hk.mono ?_; clear hk; rintro e w8 ⟨rfl, hb8⟩; have HC8 := Lib.hid (HC7.out.below hb8); have HM8 := Lib.hid (box_bl HM7.out hb8); have HD8 := Lib.hid ((hb8.cell (p := ⟨k7, o7, none⟩) (lt_of_cell HD7.out.2)).trans HD7.out.2); have HB8 := Lib.hid (HB7.out.trans (hb8.mono (Nat.le_of_lt HC7.out.lt))); clear hb8)
  clear HC7 HX7 HM7 HB7
  have hk := call_close g (cloM 200 [98, 121, 101]) none 0 _ _ _ _ _ _ _ w8 (tb_nil w8) (cloM_wf _ _ (by decide) (by decide)) (cloM_may _ _ (by decide) (by decide)) HC8.out rfl
  go_upto_region 12 with (go_at_call 9; refine hk.mono ?_; clear hk; rintro e w9 ⟨s9, rfl, hm9, hc9, hk9⟩; have HN9 := Lib.hid hm9; have HC9 := Lib.hid hc9; have HM9 := Lib.hid (me_kept1 HM8.out HC8.out hk9); have HD9 := Lib.hid (cell_kept HD8.out hk9 HD7.out.1); have HB9 := Lib.hid (kept_g HB8.out HC8.out.lt hk9); clear hm9 hc9 hk9)
  clear HC8 HM8 HD8 HB8 HD7
  have hk := routes_nf g 0 none 0 0 none 0 0 (.slice none 0 0) _ _ _ _ [] [101] [107] w9 rfl (by simp) rfl HC9.out (xs_nil _)
  go_upto_region 13 with (go_at_call 16; refine hk.mono ?_; clear hk; rintro e w10 ⟨rfl, hb10⟩; have HC10 := Lib.hid (HC9.out.below hb10); have HM10 := Lib.hid (box_bl HM9.out hb10); have HN10 := Lib.hid (box_bl HN9.out hb10); have HD10 := Lib.hid ((hb10.cell (p := ⟨k7, o7, none⟩) (lt_of_cell HD9.out)).trans HD9.out); have HB10 := Lib.hid (HB9.out.trans (hb10.mono (Nat.le_of_lt HC9.out.lt))); clear hb10)
  clear HC9 HM9 HN9 HD9 HB9
  go_wp2_with (first
    | (go_at_call 10; refine (HT.out _).mono ?_; rintro e w11 ⟨rfl, hb11⟩; have HC11 := Lib.hid (HC10.out.below hb11); have d1 := me_id (box_bl HM10.out hb11) (i := 5021) rfl; have d2 := me_id (box_bl HN10.out hb11) (i := 2041) rfl; have d3 := (hb11.cell (p := ⟨k7, o7, none⟩) (lt_of_cell HD10.out)).trans HD10.out; have HB11 := Lib.hid (HB10.out.trans (hb11.mono (Nat.le_of_lt HC10.out.lt))); clear hb11)
    | (go_at_call 11; refine (open_any g 0 _ _ _ _ _ _ _ _ HC11.out).mono ?_; rintro e w12 ⟨rfl, rfl⟩)
    | fail)
  go_ret
  exact ⟨rfl, HG.out ▸ HB11.out⟩

end Go.Proofs.YtiobcgolcoocnaaGreatDoor.Ch
