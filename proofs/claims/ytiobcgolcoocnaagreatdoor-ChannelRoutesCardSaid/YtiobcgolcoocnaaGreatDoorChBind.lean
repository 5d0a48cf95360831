/-
  channel's weight and bind, walked.
-/
import Derived.Test.YtiobcgolcoocnaaGreatDoorChEx
namespace Go.Proofs.YtiobcgolcoocnaaGreatDoor.Ch
open Go.RowKit Rg Sh Bt
set_option linter.unusedVariables false
set_option linter.unusedSimpArgs false

/-- the field weight. -/
def itW (N : Int) : It := .mk ⟨#[119, 101, 105, 103, 104, 116]⟩ 2 N ⟨#[]⟩ []
def ItB (w : World) (ib : Nat) (N : Int) : Prop := w.heap[ib]? = some (.cells #[.string ⟨#[119, 101, 105, 103, 104, 116]⟩, .int .i64 2, .int .i64 N, .string ⟨#[]⟩, .slice none 0 0] 45 (0, 0))
theorem itW_fits {N : Int} (h : 1 ≤ N ∧ N ≤ 4) : Fits [itW N] := .mk (fun x hx => by
  obtain rfl : x = itW N := by simpa using hx
  show -9223372036854775808 ≤ N ∧ N ≤ 9223372036854775807
  omega) (fun x hx => by
  obtain rfl : x = itW N := by simpa using hx
  exact fits_nil)
theorem itW_may {N : Int} (h : 1 ≤ N ∧ N ≤ 4) : MayT 1 [itW N] := by
  have e6 : (ByteArray.mk #[119, 101, 105, 103, 104, 116]).size = 6 := rfl
  refine ⟨by decide, by simp, fun i hi => ?_, ?_⟩
  · obtain rfl : i = 0 := by simpa using hi
    refine ⟨?_, ?_, fun j hj => by omega⟩
    · show 1 ≤ (ByteArray.mk #[119, 101, 105, 103, 104, 116]).size; omega
    · show (ByteArray.mk #[119, 101, 105, 103, 104, 116]).size ≤ 40; omega
  · rw [mayAll_iff]
    intro x hx
    obtain rfl : x = itW N := by simpa using hx
    rw [may_iff]
    refine .inr (.inr (.inl ⟨rfl, ?_, rfl, rfl⟩))
    show -2147483648 ≤ N ∧ N ≤ 2147483647
    omega
theorem ItB.cells {w : World} {ib : Nat} {N : Int} (h : ItB w ib N) : (w.cell? ⟨ib, 0, none⟩ = some (.string ⟨#[119, 101, 105, 103, 104, 116]⟩) ∧ w.cell? ⟨ib, 1, none⟩ = some (.int .i64 2) ∧ w.cell? ⟨ib, 2, none⟩ = some (.int .i64 N) ∧ w.cell? ⟨ib, 3, none⟩ = some (.string ⟨#[]⟩) ∧ w.cell? ⟨ib, 4, none⟩ = some (.slice none 0 0)) ∧ w.frozen? ⟨ib, 0, none⟩ = false := by
  unfold ItB at h
  refine ⟨⟨?_, ?_, ?_, ?_, ?_⟩, ?_⟩
  all_goals first | (rw [cell_of_row w _ _ _ _ _ h]; rfl) | simp [World.frozen?, h]
theorem ItB.tb {w : World} {ib : Nat} {N : Int} (h : ItB w ib N) (hN : 1 ≤ N ∧ N ≤ 4) : Tb w (some ⟨ib, 0, none⟩) 1 [itW N] := by
  obtain ⟨⟨c0, c1, c2, c3, c4⟩, f0⟩ := h.cells
  refine ⟨_, .intro ib 0 (fun _ => (none, 0)) (fun _ => []) (by simp) (by decide) (fun _ => rfl) (fun _ => f0) (fun i hi => ?_) (fun i hi => ?_)⟩
  · obtain rfl : i = 0 := by simpa using hi
    refine ⟨c0, c1, c2, c3, c4, (by show (ByteArray.mk #[119, 101, 105, 103, 104, 116]).size ≤ maxLen; decide), (by show -9223372036854775808 ≤ (2 : Int) ∧ (2 : Int) ≤ 9223372036854775807; decide), ?_, (by show (ByteArray.mk #[]).size ≤ maxLen; decide)⟩
    show -9223372036854775808 ≤ N ∧ N ≤ 9223372036854775807
    omega
  · obtain rfl : i = 0 := by simpa using hi
    exact SlAt.nil _ _ (by decide)

set_option maxRecDepth 100000 in
set_option maxHeartbeats 2000000 in
theorem weight_any (ib : Nat) (N : Int) (hN : 1 ≤ N ∧ N ≤ 4) (w : World) (h : ItB w ib N) :
    Calls Tryz.prog 53 #[.slice (some ⟨ib, 0, none⟩) 1 1] w fun e w' => e = .returned (.int .i64 N) ∧ Below w.heap.size w w' := by
  obtain ⟨⟨c0, c1, c2, c3, c4⟩, f0⟩ := h.cells
  have z1 := (box_lt h).1
  have q1 : IntKind.i64.wrap N = N := IntWalk.i64_in _ (by omega)
  have HB := Lib.hid ((Below.refl w.heap.size w).alloc (Nat.le_refl _) (.cells #[.string ⟨#[119, 101, 105, 103, 104, 116]⟩, .int .i64 2, .int .i64 N, .string ⟨#[]⟩, .slice none 0 0] 45))
  clear h hN
  go_enter Tryz.func53, Tryz.ntmps53
  go_wp2_with fail
  go_loopg [7] 1 (fun m v wr => m = 1 ∧ v = .int .i64 0 ∧ w = wr)
  case atStart => exact ⟨rfl, rfl, rfl⟩
  case round =>
    obtain ⟨rfl, rfl, rfl⟩ := hrel
    go_wp2_with fail
    go_ret
    exact ⟨rfl, HB.out⟩

/-- the binding q, of a kind and weight. -/
def wtK (K : Nat) (N : Int) : Int := if K = 4 then N else 0
def bdB (K : Nat) (N : Int) : Rt.Bd := ⟨[101], [113], [107], wtK K N⟩
theorem wt_case (K : Nat) (h : 1 ≤ K ∧ K ≤ 4) (N : Int) (hN : 1 ≤ N ∧ N ≤ 4) : (K = 1 ∧ bdB K N = ⟨[101], [113], [107], 0⟩) ∨ (K = 2 ∧ bdB K N = ⟨[101], [113], [107], 0⟩) ∨ (K = 3 ∧ bdB K N = ⟨[101], [113], [107], 0⟩) ∨
    (K = 4 ∧ (bdB K N = ⟨[101], [113], [107], 1⟩ ∨ bdB K N = ⟨[101], [113], [107], 2⟩ ∨ bdB K N = ⟨[101], [113], [107], 3⟩ ∨ bdB K N = ⟨[101], [113], [107], 4⟩)) := by
  have h4 : K = 1 ∨ K = 2 ∨ K = 3 ∨ K = 4 := by omega
  have n4 : N = 1 ∨ N = 2 ∨ N = 3 ∨ N = 4 := by omega
  rcases h4 with rfl | rfl | rfl | rfl
  · exact .inl ⟨rfl, rfl⟩
  · exact .inr (.inl ⟨rfl, rfl⟩)
  · exact .inr (.inr (.inl ⟨rfl, rfl⟩))
  · refine .inr (.inr (.inr ⟨rfl, ?_⟩))
    rcases n4 with rfl | rfl | rfl | rfl
    · exact .inl rfl
    · exact .inr (.inl rfl)
    · exact .inr (.inr (.inl rfl))
    · exact .inr (.inr (.inr rfl))
theorem bd_may (K : Nat) (h : 1 ≤ K ∧ K ≤ 4) (N : Int) (hN : 1 ≤ N ∧ N ≤ 4) : Rt.MayR [exE K] ([] ++ [bdB K N]) := by
  rcases wt_case K h N hN with ⟨rfl, e⟩ | ⟨rfl, e⟩ | ⟨rfl, e⟩ | ⟨rfl, e | e | e | e⟩ <;> rw [e] <;> decide
theorem bind_r (K : Nat) (h : 1 ≤ K ∧ K ≤ 4) (N : Int) (hN : 1 ≤ N ∧ N ≤ 4) {y : List Rt.Bd} {c : Int} (hd : Rt.BindR [exE K] [] (bdB K N) y c) : y = [bdB K N] ∧ c = 0 := by
  have hf : Rt.fnd (bdB K N).ex [exE K] = some 0 := rfl
  rcases hd with ⟨hi, -⟩ | ⟨-, i, hi, -⟩ | ⟨-, -, -, hy, hc⟩ | ⟨-, -, hn, -⟩
  · rw [hf] at hi; cases hi
  · exact absurd hi (by simp)
  · exact ⟨hy, hc⟩
  · exact absurd (bd_may K h N hN) hn

set_option maxRecDepth 100000 in
set_option maxHeartbeats 8000000 in
theorem bind_hash (g : Nat) (st : Int) (xa : Option Addr) (xc : Nat) (a : Option Addr) (n cap : Nat) (c p : Value) (cf tx : Bool) (l : List (List UInt8)) (K : Nat) (hK : 1 ≤ K ∧ K ≤ 4) (h4 : K = 4) (N : Int) (hN : 1 ≤ N ∧ N ≤ 4) (ib : Nat) (w : World) (hn : n = l.length) (hs : [113] ∈ l) (h : ChB w g st (.slice xa 1 xc) (.slice none 0 0) (.slice a n cap) c p cf tx) (hl : StAt w a cap l) (hx : Rt.XsAt w xa xc [exE K]) (hi : ItB w ib N) :
    Calls Tryz.prog 33 #[.pointer (some ⟨g, 0, none⟩), .agg (meC (bindM [113] [101] [107] [itW N]) (some ⟨ib, 0, none⟩) 1)] w fun e w' => ∃ s v, e = .returned (.tuple #[.slice (some ⟨s, 0, none⟩) 1 1, .int .i64 0]) ∧ MeAt w' s (Me.of 5021) none 0 ∧ ChB w' g st (.slice xa 1 xc) v (.slice a n cap) c p cf tx ∧ Rt.OwnB w' w.heap.size v [bdB K N] ∧ Kept [g] w w' := by
  have hat0 : MeAt (w.alloc (.cells (meC (bindM [113] [101] [107] [itW N]) (some ⟨ib, 0, none⟩) 1) 31)) w.heap.size (bindM [113] [101] [107] [itW N]) (some ⟨ib, 0, none⟩) 1 := heap_alloc_new w _
  have hb0 : Below w.heap.size w (w.alloc (.cells (meC (bindM [113] [101] [107] [itW N]) (some ⟨ib, 0, none⟩) 1) 31)) := (Below.refl _ _).alloc (Nat.le_refl _) _
  have m1 : (w.alloc (.cells (meC (bindM [113] [101] [107] [itW N]) (some ⟨ib, 0, none⟩) 1) 31)).cell? ⟨w.heap.size, 1, none⟩ = some (.string ⟨#[113]⟩) := hat0.cells.1.2.1
  have m3 : (w.alloc (.cells (meC (bindM [113] [101] [107] [itW N]) (some ⟨ib, 0, none⟩) 1) 31)).cell? ⟨w.heap.size, 3, none⟩ = some (.string ⟨#[101]⟩) := hat0.cells.1.2.2.2.1
  have m4 : (w.alloc (.cells (meC (bindM [113] [101] [107] [itW N]) (some ⟨ib, 0, none⟩) 1) 31)).cell? ⟨w.heap.size, 4, none⟩ = some (.string ⟨#[107]⟩) := hat0.cells.1.2.2.2.2.1
  have m11 : (w.alloc (.cells (meC (bindM [113] [101] [107] [itW N]) (some ⟨ib, 0, none⟩) 1) 31)).cell? ⟨w.heap.size, 11, none⟩ = some (.slice (some ⟨ib, 0, none⟩) 1 1) := hat0.cells.2.2.2.2.2.2
  have hch := h.below hb0
  obtain ⟨xb, xo, rfl, x0, x1⟩ := Rt.XsAt.get hx 0 (by simp)
  have x1 : w.cell? ⟨xb, xo + 1, none⟩ = some (.int .i64 K) := by simpa [exE] using x1
  have HGL := Lib.hid h.lt
  have HC0 := Lib.hid h
  have HX0 := Lib.hid hx
  have HI0 := Lib.hid hi
  have HX1 := Lib.hid x1
  have HXL := Lib.hid (lt_of_cell x1)
  have HB0 := Lib.hid hb0
  have hh := has_any g st (.slice (some ⟨xb, xo, none⟩) 1 xc) (.slice none 0 0) a n cap c p cf tx l [113] _ hn hch (hl.below hb0)
  rw [decide_eq_true hs] at hh
  have HH := Lib.hid hh
  have HKN := Lib.hid (And.intro hK hN)
  have H4 := Lib.hid h4
  obtain ⟨mc, hmc⟩ : ∃ mc, mc = (meC (bindM [113] [101] [107] [itW N]) (some ⟨ib, 0, none⟩) 1) := ⟨_, rfl⟩
  rw [← hmc] at m1 m3 m4 m11 HB0 HH ⊢
  obtain ⟨W, hW⟩ : ∃ W, W = w.alloc (.cells mc 31) := ⟨_, rfl⟩
  have HWW := Lib.hid hW
  have hWs : W.heap.size = w.heap.size + 1 := by rw [hW]; simp
  rw [← hW] at m1 m3 m4 m11 HB0 HH
  clear hat0 hb0 h hch hmc hW hK hN hh hs hl hx hi hn h4 x0 x1
  go_enter Tryz.func33, Tryz.ntmps33
  go_upto_region 1 with fail
  rw [← HWW.out]
  go_upto_region 4 with (go_at_call 24; refine HH.out.mono ?_; rintro e w1 ⟨rfl, rfl⟩)
  have hx1 := one_box (w := W) (.cells #[.string ⟨#[101]⟩, .string ⟨#[113]⟩, .string ⟨#[107]⟩, .int .i64 0] 92)
  generalize W.alloc (.cells #[.string ⟨#[101]⟩, .string ⟨#[113]⟩, .string ⟨#[107]⟩, .int .i64 0] 92) = W1 at hx1 ⊢
  obtain ⟨hbx1, hbl1, hsz1⟩ := hx1
  rw [hWs] at hbx1 hsz1
  have HB1 := Lib.hid (HB0.out.trans (hbl1.mono HB0.out.size))
  have zm : w.heap.size < W.heap.size := by omega
  have m3' := (cell_of_below hbl1 zm).trans m3
  have m11' := (cell_of_below hbl1 zm).trans m11
  have HBX1 := Lib.hid hbx1
  have HZ1 := Lib.hid hsz1
  clear m1 m3 m4 m11 hbx1 hbl1 hsz1
  have d1 := (cell_of_below HB1.out HGL.out).trans HC0.out.cells.1.2.1
  have zm1 : w.heap.size < W1.heap.size := by rw [HZ1.out]; omega
  have HFI : Hid (Calls Tryz.prog 43 #[.slice (some ⟨xb, xo, none⟩) 1 xc, .string ⟨#[101]⟩] W1.drew fun e w' => e = .returned (.int .i64 0) ∧ Below W1.drew.heap.size W1.drew w') := Lib.hid (Rt.find_any (some ⟨xb, xo, none⟩) xc [exE K] [101] W1.drew (HX0.out.below HB1.out.drew))
  have HSK := Lib.hid (fun (wz : World) (k : Below W1.heap.size W1 wz) => (⟨(cell_of_below k (show g < W1.heap.size from Nat.lt_of_lt_of_le HGL.out (Nat.le_of_lt zm1))).trans d1, (cell_of_below k zm1).trans m3'⟩ : wz.cell? ⟨g, 1, none⟩ = some (.slice (some ⟨xb, xo, none⟩) 1 xc) ∧ wz.cell? ⟨w.heap.size, 3, none⟩ = some (.string ⟨#[101]⟩)))
  have hS0 := HSK.out _ (Below.refl W1.heap.size W1).drew
  go_region_held3 (fun wx => wx.cell? ⟨g, 1, none⟩ = some (.slice (some ⟨xb, xo, none⟩) 1 xc) ∧ wx.cell? ⟨w.heap.size, 3, none⟩ = some (.string ⟨#[101]⟩))
    (first | exact hS0 | exact HSK.out _ HB4.out)
    (first | (go_at_call 43; refine HFI.out.mono ?_; rintro e w4 ⟨rfl, hb4⟩; have HB4 := Lib.hid ((Below.refl W1.heap.size W1).drew.trans hb4); clear hb4; dsimp only) | fail)
  rename_i hHeld
  clear hHeld hS0 d1 m3'
  have HBW4 := Lib.hid (HB1.out.trans (HB4.out.mono HB1.out.size))
  have m11 := (cell_of_below HB4.out zm1).trans m11'
  have d1 := (cell_of_below HBW4.out HGL.out).trans HC0.out.cells.1.2.1
  have x1 := (cell_of_below HBW4.out HXL.out).trans HX1.out
  have HBX4 := Lib.hid (box_bl HBX1.out HB4.out)

  have q4 : ((K : Int) == 4) = true := by rw [beq_iff_eq]; have := H4.out; omega
  have hi4 : ItB w4 ib N := (HBW4.out.block ib (box_lt HI0.out).1).trans HI0.out
  have HWG := Lib.hid (weight_any ib N HKN.out.2 w4 hi4)
  clear hi4
  go_upto_region 7 with (go_at_call 53; refine HWG.out.mono ?_; rintro e w5 ⟨rfl, hb5⟩; have HB5 := Lib.hid hb5; have HBX5 := Lib.hid (box_bl HBX4.out hb5); obtain ⟨⟨r0, r1, r2, r3⟩, s0, s1, s2, s3⟩ := cells4 HBX5.out; clear hb5)
  have hz6 : w.heap.size ≤ w.heap.size + 1 := by omega
  have h6 : (w5.setCell ⟨w.heap.size + 1, 3, none⟩ (.int .i64 N)).heap[w.heap.size + 1]? = some (.cells #[.string ⟨#[101]⟩, .string ⟨#[113]⟩, .string ⟨#[107]⟩, .int .i64 N] 92 (0, 0)) := by
    have h := set_heap HBX5.out 3 (.int .i64 N)
    exact h
  have hb6 : Below w.heap.size w (w5.setCell ⟨w.heap.size + 1, 3, none⟩ (.int .i64 N)) := low_set (HBW4.out.trans (HB5.out.mono HBW4.out.size)) hz6
  generalize w5.setCell ⟨w.heap.size + 1, 3, none⟩ (.int .i64 N) = W6 at h6 hb6 ⊢
  have hwt : (bdB K N).wt = N := if_pos H4.out
  clear r0 r1 r2 r3 s0 s1 s2 s3 hz6
  have hbd := Rt.bind_any (some ⟨xb, xo, none⟩) xc [exE K] none 0 [] (bdB K N) (by simp) W6.drew (HX0.out.below hb6.drew) (bs_nil _)
  rw [hwt] at hbd
  have hbd : Calls Tryz.prog 54 #[.slice (some ⟨xb, xo, none⟩) 1 xc, .slice none 0 0, .agg #[.string ⟨#[101]⟩, .string ⟨#[113]⟩, .string ⟨#[107]⟩, .int .i64 N]] W6.drew (Rt.BindQ [exE K] [] (bdB K N) W6.drew) := hbd
  have HBD := Lib.hid hbd
  have HBW6 := Lib.hid hb6
  have z2 := (box_lt h6).1
  obtain ⟨⟨r0, r1, r2, r3⟩, -⟩ := cells4 h6
  have hc6 : ChB W6 g st _ _ _ _ _ _ _ := (hb6.block g HGL.out).trans HC0.out
  have zg6 := hc6.lt
  obtain ⟨⟨-, t1, t2, -⟩, -⟩ := hc6.cells
  have HC6 := Lib.hid hc6
  have HSK := Lib.hid (fun (wz : World) (k : Below W6.heap.size W6 wz) => (⟨(cell_of_below k zg6).trans t1, (cell_of_below k zg6).trans t2, (cell_of_below k z2).trans r0, (cell_of_below k z2).trans r1, (cell_of_below k z2).trans r2, (cell_of_below k z2).trans r3⟩ : wz.cell? ⟨g, 1, none⟩ = some (.slice (some ⟨xb, xo, none⟩) 1 xc) ∧ wz.cell? ⟨g, 2, none⟩ = some (.slice none 0 0) ∧ wz.cell? ⟨w.heap.size + 1, 0, none⟩ = some (.string ⟨#[101]⟩) ∧ wz.cell? ⟨w.heap.size + 1, 1, none⟩ = some (.string ⟨#[113]⟩) ∧ wz.cell? ⟨w.heap.size + 1, 2, none⟩ = some (.string ⟨#[107]⟩) ∧ wz.cell? ⟨w.heap.size + 1, 3, none⟩ = some (.int .i64 N)))
  have hS0 := HSK.out _ (Below.refl W6.heap.size W6).drew
  clear hbd hb6 h6 hc6 m11 d1 x1 hwt q4
  go_region_held3 (fun wx => wx.cell? ⟨g, 1, none⟩ = some (.slice (some ⟨xb, xo, none⟩) 1 xc) ∧ wx.cell? ⟨g, 2, none⟩ = some (.slice none 0 0) ∧ wx.cell? ⟨w.heap.size + 1, 0, none⟩ = some (.string ⟨#[101]⟩) ∧ wx.cell? ⟨w.heap.size + 1, 1, none⟩ = some (.string ⟨#[113]⟩) ∧ wx.cell? ⟨w.heap.size + 1, 2, none⟩ = some (.string ⟨#[107]⟩) ∧ wx.cell? ⟨w.heap.size + 1, 3, none⟩ = some (.int .i64 N))
    (first | exact hS0 | exact HSK.out _ HB7.out)
    (first | (go_at_call 54; refine HBD.out.mono ?_; rintro e w7 ⟨hb7, v7, y7, c7, rfl, hd7, ho7⟩; obtain ⟨rfl, rfl⟩ := bind_r K HKN.out.1 N HKN.out.2 hd7; obtain ⟨ya, yc, he, -⟩ := Rt.OwnB.at ho7; have he : v7 = .slice ya 1 yc := he; subst he; have HB7 := Lib.hid ((Below.refl W6.heap.size W6).drew.trans hb7); have HO7 : Hid (Rt.OwnB w7 w.heap.size (.slice ya 1 yc) [bdB K N]) := Lib.hid (Rt.OwnB.mono ho7 HBW6.out.size); clear hb7 hd7 ho7; dsimp only) | fail)
  rename_i hHeld
  clear hHeld hS0 t1 t2 r0 r1 r2 r3
  have hc7 := HC6.out.below HB7.out
  have hs7 := hc7.set2 (.slice ya 1 yc)
  have ho8 : Rt.OwnB (w7.setCell ⟨g, 2, none⟩ (.slice ya 1 yc)) w.heap.size (.slice ya 1 yc) [bdB K N] := own_stay HO7.out fun j hj => Below.heap_setCell w7 ⟨g, 2, none⟩ (.slice ya 1 yc) j (fun e => own_box HO7.out hc7 (by decide) (by rw [hj]; exact congrArg some e))
  have HK8 : Hid (Kept [g] w (w7.setCell ⟨g, 2, none⟩ (.slice ya 1 yc))) := Lib.hid ((Kept.of_below (HBW6.out.trans (HB7.out.mono HBW6.out.size))).set (by simp) 2 (.slice ya 1 yc))
  have HC8 := Lib.hid hs7
  have HO8 := Lib.hid ho8
  obtain ⟨⟨-, -, f2, -⟩, -, -, g2, -⟩ := hc7.cells
  clear hc7 hs7 ho8
  go_upto_region 9 with fail
  generalize w7.setCell ⟨g, 2, none⟩ (.slice ya 1 yc) = W8 at *
  go_wp2_with (go_at_call 34; refine (done_ok 5021 W8).mono ?_; rintro e w9 ⟨rfl, hm9, hb9⟩; have HM9 := Lib.hid hm9; have HB9 := Lib.hid hb9; clear hm9 hb9)
  go_ret2
  exact ⟨_, _, rfl, HM9.out, HC8.out.below HB9.out, Rt.OwnB.below1 HO8.out HB9.out, Kept.tail HK8.out HB9.out⟩

set_option maxRecDepth 100000 in
set_option maxHeartbeats 8000000 in
theorem bind_other (g : Nat) (st : Int) (xa : Option Addr) (xc : Nat) (a : Option Addr) (n cap : Nat) (c p : Value) (cf tx : Bool) (l : List (List UInt8)) (K : Nat) (hK : 1 ≤ K ∧ K ≤ 4) (h4 : ¬ K = 4) (N : Int) (hN : 1 ≤ N ∧ N ≤ 4) (ib : Nat) (w : World) (hn : n = l.length) (hs : [113] ∈ l) (h : ChB w g st (.slice xa 1 xc) (.slice none 0 0) (.slice a n cap) c p cf tx) (hl : StAt w a cap l) (hx : Rt.XsAt w xa xc [exE K]) (hi : ItB w ib N) :
    Calls Tryz.prog 33 #[.pointer (some ⟨g, 0, none⟩), .agg (meC (bindM [113] [101] [107] [itW N]) (some ⟨ib, 0, none⟩) 1)] w fun e w' => ∃ s v, e = .returned (.tuple #[.slice (some ⟨s, 0, none⟩) 1 1, .int .i64 0]) ∧ MeAt w' s (Me.of 5021) none 0 ∧ ChB w' g st (.slice xa 1 xc) v (.slice a n cap) c p cf tx ∧ Rt.OwnB w' w.heap.size v [bdB K N] ∧ Kept [g] w w' := by
  have hat0 : MeAt (w.alloc (.cells (meC (bindM [113] [101] [107] [itW N]) (some ⟨ib, 0, none⟩) 1) 31)) w.heap.size (bindM [113] [101] [107] [itW N]) (some ⟨ib, 0, none⟩) 1 := heap_alloc_new w _
  have hb0 : Below w.heap.size w (w.alloc (.cells (meC (bindM [113] [101] [107] [itW N]) (some ⟨ib, 0, none⟩) 1) 31)) := (Below.refl _ _).alloc (Nat.le_refl _) _
  have m1 : (w.alloc (.cells (meC (bindM [113] [101] [107] [itW N]) (some ⟨ib, 0, none⟩) 1) 31)).cell? ⟨w.heap.size, 1, none⟩ = some (.string ⟨#[113]⟩) := hat0.cells.1.2.1
  have m3 : (w.alloc (.cells (meC (bindM [113] [101] [107] [itW N]) (some ⟨ib, 0, none⟩) 1) 31)).cell? ⟨w.heap.size, 3, none⟩ = some (.string ⟨#[101]⟩) := hat0.cells.1.2.2.2.1
  have m4 : (w.alloc (.cells (meC (bindM [113] [101] [107] [itW N]) (some ⟨ib, 0, none⟩) 1) 31)).cell? ⟨w.heap.size, 4, none⟩ = some (.string ⟨#[107]⟩) := hat0.cells.1.2.2.2.2.1
  have m11 : (w.alloc (.cells (meC (bindM [113] [101] [107] [itW N]) (some ⟨ib, 0, none⟩) 1) 31)).cell? ⟨w.heap.size, 11, none⟩ = some (.slice (some ⟨ib, 0, none⟩) 1 1) := hat0.cells.2.2.2.2.2.2
  have hch := h.below hb0
  obtain ⟨xb, xo, rfl, x0, x1⟩ := Rt.XsAt.get hx 0 (by simp)
  have x1 : w.cell? ⟨xb, xo + 1, none⟩ = some (.int .i64 K) := by simpa [exE] using x1
  have HGL := Lib.hid h.lt
  have HC0 := Lib.hid h
  have HX0 := Lib.hid hx
  have HI0 := Lib.hid hi
  have HX1 := Lib.hid x1
  have HXL := Lib.hid (lt_of_cell x1)
  have HB0 := Lib.hid hb0
  have hh := has_any g st (.slice (some ⟨xb, xo, none⟩) 1 xc) (.slice none 0 0) a n cap c p cf tx l [113] _ hn hch (hl.below hb0)
  rw [decide_eq_true hs] at hh
  have HH := Lib.hid hh
  have HKN := Lib.hid (And.intro hK hN)
  have H4 := Lib.hid h4
  obtain ⟨mc, hmc⟩ : ∃ mc, mc = (meC (bindM [113] [101] [107] [itW N]) (some ⟨ib, 0, none⟩) 1) := ⟨_, rfl⟩
  rw [← hmc] at m1 m3 m4 m11 HB0 HH ⊢
  obtain ⟨W, hW⟩ : ∃ W, W = w.alloc (.cells mc 31) := ⟨_, rfl⟩
  have HWW := Lib.hid hW
  have hWs : W.heap.size = w.heap.size + 1 := by rw [hW]; simp
  rw [← hW] at m1 m3 m4 m11 HB0 HH
  clear hat0 hb0 h hch hmc hW hK hN hh hs hl hx hi hn h4 x0 x1
  go_enter Tryz.func33, Tryz.ntmps33
  go_upto_region 1 with fail
  rw [← HWW.out]
  go_upto_region 4 with (go_at_call 24; refine HH.out.mono ?_; rintro e w1 ⟨rfl, rfl⟩)
  have hx1 := one_box (w := W) (.cells #[.string ⟨#[101]⟩, .string ⟨#[113]⟩, .string ⟨#[107]⟩, .int .i64 0] 92)
  generalize W.alloc (.cells #[.string ⟨#[101]⟩, .string ⟨#[113]⟩, .string ⟨#[107]⟩, .int .i64 0] 92) = W1 at hx1 ⊢
  obtain ⟨hbx1, hbl1, hsz1⟩ := hx1
  rw [hWs] at hbx1 hsz1
  have HB1 := Lib.hid (HB0.out.trans (hbl1.mono HB0.out.size))
  have zm : w.heap.size < W.heap.size := by omega
  have m3' := (cell_of_below hbl1 zm).trans m3
  have m11' := (cell_of_below hbl1 zm).trans m11
  have HBX1 := Lib.hid hbx1
  have HZ1 := Lib.hid hsz1
  clear m1 m3 m4 m11 hbx1 hbl1 hsz1
  have d1 := (cell_of_below HB1.out HGL.out).trans HC0.out.cells.1.2.1
  have zm1 : w.heap.size < W1.heap.size := by rw [HZ1.out]; omega
  have HFI : Hid (Calls Tryz.prog 43 #[.slice (some ⟨xb, xo, none⟩) 1 xc, .string ⟨#[101]⟩] W1.drew fun e w' => e = .returned (.int .i64 0) ∧ Below W1.drew.heap.size W1.drew w') := Lib.hid (Rt.find_any (some ⟨xb, xo, none⟩) xc [exE K] [101] W1.drew (HX0.out.below HB1.out.drew))
  have HSK := Lib.hid (fun (wz : World) (k : Below W1.heap.size W1 wz) => (⟨(cell_of_below k (show g < W1.heap.size from Nat.lt_of_lt_of_le HGL.out (Nat.le_of_lt zm1))).trans d1, (cell_of_below k zm1).trans m3'⟩ : wz.cell? ⟨g, 1, none⟩ = some (.slice (some ⟨xb, xo, none⟩) 1 xc) ∧ wz.cell? ⟨w.heap.size, 3, none⟩ = some (.string ⟨#[101]⟩)))
  have hS0 := HSK.out _ (Below.refl W1.heap.size W1).drew
  go_region_held3 (fun wx => wx.cell? ⟨g, 1, none⟩ = some (.slice (some ⟨xb, xo, none⟩) 1 xc) ∧ wx.cell? ⟨w.heap.size, 3, none⟩ = some (.string ⟨#[101]⟩))
    (first | exact hS0 | exact HSK.out _ HB4.out)
    (first | (go_at_call 43; refine HFI.out.mono ?_; rintro e w4 ⟨rfl, hb4⟩; have HB4 := Lib.hid ((Below.refl W1.heap.size W1).drew.trans hb4); clear hb4; dsimp only) | fail)
  rename_i hHeld
  clear hHeld hS0 d1 m3'
  have HBW4 := Lib.hid (HB1.out.trans (HB4.out.mono HB1.out.size))
  have m11 := (cell_of_below HB4.out zm1).trans m11'
  have d1 := (cell_of_below HBW4.out HGL.out).trans HC0.out.cells.1.2.1
  have x1 := (cell_of_below HBW4.out HXL.out).trans HX1.out
  have HBX4 := Lib.hid (box_bl HBX1.out HB4.out)

  have q4 : ((K : Int) == 4) = false := by rw [beq_eq_false_iff_ne]; have := H4.out; omega
  go_upto_region 7 with fail
  obtain ⟨W6, hW6⟩ : ∃ W6, W6 = w4 := ⟨_, rfl⟩
  have h6 := HBX4.out
  have hb6 := HBW4.out
  rw [← hW6] at h6 hb6 ⊢
  clear hW6
  have hwt : (bdB K N).wt = 0 := if_neg H4.out
  have hbd := Rt.bind_any (some ⟨xb, xo, none⟩) xc [exE K] none 0 [] (bdB K N) (by simp) W6.drew (HX0.out.below hb6.drew) (bs_nil _)
  rw [hwt] at hbd
  have hbd : Calls Tryz.prog 54 #[.slice (some ⟨xb, xo, none⟩) 1 xc, .slice none 0 0, .agg #[.string ⟨#[101]⟩, .string ⟨#[113]⟩, .string ⟨#[107]⟩, .int .i64 0]] W6.drew (Rt.BindQ [exE K] [] (bdB K N) W6.drew) := hbd
  have HBD := Lib.hid hbd
  have HBW6 := Lib.hid hb6
  have z2 := (box_lt h6).1
  obtain ⟨⟨r0, r1, r2, r3⟩, -⟩ := cells4 h6
  have hc6 : ChB W6 g st _ _ _ _ _ _ _ := (hb6.block g HGL.out).trans HC0.out
  have zg6 := hc6.lt
  obtain ⟨⟨-, t1, t2, -⟩, -⟩ := hc6.cells
  have HC6 := Lib.hid hc6
  have HSK := Lib.hid (fun (wz : World) (k : Below W6.heap.size W6 wz) => (⟨(cell_of_below k zg6).trans t1, (cell_of_below k zg6).trans t2, (cell_of_below k z2).trans r0, (cell_of_below k z2).trans r1, (cell_of_below k z2).trans r2, (cell_of_below k z2).trans r3⟩ : wz.cell? ⟨g, 1, none⟩ = some (.slice (some ⟨xb, xo, none⟩) 1 xc) ∧ wz.cell? ⟨g, 2, none⟩ = some (.slice none 0 0) ∧ wz.cell? ⟨w.heap.size + 1, 0, none⟩ = some (.string ⟨#[101]⟩) ∧ wz.cell? ⟨w.heap.size + 1, 1, none⟩ = some (.string ⟨#[113]⟩) ∧ wz.cell? ⟨w.heap.size + 1, 2, none⟩ = some (.string ⟨#[107]⟩) ∧ wz.cell? ⟨w.heap.size + 1, 3, none⟩ = some (.int .i64 0)))
  have hS0 := HSK.out _ (Below.refl W6.heap.size W6).drew
  clear hbd hb6 h6 hc6 m11 d1 x1 hwt q4
  go_region_held3 (fun wx => wx.cell? ⟨g, 1, none⟩ = some (.slice (some ⟨xb, xo, none⟩) 1 xc) ∧ wx.cell? ⟨g, 2, none⟩ = some (.slice none 0 0) ∧ wx.cell? ⟨w.heap.size + 1, 0, none⟩ = some (.string ⟨#[101]⟩) ∧ wx.cell? ⟨w.heap.size + 1, 1, none⟩ = some (.string ⟨#[113]⟩) ∧ wx.cell? ⟨w.heap.size + 1, 2, none⟩ = some (.string ⟨#[107]⟩) ∧ wx.cell? ⟨w.heap.size + 1, 3, none⟩ = some (.int .i64 0))
    (first | exact hS0 | exact HSK.out _ HB7.out)
    (first | (go_at_call 54; refine HBD.out.mono ?_; rintro e w7 ⟨hb7, v7, y7, c7, rfl, hd7, ho7⟩; obtain ⟨rfl, rfl⟩ := bind_r K HKN.out.1 N HKN.out.2 hd7; obtain ⟨ya, yc, he, -⟩ := Rt.OwnB.at ho7; have he : v7 = .slice ya 1 yc := he; subst he; have HB7 := Lib.hid ((Below.refl W6.heap.size W6).drew.trans hb7); have HO7 : Hid (Rt.OwnB w7 w.heap.size (.slice ya 1 yc) [bdB K N]) := Lib.hid (Rt.OwnB.mono ho7 HBW6.out.size); clear hb7 hd7 ho7; dsimp only) | fail)
  rename_i hHeld
  clear hHeld hS0 t1 t2 r0 r1 r2 r3
  have hc7 := HC6.out.below HB7.out
  have hs7 := hc7.set2 (.slice ya 1 yc)
  have ho8 : Rt.OwnB (w7.setCell ⟨g, 2, none⟩ (.slice ya 1 yc)) w.heap.size (.slice ya 1 yc) [bdB K N] := own_stay HO7.out fun j hj => Below.heap_setCell w7 ⟨g, 2, none⟩ (.slice ya 1 yc) j (fun e => own_box HO7.out hc7 (by decide) (by rw [hj]; exact congrArg some e))
  have HK8 : Hid (Kept [g] w (w7.setCell ⟨g, 2, none⟩ (.slice ya 1 yc))) := Lib.hid ((Kept.of_below (HBW6.out.trans (HB7.out.mono HBW6.out.size))).set (by simp) 2 (.slice ya 1 yc))
  have HC8 := Lib.hid hs7
  have HO8 := Lib.hid ho8
  obtain ⟨⟨-, -, f2, -⟩, -, -, g2, -⟩ := hc7.cells
  clear hc7 hs7 ho8
  go_upto_region 9 with fail
  generalize w7.setCell ⟨g, 2, none⟩ (.slice ya 1 yc) = W8 at *
  go_wp2_with (go_at_call 34; refine (done_ok 5021 W8).mono ?_; rintro e w9 ⟨rfl, hm9, hb9⟩; have HM9 := Lib.hid hm9; have HB9 := Lib.hid hb9; clear hm9 hb9)
  go_ret2
  exact ⟨_, _, rfl, HM9.out, HC8.out.below HB9.out, Rt.OwnB.below1 HO8.out HB9.out, Kept.tail HK8.out HB9.out⟩

end Go.Proofs.YtiobcgolcoocnaaGreatDoor.Ch
