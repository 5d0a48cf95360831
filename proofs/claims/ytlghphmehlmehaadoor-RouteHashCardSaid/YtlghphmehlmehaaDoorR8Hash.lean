/-
  Law RouteHash, walked.
-/
import Derived.Test.YtlghphmehlmehaaDoorR8HashD
import Derived.Test.YtlghphmehlmehaaDoorR8Bnd
namespace Go.Proofs.YtlghphmehlmehaaDoor.Rt
open Go.RowKit Top
set_option linter.unusedVariables false

theorem ext_h : ∀ i : Fin 8, (⟨#[113]⟩ : ByteArray) ++ (⟨#[48, 49, 50, 51, 52, 53, 54, 55]⟩ : ByteArray).extract i.val (i.val + 1) = ⟨[113, dgs.getD i.val 0].toArray⟩ := by decide +kernel

def hashRel (w : World) (x : Addr) (key : List UInt8) (f : Nat → Int) (N : Nat) (m : Nat) (v7 v8 v9 : Value) (wr : World) : Prop :=
  ∃ i : Nat, i ≤ N ∧ m = N - i ∧ v9 = .int .i64 i ∧ v8 = .string ⟨(lastN (nearL [104] key (hsN f i))).toArray⟩ ∧ Below w.heap.size w wr ∧ XsAt wr (some x) 1 [eh] ∧ ∃ c cc, v7 = .slice c i cc ∧ BsAt wr c cc (hsN f i)

set_option maxRecDepth 100000 in
set_option maxHeartbeats 1000000 in
theorem hash_some (b0 o0 len0 cap0 : Nat) (z0 : List Int) (key : List UInt8) (w : World) (hl0 : len0 ≤ cap0) (hc0 : cap0 ≤ maxLen) (hz0 : z0.length = cap0) (h0 : ∀ i, i < z0.length → w.cell? ⟨b0, o0 + i, none⟩ = some (.int .i64 (z0.getD i 0)))
    (N : Nat) (hN : min (len0 : Int) 8 = (N : Int)) (hN1 : 1 ≤ N) (hk : key.length ≤ 60) :
    Calls Tryd.prog 4 #[.slice (some ⟨b0, o0, none⟩) len0 cap0, .string ⟨key.toArray⟩] w fun e w' => e = .returned (.bool true) ∧ Below w.heap.size w w' := by
  have HT := Lib.hid told_any
  have H0 := Lib.hid h0
  have hksz : (⟨key.toArray⟩ : ByteArray).size = key.length := rfl
  have hN8 : N ≤ 8 := by omega
  have hN0 : N ≤ len0 := by omega
  have g1 : ((N : Int) < 1) = False := by simp; omega
  have g2 : ((60 : Int) < (key.length : Int)) = False := by simp; omega
  obtain ⟨f, hf⟩ : ∃ f : Nat → Int, f = fun j => (IntKind.u64.wrap (z0.getD j 0)).tmod 4 := ⟨_, rfl⟩
  have hf4 : ∀ j, 0 ≤ f j ∧ f j < 4 := fun j => by
    obtain ⟨q, h1, h2⟩ := u64_rem (z0.getD j 0) 4 (by decide)
    rw [hf]
    show 0 ≤ (IntKind.u64.wrap (z0.getD j 0)).tmod (4 : Nat) ∧ (IntKind.u64.wrap (z0.getD j 0)).tmod (4 : Nat) < 4
    rw [h1]; omega
  have HX0 := Lib.hid (xs_lit w eh)
  have HB0 := Lib.hid (show Below w.heap.size w (w.alloc (.cells #[.string ⟨[104].toArray⟩, .int .i64 4] 25)) from (Below.refl _ _).alloc (Nat.le_refl _) _)
  clear h0
  go_enter Tryd.func4, Tryd.ntmps4
  go_wp2_with fail
  go_loopg [7, 8, 9] N (hashRel w ⟨w.heap.size, 0, none⟩ key f N)
  case atStart => exact ⟨0, Nat.zero_le _, rfl, rfl, rfl, HB0.out, HX0.out, none, 0, rfl, RowsAt.nil _ _ _ _ _ (by decide)⟩
  case round =>
    obtain ⟨i, hi, rfl, rfl, rfl, hb, hx, c, cc, rfl, hl⟩ := hrel
    have HB := Lib.hid hb
    have HX := Lib.hid hx
    have HL := Lib.hid hl
    clear hb hx hl
    by_cases hlt : i < N
    · have i1 : (i : Int) < (N : Int) := by omega
      have i2 : IntKind.i64.wrap ((i : Int) + 1) = (i : Int) + 1 := IntWalk.i64_in _ (by omega)
      have i3 : (i : Int) < (len0 : Int) := by omega
      have i5 : (0 : Int) ≤ (i : Int) := by omega
      have i6 : (i : Int) + 1 ≤ 8 := by omega
      have i7 : (i : Int) ≤ (i : Int) + 1 := by omega
      have i8 : ¬ (9223372036854775807 < 1 + (min (i + 1) 8 - i)) := by omega
      have c0 : wr.cell? ⟨b0, o0 + i, none⟩ = some (.int .i64 (z0.getD i 0)) := (HB.out.cell (lt_of_cell (H0.out i (by omega)))).trans (H0.out i (by omega))
      have EH := Lib.hid (ext_h ⟨i, by omega⟩)
      obtain ⟨y, hy⟩ : ∃ y, z0.getD i 0 = y := ⟨_, rfl⟩
      obtain ⟨k, hk1, hk2⟩ := u64_rem y 4 (by decide)
      rw [show ((4 : Nat) : Int) = 4 from rfl] at hk1
      have hfi : f i = (k : Int) := by rw [hf]; show (IntKind.u64.wrap (z0.getD i 0)).tmod 4 = _; rw [hy, hk1]
      have HFI := Lib.hid hfi
      rw [hy] at c0
      have w1 : IntKind.i64.wrap (k : Int) = (k : Int) := IntWalk.i64_in _ (by omega)
      have w2 : IntKind.i64.wrap (1 + (k : Int)) = 1 + (k : Int) := IntWalk.i64_in _ (by omega)
      have KH := Lib.hid (show ∀ wx, Below wr.heap.size wr wx → wx.cell? ⟨b0, o0 + i, none⟩ = some (.int .i64 y) ∧ Below wr.heap.size wr wx from fun wx hx => ⟨(hx.cell (p := ⟨b0, o0 + i, none⟩) (lt_of_cell c0)).trans c0, hx⟩)
      have HF4 := Lib.hid hf4
      clear hf hy hfi hf4
      go_wp2_with fail
      go_region_held3 (fun wx => wx.cell? ⟨b0, o0 + i, none⟩ = some (.int .i64 y) ∧ Below wr.heap.size wr wx)
        (first | exact KH.out _ (Below.refl _ _).drew | exact KH.out _ (((Below.refl _ _).drew).alloc (Nat.le_refl _) _) | exact KH.out _ (by assumption))
        (first | fail)
      rw [EH.out, ← HFI.out]
      obtain ⟨wA, hA⟩ : ∃ wA, wA = (wr.alloc (.cells #[.string ⟨#[104]⟩, .string ⟨#[113, dgs.getD i 0]⟩, .string ⟨#[]⟩, .int .i64 (1 + f i)] 28)).drew := ⟨_, rfl⟩
      have hbA : Below wr.heap.size wr wA := by rw [hA]; exact ((Below.refl _ _).alloc (Nat.le_refl _) _).drew
      have hboxA : BoxB wA wr.heap.size (hbN f i) := by rw [hA]; exact (boxB wr (hbN f i)).below (Below.refl _ _).drew
      rw [← hA]
      have HBA := Lib.hid (HB.out.trans (hbA.mono HB.out.size))
      have HXA := Lib.hid (HX.out.below hbA)
      have hD := bind_is (some ⟨w.heap.size, 0, none⟩) 1 [eh] c cc (hsN f i) (hbN f i) _ _ (bind_h f i (by omega) (fun j _ => HF4.out j)) (by rw [hsN_length]; omega) wA HXA.out (HL.out.below hbA)
      rw [hsN_length, hsN_length] at hD
      have HD := Lib.hid hD
      have HBOX := Lib.hid hboxA
      obtain ⟨k0, k1, k2, k3⟩ := hboxA
      clear hA hbA hD
      go_wp2_with (go_at_call 12; refine HD.out.mono ?_; rintro r w2 ⟨hb2, va, vc, rfl, hl2⟩; have HB2 := Lib.hid hb2; have HL2 := Lib.hid hl2; clear hb2 hl2)
      obtain ⟨q, m, hnear, hqq, hqne⟩ := near_step f key i
      have hQ := queues_hash (some ⟨w.heap.size, 0, none⟩) 1 [eh] va vc (hsN f (i + 1)) [104] key 0 (by decide) (by decide) (by decide) (by decide) (by omega) (hs_q f (i + 1)) w2 (HXA.out.below HB2.out) HL2.out
      rw [hsN_length, hnear] at hQ
      refine hQ.mono ?_
      rintro r w3 ⟨hb3, v, rfl, g, rfl, hg, hgc⟩
      have HB3 := Lib.hid (HBA.out.trans ((HB2.out.trans (hb3.mono HB2.out.size)).mono HBA.out.size))
      have HX3 := Lib.hid (HXA.out.below (HB2.out.trans (hb3.mono HB2.out.size)))
      have HL3 := Lib.hid (HL2.out.below hb3)
      obtain ⟨j0, j1, j2, j3⟩ := HBOX.out.below (HB2.out.trans (hb3.mono HB2.out.size))
      have HGC := Lib.hid hgc
      have HNEAR := Lib.hid hnear
      have HLAST := Lib.hid (show lastN (nearL [104] key (hsN f (i + 1))) = q by rw [hnear]; rfl)
      clear hb3 hQ hnear hg k0 k1 k2 k3 j0 j2 j3
      generalize (hbN f i).q = bq at hqq j1
      generalize lastN (nearL [104] key (hsN f i)) = L at hqq ⊢
      by_cases hqL : q = L
      · have hb : (q == L) = true := by simpa using hqL
        clear hqq hqL
        go_wp2_with fail
        go_quiet (fail)
        obtain ⟨w4, hw4⟩ : ∃ w4, w4 = w3.drewN nq := ⟨_, rfl⟩
        have hb4 : Below w3.heap.size w3 w4 := by rw [hw4]; exact Below.drewN (Below.refl _ _) _
        rw [← hw4]
        have c4 := (hb4.cell (lt_of_cell HGC.out)).trans HGC.out
        have HB4 := Lib.hid (HB3.out.trans (hb4.mono HB3.out.size))
        have HX4 := Lib.hid (HX3.out.below hb4)
        have HL4 := Lib.hid (HL3.out.below hb4)
        clear hw4 hb4 hgc
        go_wp2_with fail
        go_quiet (fail)
        go_wp2_with fail
        go_roundg (N - (i + 1))
        case measure => omega
        case rel => exact ⟨i + 1, by omega, rfl, rfl, by rw [HLAST.out], Below.drewN HB4.out _, HX4.out.below (Below.drewN (Below.refl _ _) _), va, vc, rfl, HL4.out.below (Below.drewN (Below.refl _ _) _)⟩
      · obtain rfl : q = bq := hqq.resolve_left hqL
        have hb : (q == L) = false := by simpa using hqL
        have hbb : (q == q) = true := by simp
        clear hqq hqL
        go_wp2_with fail
        go_quiet (fail)
        obtain ⟨w4, hw4⟩ : ∃ w4, w4 = w3.drewN nq := ⟨_, rfl⟩
        have hb4 : Below w3.heap.size w3 w4 := by rw [hw4]; exact Below.drewN (Below.refl _ _) _
        rw [← hw4]
        have c4 := (hb4.cell (lt_of_cell HGC.out)).trans HGC.out
        have HB4 := Lib.hid (HB3.out.trans (hb4.mono HB3.out.size))
        have HX4 := Lib.hid (HX3.out.below hb4)
        have HL4 := Lib.hid (HL3.out.below hb4)
        clear hw4 hb4 hgc
        go_wp2_with fail
        go_quiet (fail)
        go_wp2_with fail
        go_roundg (N - (i + 1))
        case measure => omega
        case rel => exact ⟨i + 1, by omega, rfl, rfl, by rw [HLAST.out], Below.drewN HB4.out _, HX4.out.below (Below.drewN (Below.refl _ _) _), va, vc, rfl, HL4.out.below (Below.drewN (Below.refl _ _) _)⟩
    · obtain rfl : i = N := by omega
      have i1 : ¬ ((i : Int) < (i : Int)) := by omega
      obtain ⟨n, rfl⟩ : ∃ n, i = n + 1 := ⟨i - 1, by omega⟩
      obtain ⟨q, m, hnear, _, hqne⟩ := near_step f key n
      rw [hnear]
      have hL : lastN (some (q, m)) = q := rfl
      rw [hL]
      have hne : q.isEmpty = false := by simpa using hqne
      have hQ := fun wx (hb : Below wr.heap.size wr wx) => queues_hash (some ⟨w.heap.size, 0, none⟩) 1 [eh] none 0 [] [104] key 0 (by decide) (by decide) (by decide) (by decide) (by omega) (fun b hb => by simp at hb) wx (HX.out.below hb) (RowsAt.nil _ _ _ _ _ (by decide))
      have HQ := Lib.hid hQ
      clear hnear hQ hqne
      go_wp2_with fail
      refine (HQ.out _ (Below.refl _ _)).mono ?_
      rintro r w2 ⟨hb2, v, rfl, hv⟩
      have hv' : v = .slice none 0 0 := hv
      subst hv'
      have HB2 := Lib.hid (HB.out.trans (hb2.mono HB.out.size))
      clear hb2 hv
      go_wp2_with fail
      refine (HT.out _).mono ?_
      rintro r w3 ⟨rfl, hb3⟩
      have HB3 := Lib.hid (HB2.out.trans (hb3.mono HB2.out.size))
      clear hb3
      go_wp2_with fail
      go_ret
      exact ⟨rfl, HB3.out⟩

theorem hash_any (a0 : Option Addr) (len0 cap0 : Nat) (z0 : List Int) (p1 : ByteArray) (w : World) (w0 : IsRow .i64 w a0 len0 cap0 z0) (w1 : p1.size ≤ maxLen) :
    Calls Tryd.prog 4 #[.slice a0 len0 cap0, .string p1] w fun e w' => e = .returned (.bool true) ∧ Below w.heap.size w w' := by
  obtain ⟨key, rfl⟩ : ∃ s : List UInt8, p1 = ⟨s.toArray⟩ := ⟨p1.data.toList, by cases p1; simp⟩
  have hsz : (⟨key.toArray⟩ : ByteArray).size = key.length := rfl
  have HT := Lib.hid told_any
  obtain ⟨N, hN⟩ : ∃ N : Nat, min (len0 : Int) 8 = (N : Int) := ⟨min len0 8, by omega⟩
  rw [hsz] at w1
  unfold maxLen at w1
  by_cases h1 : N < 1
  · have h1' : ((N : Int) < 1) = True := by simp; omega
    go_enter Tryd.func4, Tryd.ntmps4
    go_wp2_with (go_at_call 9; refine (HT.out _).mono ?_; rintro e w2 ⟨rfl, hb2⟩; have HB2 := Lib.hid hb2; clear hb2)
    go_ret
    exact ⟨rfl, HB2.out⟩
  by_cases h60 : key.length ≤ 60
  · rcases w0 with ⟨rfl, rfl, rfl, rfl⟩ | ⟨x, rfl, hlc, hcm, hzl, hc, hw⟩
    · exact absurd hN (by omega)
    · obtain ⟨b, o, rfl⟩ := addr_of (hc 0 (by omega))
      exact hash_some b o len0 cap0 z0 key w hlc hcm hzl (fun i hi => by have := hc i hi; rwa [add_at] at this) N hN (by omega) h60
  · have h1' : ((N : Int) < 1) = False := by simp; omega
    have h60' : (60 : Int) < (key.length : Int) := by omega
    go_enter Tryd.func4, Tryd.ntmps4
    go_wp2_with (go_at_call 9; refine (HT.out _).mono ?_; rintro e w2 ⟨rfl, hb2⟩; have HB2 := Lib.hid hb2; clear hb2)
    go_ret
    exact ⟨rfl, HB2.out⟩

end Go.Proofs.YtlghphmehlmehaaDoor.Rt
