/-
  ValueBack.
-/
import Derived.Test.YtpibbgencojbgaaTold
import Derived.Test.YtpibbgencojbgaaSize
import Derived.Test.YtpibbgencojbgaaBackD
import Derived.Test.YtpibbgencojbgaaBackM
namespace Go.Proofs.Ytpibbgencojbgaa
open Go.RowKit
set_option linter.unusedVariables false

/-- what Put answers, in two. -/
theorem put_two {l : List It} {w : World} {e : Ending} {w' : World} (h : PutR l w e w') :
    Below w.heap.size w w' ∧ ((∃ c : Int, e = .returned (.tuple #[.slice none 0 0, .int .i64 c]) ∧ (c == 0) = false ∧ ¬ c = 0) ∨
      (MayT 1 l ∧ (putT l).length ≤ 3000 ∧ ∃ g cap, e = .returned (.tuple #[.slice (some ⟨g, 0, none⟩) (putT l).length cap, .int .i64 0]) ∧ w.heap.size ≤ g ∧ Bytes1 w' g cap (putT l))) := by
  obtain ⟨hb, h⟩ := h
  refine ⟨hb, ?_⟩
  rcases h with ⟨_, h⟩ | ⟨_, _, h⟩ | ⟨h1, h2, v, h3, h4⟩
  · exact .inl ⟨1, h, by decide, by decide⟩
  · exact .inl ⟨502, h, by decide, by decide⟩
  · obtain ⟨g, cap, rfl, hg, hb1⟩ := h4.bytes1 (by have := put_len4 l; omega)
    exact .inr ⟨h1, h2, g, cap, h3, hg, hb1⟩
/-- Get of a table's bytes. -/
theorem get_put {l : List It} {w : World} {e : Ending} {w' : World} (hm : MayT 1 l) (hf : Fits l) (hl : (putT l).length ≤ 3000) (h : GetR (putT l) w e w') :
    Below w.heap.size w w' ∧ ∃ a cap bs, e = .returned (.tuple #[.slice a l.length cap, .int .i64 0]) ∧ SlAt w' bs a cap l := by
  obtain ⟨hb, h⟩ := h
  refine ⟨hb, ?_⟩
  rcases h with ⟨_, h⟩ | ⟨m, a, cap, bs, g1, g2, g3, g4, g5, g6⟩
  · exact (h l hm hf rfl hl).elim
  · obtain rfl := putT_inj g1 hm (Tb.fits ⟨_, g5⟩) hf (by rw [g2]; exact g3) g2
    exact ⟨a, cap, bs, g4, g5⟩
/-- Get of what is no table's bytes. -/
theorem get_none {b : List UInt8} {w : World} {e : Ending} {w' : World} (hn : ∀ m, putT m = b → False) (h : GetR b w e w') : Below w.heap.size w w' ∧ e = .returned (.tuple #[.slice none 0 0, .int .i64 502]) := by
  obtain ⟨hb, h⟩ := h
  rcases h with ⟨h, _⟩ | ⟨m, a, cap, bs, g1, g2, _⟩
  · exact ⟨hb, h⟩
  · exact (hn m g2).elim

set_option maxRecDepth 100000 in
set_option maxHeartbeats 4000000 in
theorem back_any (a0 : Option Addr) (cap0 : Nat) (l0 : List It) (p1 p2 : Int) (w : World) (w0 : Tb w a0 cap0 l0) (w1 : (Lit.int .i64 p1).wf = true) (w2 : (Lit.int .u8 p2).wf = true) :
    Calls Try.prog 4 #[.slice a0 l0.length cap0, .int .i64 p1, .int .u8 p2] w fun e w' => e = .returned (.bool true) ∧ Below w.heap.size w w' := by
  obtain ⟨c, rfl⟩ := byte_of (in_u8 w2)
  clear w1 w2
  have hlen := w0.len
  unfold maxLen at hlen
  have HT0 := Lib.hid w0
  have HFIT := Lib.hid w0.fits
  clear w0
  go_enter Try.func4, Try.ntmps4
  go_wp2_with fail
  refine (few_any _ HT0.out).mono ?_
  rintro e wx ⟨r, rfl, rfl, hf⟩
  have HF := Lib.hid hf
  clear hf
  cases r
  · go_wp2_with fail
    refine (told_any _).mono ?_
    rintro e w' ⟨rfl, hb⟩
    have HB := Lib.hid hb
    clear hb
    go_wp2_with fail
    go_ret
    exact ⟨rfl, HB.out⟩
  go_wp2_with fail
  refine (put_any _ HT0.out).mono ?_
  intro e w1 h
  obtain ⟨hb1, h⟩ := put_two h
  have HT1 := Lib.hid (HT0.out.below hb1)
  have HB1 := Lib.hid hb1
  clear hb1 HT0
  rcases h with ⟨ce, rfl, hce, hce0⟩ | ⟨hmay, hl3, gb, capb, rfl, -, hbb⟩
  · go_wp2_with fail
    refine (told_any _).mono ?_
    rintro e w' ⟨rfl, hb⟩
    have HB := Lib.hid (HB1.out.trans (hb.mono HB1.out.size))
    clear hb
    go_wp2_with fail
    go_ret
    exact ⟨by first | rfl | (simp [*]; done) | (simp [*]; omega), HB.out⟩
  have hl4 := put_len4 l0
  obtain ⟨L, hL⟩ : ∃ L, L = putT l0 := ⟨_, rfl⟩
  rw [← hL] at hl3 hbb hl4 ⊢
  have HL := Lib.hid hL
  have HM := Lib.hid hmay
  have HBB := Lib.hid hbb
  have hcb := hbb.len
  have hcm := hbb.max
  unfold maxLen at hcm
  clear hL hmay hbb
  have hnz : ((L.length : Int) == 0) = false := by rw [beq_eq_false_iff_ne]; omega
  go_wp2_with fail
  refine (get_any (B := w1.heap.size) _ L w1 (Nat.le_refl _) HBB.out.in).mono ?_
  intro e w2 h
  rw [HL.out] at h
  obtain ⟨hb2, a2, cap2, bs2, rfl, hs2⟩ := get_put HM.out HFIT.out (by rw [← HL.out]; exact hl3) h
  clear h
  have HT2 := Lib.hid (HT1.out.below hb2)
  have HBB2 := Lib.hid (HBB.out.below hb2)
  have HB2 := Lib.hid (HB1.out.trans (hb2.mono HB1.out.size))
  have HS2 := Lib.hid hs2
  clear hb2 hs2 HT1 HBB HB1
  obtain ⟨q1, hq1⟩ : ∃ q, IntKind.u64.wrap p1 = q := ⟨_, rfl⟩
  have hqb1 : 0 ≤ q1 := by rw [← hq1, IntKind.wrap_u64]; omega
  have hlw : IntKind.u64.wrap (L.length : Int) = (L.length : Int) := by rw [IntKind.wrap_u64]; omega
  obtain ⟨k, hk, hkl⟩ : ∃ i : Nat, q1.tmod (L.length : Int) = (i : Int) ∧ i < L.length := by
    rw [Int.tmod_eq_emod_of_nonneg hqb1]
    have h1 := Int.emod_nonneg q1 (b := (L.length : Int)) (by omega)
    have h2 := Int.emod_lt_of_pos q1 (b := (L.length : Int)) (by omega)
    exact ⟨(q1 % (L.length : Int)).toNat, by omega, by omega⟩
  clear hqb1
  have hl0 : ¬ (L.length : Int) = 0 := by omega
  have hwk : IntKind.i64.wrap (k : Int) = (k : Int) := IntWalk.i64_in _ (by omega)
  have hk0 : (0 : Int) ≤ (k : Int) := by omega
  have hk1 : (k : Int) ≤ (capb : Int) := by omega
  clear h
  go_wp2_with fail
  clear hq1 hlw hk hl0 hwk
  refine (get_any (B := w2.heap.size) _ (L.take k) w2 (Nat.le_refl _) (HBB2.out.cut (by omega))).mono ?_
  intro e w3 h
  obtain ⟨hb3, rfl⟩ := get_none (fun m hm => put_cut (l := l0) (m := m) (k := k) (by rw [← HL.out]; exact hl3) (by rw [← HL.out]; exact hkl) (by rw [← HL.out]; exact hm)) h
  clear h
  have HT3 := Lib.hid (HT2.out.below hb3)
  have HBB3 := Lib.hid (HBB2.out.below hb3)
  have HB3 := Lib.hid (HB2.out.trans (hb3.mono HB2.out.size))
  have HS3 := Lib.hid (HS2.out.keep fun b hb => hb3.block b (HS2.out.lt b hb))
  clear hb3 HT2 HBB2 HB2 HS2
  have hL0 : 0 < L.length := by omega
  have hL1 : L.length ≤ 100000 := by omega
  have hL2 : L.length ≤ 1000000 := by omega
  go_wp2_with (at_builtin; first
    | (refine put_dup (w := w3) (l := L) rfl (.tmp 62) (.tmp 63) rfl hL0 hL1 HBB3.out rfl rfl rfl rfl ?_; intro g4 cap4 w4 hg4 hbuf4 hb4; have HG4 := Lib.hid hg4; have HBUF4 := Lib.hid hbuf4; have HB4 := Lib.hid hb4; clear hg4 hbuf4 hb4)
    | (refine put_one (w := w4) rfl (.tmp 64) (.tmp 66) rfl HBUF4.out HB4.out.size hL2 c rfl rfl _ rfl rfl ?_; intro v5 w5 hbuf5 hon5; have HBUF5 := Lib.hid hbuf5; have HO5 := Lib.hid hon5; clear hbuf5 hon5))
  have hb35 : Below w3.heap.size w3 w5 := HB4.out.trans (HO5.out.below HBUF4.out HB4.out.size)
  refine (get_any (B := w5.heap.size) _ (L ++ [c]) w5 (Nat.le_refl _) HBUF5.out.bytes).mono ?_
  intro e w6 h
  obtain ⟨hb6, rfl⟩ := get_none (fun m hm => put_more (l := l0) (m := m) (c := c) (by rw [← HL.out]; exact hl3) (by rw [← HL.out]; exact hm)) h
  have hb36 := hb35.trans (hb6.mono hb35.size)
  have HT6 := Lib.hid (HT3.out.below hb36)
  have HBB6 := Lib.hid (HBB3.out.below hb36)
  have HB6 := Lib.hid (HB3.out.trans (hb36.mono HB3.out.size))
  have HS6 := Lib.hid (HS3.out.keep fun b hb => hb36.block b (HS3.out.lt b hb))
  clear h hb6 hb36 hb35 HT3 HBB3 HB3 HS3 HBUF5 HO5 HBUF4 HB4 HG4
  go_wp2_with fail
  refine (same_two False HS6.out HT6.out (by have := HF.out (by trivial); omega) (fun h => h.elim)).mono ?_
  rintro e w7 ⟨r, rfl, hb7, hr, _⟩
  obtain rfl : r = true := hr rfl
  have HT7 := Lib.hid (HT6.out.below hb7)
  have HBB7 := Lib.hid (HBB6.out.below hb7)
  have HB7 := Lib.hid (HB6.out.trans (hb7.mono HB6.out.size))
  clear hb7 hr HT6 HBB6 HB6 HS6
  obtain ⟨x, hx⟩ : ∃ x, x = L[k] := ⟨_, rfl⟩
  have hxor := xor_byte x c
  have hkc : (k : Int) < (L.length : Int) := by omega
  have HX := Lib.hid hx
  clear hx
  go_wp2_with (at_builtin; refine put_dup (w := w7) (l := L) rfl (.tmp 87) (.tmp 88) rfl hL0 hL1 HBB7.out rfl rfl rfl rfl ?_; intro g8 cap8 w8 hg8 hbuf8 hb8; have hb1 := buf_row hbuf8 hL0; have hc8 := hb1.cell hkl; rw [← HX.out] at hc8; have hf8 := hb1.frozen k; have HBB8 := Lib.hid hb1; have HG8 := Lib.hid hg8; have HB8 := Lib.hid hb8; clear hg8 hbuf8 hb8 hb1)
  have hb9 : Bytes1 (w8.setCell ⟨g8, k, none⟩ (.int .u8 ((x.toNat ^^^ c.toNat : Nat) : Int))) g8 cap8 (L.set k (x ^^^ c)) := by
    have := HBB8.out.set k (x ^^^ c)
    rwa [UInt8.toNat_xor] at this
  have hb79 : Below w7.heap.size w7 (w8.setCell ⟨g8, k, none⟩ (.int .u8 ((x.toNat ^^^ c.toNat : Nat) : Int))) := HB8.out.setCell HG8.out _
  generalize w8.setCell ⟨g8, k, none⟩ (.int .u8 ((x.toNat ^^^ c.toNat : Nat) : Int)) = w9 at *
  have hT0 : c = 0 → L.set k (x ^^^ c) = L := fun e => by rw [HX.out, e]; exact set_same hkl
  have hT1 : L.set k (x ^^^ c) = L → c = 0 := fun e => by rw [HX.out] at e; exact set_turn hkl e
  have hTL : (L.set k (x ^^^ c)).length = L.length := by simp
  obtain ⟨T, hT⟩ : ∃ T, T = L.set k (x ^^^ c) := ⟨_, rfl⟩
  rw [← hT] at hb9 hT0 hT1 hTL
  have HT9 := Lib.hid (HT7.out.below hb79)
  have HB9 := Lib.hid (HB7.out.trans (hb79.mono HB7.out.size))
  have HBB9 := Lib.hid hb9
  have H0 := Lib.hid hT0
  have H1 := Lib.hid hT1
  have HTL := Lib.hid hTL
  clear hb9 hb79 hT0 hT1 hTL hT hc8 hf8 hxor HBB8 HG8 HB8 HT7 HBB7 HB7 HX
  have hin : BytesIn w9.heap.size w9 (.slice (some ⟨g8, 0, none⟩) L.length cap8) T := by
    have := HBB9.out.in
    rwa [HTL.out] at this
  refine (get_any (B := w9.heap.size) _ T w9 (Nat.le_refl _) hin).mono ?_
  rintro e w10 ⟨hb10, h⟩
  have HT10 := Lib.hid (HT9.out.below hb10)
  have HBB10 := Lib.hid (HBB9.out.below hb10)
  have HB10 := Lib.hid (HB9.out.trans (hb10.mono HB9.out.size))
  have HG10 := Lib.hid hb10.size
  clear hin HT9 HB9 HBB9 hb10
  rcases h with ⟨rfl, h⟩ | ⟨m, a10, cap10, bs10, g1, g2, g3, rfl, g5, g6⟩
  · have hc : ¬ c = 0 := fun e => h l0 HM.out HFIT.out (by rw [H0.out e, HL.out]) (by rw [HTL.out]; exact hl3)
    have hcn : ¬ (c.toNat : Int) = 0 := fun e => hc (by
      have : c.toNat = (0 : UInt8).toNat := by simp; omega
      exact UInt8.toNat_inj.1 this)
    have hcb2 : ((c.toNat : Int) == 0) = false := by rw [beq_eq_false_iff_ne]; exact hcn
    clear h hc
    go_wp2_with fail
    refine (told_any _).mono ?_
    rintro e w11 ⟨rfl, hb⟩
    have HB := Lib.hid (HB10.out.trans (hb.mono HB10.out.size))
    clear hb HB10
    go_wp2_with fail
    go_ret
    exact ⟨by first | rfl | (simp [*]; done) | (simp [*]; omega), HB.out⟩
  · have HS10 := Lib.hid g5
    have HO10 := Lib.hid g6
    have HM10 := Lib.hid (And.intro g1 (And.intro g2 g3))
    clear g1 g2 g3 g5 g6
    go_wp2_with fail
    refine (put_any w10 ⟨_, HS10.out⟩).mono ?_
    rintro e w11 ⟨hb11, h⟩
    obtain ⟨gd, capd, rfl, hbd⟩ : ∃ g cap, e = .returned (.tuple #[.slice (some ⟨g, 0, none⟩) T.length cap, .int .i64 0]) ∧ Bytes1 w11 g cap T := by
      rcases h with ⟨h, _⟩ | ⟨_, h, _⟩ | ⟨_, _, v, h1, h2⟩
      · exact absurd HM10.out.1 h
      · have := HM10.out.2.2
        rw [HM10.out.2.1] at h
        omega
      · rw [HM10.out.2.1] at h2
        obtain ⟨g, cap, rfl, _, hb1⟩ := h2.bytes1 (by have := HTL.out; omega)
        exact ⟨g, cap, h1, hb1⟩
    rw [HTL.out]
    have HT11 := Lib.hid (HT10.out.below hb11)
    have HBB11 := Lib.hid (HBB10.out.below hb11)
    have HB11 := Lib.hid (HB10.out.trans (hb11.mono HB10.out.size))
    have HS11 := Lib.hid (HS10.out.keep fun b hb => hb11.block b (HS10.out.lt b hb))
    have HO11 := Lib.hid (HO10.out.keep (fun b hb => hb11.block b (HS10.out.lt b hb)) hb11.size)
    have HD11 := Lib.hid hbd
    clear h hb11 hbd HT10 HBB10 HB10 HS10 HO10
    go_wp2_with fail
    refine (told_any _).mono ?_
    rintro e w12 ⟨rfl, hb12⟩
    have HT12 := Lib.hid (HT11.out.below hb12)
    have HB12 := Lib.hid (HB11.out.trans (hb12.mono HB11.out.size))
    have HS12 := Lib.hid (HS11.out.keep fun b hb => hb12.block b (HS11.out.lt b hb))
    have HO12 := Lib.hid (HO11.out.keep (fun b hb => hb12.block b (HS11.out.lt b hb)) hb12.size)
    have hcv1 := conv_str capd (HD11.out.below hb12).at
    have hcv2 := conv_str cap8 (HBB11.out.below hb12).at
    rw [HTL.out] at hcv1 hcv2
    clear hb12 HT11 HBB11 HB11 HS11 HO11 HD11
    go_wp2_with fail
    refine (same_two True HS12.out HT12.out (by
      have h1 := weigh_put _ m (Nat.le_refl _) 2 HM10.out.1.2.2.2
      have h2 := HM10.out.2.2
      rw [← HM10.out.2.1, putT_length] at h2
      omega) (fun _ => ⟨HO12.out.1, fun b hb => (HO12.out.2 b hb).2.2⟩)).mono ?_
    rintro e w13 ⟨r, rfl, hb13, hr1, _, hr2⟩
    have HB13 := Lib.hid (HB12.out.trans (hb13.mono HB12.out.size))
    by_cases hc : c = 0
    · have hml : m = l0 := putT_inj HM10.out.1 HM.out (Tb.fits ⟨_, HS12.out⟩) HFIT.out (by rw [HM10.out.2.1]; exact HM10.out.2.2) (by rw [HM10.out.2.1, H0.out hc, HL.out])
      obtain rfl : r = true := hr1 hml
      have hcb2 : ((c.toNat : Int) == 0) = true := by rw [hc]; rfl
      have hcn : (c.toNat : Int) = 0 := by rw [hc]; rfl
      clear hb13 hr1 hr2 hc hml hcv1 hcv2 HT12 HB12 HS12 HO12
      go_wp2_with fail
      go_ret
      exact ⟨by first | rfl | (simp [*]; done) | (simp [*]; omega), HB13.out⟩
    · have hrf : r = false := by
        cases r
        · rfl
        · exact (hc (H1.out (by rw [← HM10.out.2.1, hr2 trivial rfl, HL.out]))).elim
      subst hrf
      have hcn : ¬ (c.toNat : Int) = 0 := fun e => hc (by
        have : c.toNat = (0 : UInt8).toNat := by simp; omega
        exact UInt8.toNat_inj.1 this)
      have hcb2 : ((c.toNat : Int) == 0) = false := by rw [beq_eq_false_iff_ne]; exact hcn
      clear hb13 hr1 hr2 hc hcv1 hcv2 HT12 HB12 HS12 HO12
      go_wp2_with fail
      go_ret
      exact ⟨by first | rfl | (simp [*]; done) | (simp [*]; omega), HB13.out⟩

end Go.Proofs.Ytpibbgencojbgaa
