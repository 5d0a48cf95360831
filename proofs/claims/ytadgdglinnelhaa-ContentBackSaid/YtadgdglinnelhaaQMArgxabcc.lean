/-
  ContentBack: what memory keeps while two joins are fed.
  ContentBack, walked.
  How a call that came in is read.
-/
import Derived.Test.YtadgdglinnelhaaQBackDxfaba
import Derived.Test.YtadgdglinnelhaaQRSamMxcacd
import Derived.Test.YtadgdglinnelhaaQRSamexaeed
import Derived.Deep.LoopGhost
import Derived.Test.YtadgdglinnelhaaQMPartsxadfe
import Derived.Deep.Slices
import Derived.Deep.Draws
namespace Go.Proofs.Ytadgdglinnelhaa
open Go.RowKit
set_option linter.unusedVariables false

/-- what came in, below K. -/
structure BIn (K : Nat) (w0 : World) (m0 : Me) (a0 : Option Addr) (cap0 : Nat) (a1 : Option Addr) (cap1 : Nat) (l1 : List It) (a2 : Option Addr) (b2 : List UInt8) (w : World) : Prop where
  at_ : MeAt w w0.heap.size m0 a0 cap0
  lt : w0.heap.size < K
  tab : TbU w K a0 cap0 m0.args
  tp : TbU w K a1 cap1 l1
  bts : BytesAt w0.heap.size w a2 b2
  bel : Below w0.heap.size w0 w
  size : K ≤ w.heap.size
theorem BIn.under {K : Nat} {w0 : World} {m0 : Me} {a0 : Option Addr} {cap0 : Nat} {a1 : Option Addr} {cap1 : Nat} {l1 : List It} {a2 : Option Addr} {b2 : List UInt8} {w w' : World} (h : BIn K w0 m0 a0 cap0 a1 cap1 l1 a2 b2 w) (hb : Below K w w') : BIn K w0 m0 a0 cap0 a1 cap1 l1 a2 b2 w' :=
  ⟨h.at_.keep (hb.block _ h.lt), h.lt, h.tab.below hb, h.tp.below hb, h.bts.under (hb.mono (Nat.le_of_lt h.lt)), h.bel.trans (hb.mono (Nat.le_of_lt h.lt)), Nat.le_trans h.size hb.size⟩
theorem BIn.below {K : Nat} {w0 : World} {m0 : Me} {a0 : Option Addr} {cap0 : Nat} {a1 : Option Addr} {cap1 : Nat} {l1 : List It} {a2 : Option Addr} {b2 : List UInt8} {w w' : World} (h : BIn K w0 m0 a0 cap0 a1 cap1 l1 a2 b2 w) (hb : Below w.heap.size w w') : BIn K w0 m0 a0 cap0 a1 cap1 l1 a2 b2 w' := h.under (hb.mono h.size)

/-- two joins that share nothing, all from K on; the frames below B. -/
structure Two6 (B K : Nat) (gj gk : Nat) (Jj Jk : JS) (b o : Nat) (fs : List Fr) (w : World) (bj bk : List Nat) (maj : Option Addr) (mcj : Nat) (pvj bvj : Value) (mak : Option Addr) (mck : Nat) (pvk bvk : Value) : Prop where
  j : JAt w gj 9 Jj bj maj mcj pvj bvj
  k : JAt w gk 9 Jk bk mak mck pvk bvk
  hj : ∀ x ∈ bj, K ≤ x
  hk : ∀ x ∈ bk, K ≤ x
  off : ∀ x ∈ bj, x ∉ bk
  hB : B ≤ K
  fr : FrsB B w b o fs
theorem Two6.addJ {B K gj gk : Nat} {Jj Jk : JS} {b o : Nat} {fs : List Fr} {w : World} {bj bk : List Nat} {maj : Option Addr} {mcj : Nat} {pvj bvj : Value} {mak : Option Addr} {mck : Nat} {pvk bvk : Value} (h : Two6 B K gj gk Jj Jk b o fs w bj bk maj mcj pvj bvj mak mck pvk bvk) (hKw : K ≤ w.heap.size)
    {J' : JS} {w' : World} {bs' : List Nat} {ma' : Option Addr} {mc' : Nat} {pv' bv' : Value} (ha : Added w gj 9 bj J' w' bs' ma' mc' pv' bv') : Two6 B K gj gk J' Jk b o fs w' bs' bk ma' mc' pv' bv' mak mck pvk bvk ∧ Below K w w' := by
  have hb : Below K w w' := ha.kept.below hKw h.hj
  refine ⟨⟨ha.at_, h.k.keep (fun x hx => ha.kept.block x (h.k.bnd x hx) (fun hx2 => h.off x hx2 hx)) ha.kept.size, fun x hx => ?_, h.hk, fun x hx hx2 => ?_, h.hB, h.fr.under (hb.mono h.hB)⟩, hb⟩
  · rcases ha.new x hx with h1 | h1
    · exact h.hj x h1
    · omega
  · rcases ha.new x hx with h1 | h1
    · exact h.off x h1 hx2
    · have := h.k.bnd x hx2; omega
theorem Two6.addK {B K gj gk : Nat} {Jj Jk : JS} {b o : Nat} {fs : List Fr} {w : World} {bj bk : List Nat} {maj : Option Addr} {mcj : Nat} {pvj bvj : Value} {mak : Option Addr} {mck : Nat} {pvk bvk : Value} (h : Two6 B K gj gk Jj Jk b o fs w bj bk maj mcj pvj bvj mak mck pvk bvk) (hKw : K ≤ w.heap.size)
    {J' : JS} {w' : World} {bs' : List Nat} {ma' : Option Addr} {mc' : Nat} {pv' bv' : Value} (ha : Added w gk 9 bk J' w' bs' ma' mc' pv' bv') : Two6 B K gj gk Jj J' b o fs w' bj bs' maj mcj pvj bvj ma' mc' pv' bv' ∧ Below K w w' := by
  have hb : Below K w w' := ha.kept.below hKw h.hk
  refine ⟨⟨h.j.keep (fun x hx => ha.kept.block x (h.j.bnd x hx) (fun hx2 => h.off x hx hx2)) ha.kept.size, ha.at_, h.hj, fun x hx => ?_, fun x hx hx2 => ?_, h.hB, h.fr.under (hb.mono h.hB)⟩, hb⟩
  · rcases ha.new x hx with h1 | h1
    · exact h.hk x h1
    · omega
  · rcases ha.new x hx2 with h1 | h1
    · exact h.off x hx h1
    · have := h.j.bnd x hx; omega

/-- Cut, of anything: refused, or a message. -/
theorem cut_two {m : Me} {l : List It} {b : List UInt8} {q : Nat} {w : World} {e : Ending} {w' : World} (wf : m.Wf) (hf : Fits l) (hl : b.length ≤ 600) (h : CutR 9 m l b q w e w') : Below w.heap.size w w' ∧ ((∃ c : Int, e = .returned (.tuple #[.slice none 0 0, .int .i64 c]) ∧ (c != 0) = true) ∨
    (Msg m l b q ∧ ∃ bb o cap, e = .returned (.tuple #[.slice (some ⟨bb, o, none⟩) (cutF 9 m l b q).length cap, .int .i64 0]) ∧ FrsB w'.heap.size w' bb o (cutF 9 m l b q))) := by
  obtain ⟨hb, h⟩ := h
  refine ⟨hb, ?_⟩
  rcases h with ⟨h, _⟩ | ⟨h, _⟩ | ⟨hc, hm, h3, a, cap, he, hfr⟩
  · exact .inl ⟨1, h, rfl⟩
  · exact .inl ⟨502, h, rfl⟩
  · rw [Int.toNat_natCast] at he hfr
    obtain ⟨bb, o, rfl, hfb⟩ := hfr.toB (by simp [cutF])
    obtain ⟨hg, ha, _⟩ := has_good hc.1 hc.2.1 wf
    exact .inr ⟨⟨hg, hc.2.1, ha, hm, hf, h3, by have := hc.2.2.2.1.1; omega, hl⟩, bb, o, cap, he, hfb⟩

end Go.Proofs.Ytadgdglinnelhaa

namespace Go.Proofs.Ytadgdglinnelhaa
open Go.RowKit
set_option linter.unusedVariables false

theorem BIn.up {K K' : Nat} {w0 : World} {m0 : Me} {a0 : Option Addr} {cap0 : Nat} {a1 : Option Addr} {cap1 : Nat} {l1 : List It} {a2 : Option Addr} {b2 : List UInt8} {w : World} (h : BIn K w0 m0 a0 cap0 a1 cap1 l1 a2 b2 w) (hK : K ≤ K') (hw : K' ≤ w.heap.size) : BIn K' w0 m0 a0 cap0 a1 cap1 l1 a2 b2 w :=
  ⟨h.at_, Nat.lt_of_lt_of_le h.lt hK, h.tab.mono hK, h.tp.mono hK, h.bts, h.bel, hw⟩

theorem cutF_chan {m : Me} {l : List It} {b : List UInt8} {q i : Nat} (h : i < (cutF 9 m l b q).length) : ∃ k d, (cutF 9 m l b q)[i]? = some ⟨k, 9, d⟩ := by
  match i, h with
  | 0, _ => exact ⟨_, _, rfl⟩
  | 1, _ => exact ⟨_, _, rfl⟩
  | n + 2, h =>
    rw [cutF_length] at h
    exact ⟨_, _, cutF_at (by omega)⟩

def backRel (B K gj gk : Nat) (b o : Nat) (w0 : World) (m0 : Me) (a0 : Option Addr) (cap0 : Nat) (a1 : Option Addr) (cap1 : Nat) (l1 : List It) (a2 : Option Addr) (b2 : List UInt8) (q oo : Nat) (n : Nat) (v16 v17 : Value) (wr : World) : Prop :=
  ∃ i : Nat, i ≤ (cutF 9 m0 l1 b2 q).length ∧ n = (cutF 9 m0 l1 b2 q).length - i ∧ v16 = .bool false ∧ v17 = .int .i64 i ∧ BIn K w0 m0 a0 cap0 a1 cap1 l1 a2 b2 wr ∧
    ∃ Jk bj bk maj mcj pvj bvj mak mck pvk bvk, Two6 B K gj gk (jS m0 (putT l1) b2 q i) Jk b o (cutF 9 m0 l1 b2 q) wr bj bk maj mcj pvj bvj mak mck pvk bvk ∧ KOk m0 (putT l1) b2 q oo i Jk

set_option maxRecDepth 100000 in
set_option maxHeartbeats 16000000 in
theorem backC_any (m0 : Me) (a0 : Option Addr) (cap0 : Nat) (a1 : Option Addr) (cap1 : Nat) (l1 : List It) (a2 : Option Addr) (len2 cap2 : Nat) (z2 : List Int) (p3 p4 : Int) (w : World) (w0 : Tb w a0 cap0 m0.args ∧ m0.Wf) (w1 : Tb w a1 cap1 l1) (w2 : IsRow .u8 w a2 len2 cap2 z2) (w3 : (Lit.int .i64 p3).wf = true) (w4 : (Lit.int .i64 p4).wf = true) :
    Calls Try.prog 4 #[.agg (meC m0 a0 cap0), .slice a1 l1.length cap1, .slice a2 len2 cap2, .int .i64 p3, .int .i64 p4] w fun e w' => e = .returned (.bool true) ∧ Below w.heap.size w w' := by
  obtain ⟨b2, rfl, hbi⟩ := bytes_of_row w2
  obtain ⟨ht, wf⟩ := w0
  have hfit : Fits l1 := w1.fits
  obtain ⟨ax, cx, hbe, hlc, hcm, hat⟩ := hbi
  obtain ⟨rfl, -, rfl⟩ := Value.slice.inj hbe
  obtain ⟨y, hy⟩ : ∃ y, IntKind.u64.wrap p3 = y := ⟨_, rfl⟩
  have hy0 : 0 ≤ y := by rw [← hy, IntKind.wrap_u64]; omega
  obtain ⟨r, hr, hr2⟩ : ∃ r : Nat, y.tmod 100 = (r : Int) ∧ r ≤ 99 := by
    rw [Int.tmod_eq_emod_of_nonneg hy0]
    exact ⟨(y % 100).toNat, by omega, by omega⟩
  obtain ⟨q, hq⟩ : ∃ q : Nat, q = 8 + r := ⟨_, rfl⟩
  have hrw : IntKind.i64.wrap (r : Int) = (r : Int) := IntWalk.i64_in _ (by omega)
  have hqw : IntKind.i64.wrap (8 + (r : Int)) = (q : Int) := by rw [IntWalk.i64_in _ (by omega)]; omega
  obtain ⟨x, hx⟩ : ∃ x, IntKind.u64.wrap p4 = x := ⟨_, rfl⟩
  have hx0 : 0 ≤ x := by rw [← hx, IntKind.wrap_u64]; omega
  clear w2 w3 w4 hbe
  have hb0 : Below w.heap.size w (w.alloc (.cells (meC m0 a0 cap0) 25)) := (Below.refl _ _).alloc (Nat.le_refl _) _
  have hin : BIn (w.heap.size + 1) w m0 a0 cap0 a1 cap1 l1 a2 b2 (w.alloc (.cells (meC m0 a0 cap0) 25)) :=
    ⟨heap_alloc_new w _, Nat.lt_succ_self _, (ht.up.below hb0).mono (Nat.le_succ _), (w1.up.below hb0).mono (Nat.le_succ _), hat.below hb0, hb0, by simp⟩
  have WF := Lib.hid wf
  have HFIT := Lib.hid hfit
  have HQ := Lib.hid hq
  have HLC := Lib.hid (And.intro hlc hcm)
  have HI := Lib.hid hin
  clear ht w1 wf hfit hb0 hq hlc hcm hat
  obtain ⟨⟨c0, c1, c2, c3, c4, c5⟩, c6, c7, c8, c9, c10, c11⟩ := hin.at_.cells
  clear hin
  obtain ⟨mc, hmc⟩ : ∃ c, c = meC m0 a0 cap0 := ⟨_, rfl⟩
  rw [← hmc] at HI c0 c1 c2 c3 c4 c5 c6 c7 c8 c9 c10 c11 ⊢
  clear hmc
  go_enter Try.func4, Try.ntmps4
  go_wp2_with fail
  generalize w.alloc (.cells mc 25) = w1 at *
  refine (fewM_any (m := m0) (a := a0) (cap := cap0) HI.out.tab.tb WF.out).mono ?_
  rintro e w2 ⟨rf, rfl, hb, hf⟩
  have HI := Lib.hid (HI.out.below hb)
  clear hb hf c0 c1 c2 c3 c4 c5 c6 c7 c8 c9 c10 c11
  cases rf
  · go_wp2_with fail
    refine (told_any _).mono ?_
    rintro e w3 ⟨rfl, hb⟩
    have HI := Lib.hid (HI.out.below hb)
    clear hb
    go_wp2_with fail
    go_ret
    exact ⟨rfl, HI.out.bel⟩
  go_wp2_with fail
  refine (few_any w2 HI.out.tp.tb).mono ?_
  rintro e w2' ⟨rf, rfl, rfl, hf⟩
  clear hf
  cases rf
  · go_wp2_with fail
    refine (told_any _).mono ?_
    rintro e w3 ⟨rfl, hb⟩
    have HI := Lib.hid (HI.out.below hb)
    clear hb
    go_wp2_with fail
    go_ret
    exact ⟨rfl, HI.out.bel⟩
  by_cases h600 : (600 : Int) < (b2.length : Int)
  · go_wp2_with fail
    refine (told_any _).mono ?_
    rintro e w3 ⟨rfl, hb⟩
    have HI := Lib.hid (HI.out.below hb)
    clear hb
    go_wp2_with fail
    go_ret
    exact ⟨rfl, HI.out.bel⟩
  obtain ⟨⟨c0, c1, c2, c3, c4, c5⟩, c6, c7, c8, c9, c10, c11⟩ := HI.out.at_.cells
  have H6 := Lib.hid (show b2.length ≤ 600 by omega)
  go_wp2_with fail
  refine (cut_any (m := m0) (a := a0) (cap := cap0) HI.out.tab.tb WF.out HI.out.tp.tb 9 a2 cap2 b2 HLC.out.1 HLC.out.2 (HI.out.bts.mono HI.out.bel.size) q).mono ?_
  intro e w3 h
  obtain ⟨hb3, h⟩ := cut_two WF.out HFIT.out H6.out h
  have hw2 := HI.out.size
  have HI := Lib.hid (HI.out.below hb3)
  have hw3 := hb3.size
  clear hb3 c0 c1 c2 c3 c4 c5 c6 c7 c8 c9 c10 c11
  rcases h with ⟨ce, rfl, hce⟩ | ⟨hmsg, bb, o, cap, rfl, hfr⟩
  · go_wp2_with fail
    refine (told_any _).mono ?_
    rintro e w4 ⟨rfl, hb⟩
    have HI := Lib.hid (HI.out.below hb)
    clear hb
    go_wp2_with fail
    go_ret
    exact ⟨by first | rfl | (simp [*]; done), HI.out.bel⟩
  have HMSG := Lib.hid hmsg
  have hN : (cutF 9 m0 l1 b2 q).length = 2 + (b2.length + q - 1) / q := cutF_length ..
  obtain ⟨N, hNN⟩ : ∃ N, N = (cutF 9 m0 l1 b2 q).length := ⟨_, rfl⟩
  rw [← hNN]
  have hN2 : 2 ≤ N := by rw [hNN, hN]; generalize (b2.length + q - 1) / q = c; omega
  have hN9 : N ≤ 700 := by
    have h1 := hmsg.q8
    have h2 := hmsg.len
    have : (b2.length + q - 1) / q < 601 := (Nat.div_lt_iff_lt_mul (by omega)).2 (by omega)
    rw [hNN, hN]; omega
  have HNN := Lib.hid (And.intro hNN hN)
  have HFR := Lib.hid hfr
  have hNi : ¬ (N : Int) < 2 := by omega
  clear hmsg hNN hN hfr
  go_wp2_with fail
  refine (new_any 9 w3).mono ?_
  rintro e w4 ⟨rfl, hj4, hb4, hz4⟩
  have HI := Lib.hid (HI.out.below hb4)
  have HFR := Lib.hid (HFR.out.under hb4)
  have HJ4 := Lib.hid hj4
  have HZ4 := Lib.hid hz4
  clear hj4 hb4 hz4
  go_wp2_with fail
  refine (new_any 9 w4).mono ?_
  rintro e w5 ⟨rfl, hj5, hb5, hz5⟩
  have hz4 := HZ4.out
  have hi5 := HI.out.below hb5
  have hi5 := hi5.up (K' := w3.heap.size) (by have := HI.out.size; omega) (by omega)
  have h26 : Two6 w3.heap.size w3.heap.size w3.heap.size w4.heap.size (jS m0 (putT l1) b2 q 0) JS.none bb o (cutF 9 m0 l1 b2 q) w5 [w3.heap.size] [w4.heap.size] none 0 (.slice none 0 0) (.slice none 0 0) none 0 (.slice none 0 0) (.slice none 0 0) :=
    ⟨HJ4.out.below hb5, hj5, by simp, by simp; omega, by simp; omega, Nat.le_refl _, HFR.out.under (hb5.mono (by omega))⟩
  have HI := Lib.hid hi5
  have H26 := Lib.hid h26
  clear hj5 hb5 hi5 h26 hz4 hz5
  obtain ⟨oo, hoo, hooN⟩ : ∃ oo : Nat, x.tmod (N : Int) = (oo : Int) ∧ oo < N := by
    rw [Int.tmod_eq_emod_of_nonneg hx0]
    have h1 := Int.emod_nonneg x (b := (N : Int)) (by omega)
    have h2 := Int.emod_lt_of_pos x (b := (N : Int)) (by omega)
    exact ⟨(x % (N : Int)).toNat, by omega, by omega⟩
  have hNw : IntKind.u64.wrap (N : Int) = (N : Int) := by rw [IntKind.wrap_u64]; omega
  have hN0 : ¬ (N : Int) = 0 := by omega
  have how : IntKind.i64.wrap (oo : Int) = (oo : Int) := IntWalk.i64_in _ (by omega)
  go_wp2_with fail
  go_loopg [16, 17] N (backRel w3.heap.size w3.heap.size w3.heap.size w4.heap.size bb o w m0 a0 cap0 a1 cap1 l1 a2 b2 q oo)
  case atStart => exact ⟨0, Nat.zero_le _, by rw [HNN.out.1]; rfl, rfl, rfl, HI.out, _, _, _, _, _, _, _, _, _, _, _, H26.out, ⟨fun _ => rfl, fun _ => ⟨fun _ => rfl, fun h => by omega, fun h => by omega⟩, fun h => ⟨fun _ => rfl, fun h2 => by omega⟩⟩⟩
  case round =>
    obtain ⟨i, hi, hn, rfl, rfl, hin, Jk, bj, bk, maj, mcj, pvj, bvj, mak, mck, pvk, bvk, h2, hk⟩ := hrel
    rw [← HNN.out.1] at hi hn
    have HI := Lib.hid hin
    have H2 := Lib.hid h2
    have HK := Lib.hid hk
    clear hin h2 hk H26
    by_cases hlt : i < N
    · obtain ⟨k, d, hf⟩ := cutF_chan (m := m0) (l := l1) (b := b2) (q := q) (i := i) (by rw [← HNN.out.1]; exact hlt)
      obtain ⟨da, dc, p0, p1, p2, p3, p4, p5⟩ := H2.out.fr.2 i k 9 d hf
      have hadd := addJ (B := w3.heap.size) HMSG.out H2.out.j k d hf da d.length dc rfl p3 p4 HI.out.size H2.out.hj p5
      rw [← HNN.out.1] at hadd
      obtain ⟨n1, hn1⟩ : ∃ n, n = d.length := ⟨_, rfl⟩
      obtain ⟨N1, hN1⟩ : ∃ n, n = N - 1 := ⟨_, rfl⟩
      obtain ⟨p, hp⟩ : ∃ p, p = decide (i + 1 = N) := ⟨_, rfl⟩
      rw [← hn1, ← hp] at hadd
      rw [← hn1] at p2
      have HADD := Lib.hid hadd
      have h0i : (0 : Int) ≤ (i : Int) := by omega
      have hiN : (i : Int) < (N : Int) := by omega
      have hw1 : IntKind.i64.wrap ((N : Int) - 1) = (N1 : Int) := by rw [IntWalk.i64_in _ (by omega)]; omega
      have hpe : ((i : Int) == (N1 : Int)) = p := by
        rw [hp]
        by_cases h : i + 1 = N
        · rw [decide_eq_true h]; simp; omega
        · rw [decide_eq_false h, beq_eq_false_iff_ne]; omega
      have hsi : IntKind.i64.wrap ((i : Int) + 1) = ((i + 1 : Nat) : Int) := by rw [IntWalk.i64_in _ (by omega)]; omega
      have HF := Lib.hid hf
      have HN1 := Lib.hid (And.intro hn1 hN1)
      have HP := Lib.hid hp
      have HLT := Lib.hid (And.intro hlt hn)
      clear p3 p4 p5 hadd hf hn1 hN1 hp hi hn hlt
      go_wp2_with fail
      refine HADD.out.mono ?_
      rintro e w6 ⟨bj6, maj6, mcj6, pvj6, bvj6, rfl, had⟩
      obtain ⟨h26, hb6⟩ := H2.out.addJ HI.out.size had
      have HI6 := Lib.hid (HI.out.under hb6)
      have H26 := Lib.hid h26
      clear p0 p1 p2 had h26 hb6 HADD
      by_cases hio : i = oo
      · subst hio
        have hne : ((i : Int) != (i : Int)) = false := by simp
        go_wp2_with fail
        go_roundg (N - (i + 1))
        case measure => have h1 := HLT.out.1; have h2 := HLT.out.2; omega
        case rel =>
          have h1 := HLT.out.1
          exact ⟨i + 1, by rw [← HNN.out.1]; omega, by rw [← HNN.out.1], rfl, by simp, HI6.out, _, _, _, _, _, _, _, _, _, _, _, H26.out, HK.out.skip (by rw [← HNN.out.2, ← HNN.out.1]; omega) HMSG.out.q8⟩
      · have hne : ((i : Int) != (oo : Int)) = true := by simp; omega
        obtain ⟨da6, dc6, p0, p1, p2, p3, p4, p5⟩ := H26.out.fr.2 i k 9 d HF.out
        have hadk := addK (B := w3.heap.size) HMSG.out H26.out.k HK.out hio (by rw [← HNN.out.2, ← HNN.out.1]; exact hooN) k d HF.out da6 n1 dc6 HN1.out.1 (by rw [HN1.out.1]; exact p3) p4 HI6.out.size H26.out.hk p5
        rw [← HN1.out.1] at p2
        have HADK := Lib.hid hadk
        clear p3 p4 p5 hadk
        go_wp2_with fail
        refine HADK.out.mono ?_
        rintro e w7 ⟨c7, Jk7, bk7, mak7, mck7, pvk7, bvk7, rfl, hk7, had⟩
        obtain ⟨h27, hb7⟩ := H26.out.addK HI6.out.size had
        have HI7 := Lib.hid (HI6.out.under hb7)
        have H27 := Lib.hid h27
        have HK7 := Lib.hid hk7
        clear p0 p1 p2 had h27 hb7 HADK hk7
        go_wp2_with fail
        go_roundg (N - (i + 1))
        case measure => have h1 := HLT.out.1; have h2 := HLT.out.2; omega
        case rel =>
          have h1 := HLT.out.1
          exact ⟨i + 1, by rw [← HNN.out.1]; omega, by rw [← HNN.out.1], rfl, by simp, HI7.out, _, _, _, _, _, _, _, _, _, _, _, H27.out, HK7.out⟩
    · obtain ⟨c, hc⟩ : ∃ c, c = (b2.length + q - 1) / q := ⟨_, rfl⟩
      have hNc : N = 2 + c := by rw [HNN.out.1, HNN.out.2, hc]
      obtain rfl : i = c + 2 := by omega
      have hend : b2.length ≤ c * q := by
        have := pcs_all (n := b2.length) (q := q) (by have := HMSG.out.q8; omega)
        rwa [← hc] at this
      have hjj : JAt wr w3.heap.size 9 ⟨3, m0, putT l1, b2, 0⟩ bj maj mcj pvj bvj := by
        have h := H2.out.j
        have e : jS m0 (putT l1) b2 q (c + 2) = ⟨3, m0, putT l1, b2, 0⟩ := by
          show JS.mk _ _ _ _ _ = _
          rw [if_pos hend, List.take_of_length_le hend, Nat.sub_eq_zero_of_le hend]
        rwa [e] at h
      have HJJ := Lib.hid hjj
      have hiN : ¬ ((c + 2 : Nat) : Int) < (N : Int) := by omega
      clear hjj hend hNc hc hn hi
      go_wp2_with fail
      refine (done_any HJJ.out rfl (l := l1) rfl HMSG.out.may HMSG.out.fits HMSG.out.few (by have := H6.out; show b2.length ≤ 100000; omega)).mono ?_
      rintro e w6 ⟨ta, tk, tb, v6, he, hts, hto, hv6, hb6⟩
      replace he : e = .returned (.tuple #[.agg #[.int .i64 m0.id, .string m0.name, .string m0.typ, .string m0.ex, .string m0.key, .string m0.text, .int .i64 m0.code, .int .i64 m0.count, .int .u64 m0.tag, .bool m0.flag, .bool m0.back, .slice maj m0.args.length mcj], .slice ta l1.length tk, v6]) := he
      subst he
      obtain ⟨N6, a6, c6, hN6, rfl, hl6, hm6⟩ := hv6.form2
      replace hN6 : N6 = b2.length := hN6
      have hat6 : BytesAt w6.heap.size w6 a6 b2 := by
        obtain ⟨a', c', he, _, _, h⟩ := hv6.bytes
        obtain ⟨rfl, -, rfl⟩ := Value.slice.inj he
        exact h
      have htb : Tb w6 ta tk l1 := ⟨tb, hts⟩
      have hm7 : MeAt (w6.alloc (.cells #[.int .i64 m0.id, .string m0.name, .string m0.typ, .string m0.ex, .string m0.key, .string m0.text, .int .i64 m0.code, .int .i64 m0.count, .int .u64 m0.tag, .bool m0.flag, .bool m0.back, .slice maj m0.args.length mcj] 25)) w6.heap.size m0 maj mcj := heap_alloc_new w6 _
      have hb7 : Below w6.heap.size w6 (w6.alloc (.cells #[.int .i64 m0.id, .string m0.name, .string m0.typ, .string m0.ex, .string m0.key, .string m0.text, .int .i64 m0.code, .int .i64 m0.count, .int .u64 m0.tag, .bool m0.flag, .bool m0.back, .slice maj m0.args.length mcj] 25)) := (Below.refl _ _).alloc (Nat.le_refl _) _
      have HI7 := Lib.hid ((HI.out.below hb6).below hb7)
      have HM7 := Lib.hid hm7
      have HT7 := Lib.hid (htb.below hb7)
      have HA7 := Lib.hid (hat6.below hb7)
      have HN6 := Lib.hid hN6
      have HMC := Lib.hid HJJ.out.cap
      clear hts hto hv6 hb6 hN6 hl6 hm6 hat6 htb hm7 hb7
      go_wp2_with fail
      generalize w6.alloc (.cells #[.int .i64 m0.id, .string m0.name, .string m0.typ, .string m0.ex, .string m0.key, .string m0.text, .int .i64 m0.code, .int .i64 m0.count, .int .u64 m0.tag, .bool m0.flag, .bool m0.back, .slice maj m0.args.length mcj] 25) = w7 at *
      refine (told_any _).mono ?_
      rintro e w8 ⟨rfl, hb8⟩
      have HI8 := Lib.hid (HI7.out.below hb8)
      have hm8 := HM7.out.keep (hb8.block _ HM7.out.lt)
      have HT8 := Lib.hid (HT7.out.below hb8)
      have HA8 := Lib.hid (HA7.out.below hb8)
      obtain ⟨⟨c0, c1, c2, c3, c4, c5⟩, c6', c7, c8, c9, c10, c11⟩ := HI8.out.at_.cells
      obtain ⟨⟨d0, d1, d2, d3, d4, d5⟩, d6, d7, d8, d9, d10, d11⟩ := hm8.cells
      clear hb8 hm8
      go_wp2_with fail
      refine (rsamM_any (m := m0) (s := m0) (a := maj) (b := a0) (cap := mcj) (cap' := cap0) (fun r => r = true) (fun wz hz => ?_)).mono ?_
      · have h1 : Tb wz maj mcj m0.args := by rw [HMSG.out.args]; exact Tb.nil wz maj HMC.out
        refine (rsameT_any _ (Nat.le_refl _) wz h1 (HI8.out.tab.tb.below hz)).mono ?_
        rintro e w' ⟨r, hr, rfl, hb⟩
        exact ⟨r, rfl, hb, hr.2 rfl⟩
      rintro e w9 ⟨r, rfl, hb9, hr⟩
      obtain rfl : r = true := by
        rcases hr with ⟨_, h⟩ | ⟨h, _⟩
        · exact h
        · exact absurd (HeadEq.refl _) h
      have HI9 := Lib.hid (HI8.out.below hb9)
      have HT9 := Lib.hid (HT8.out.below hb9)
      have HA9 := Lib.hid (HA8.out.below hb9)
      clear hr hb9 c0 c1 c2 c3 c4 c5 c6' c7 c8 c9 c10 c11 d0 d1 d2 d3 d4 d5 d6 d7 d8 d9 d10 d11
      go_wp2_with fail
      refine (rsameT_any _ (Nat.le_refl _) w9 HT9.out HI9.out.tp.tb).mono ?_
      rintro e w10 ⟨r, hr, rfl, hb10⟩
      obtain rfl : r = true := hr.2 rfl
      have HI10 := Lib.hid (HI9.out.below hb10)
      have hv1 := conv_str c6 (HA9.out.below hb10)
      have hv2 := conv_str cap2 HI10.out.bts
      rw [← HN6.out] at hv1
      clear hr hb10
      go_wp2_with fail
      go_ret
      exact ⟨by first | rfl | (simp [*]; done), HI10.out.bel⟩

end Go.Proofs.Ytadgdglinnelhaa

namespace Go.Proofs.Ytadgdglinnelhaa
open Go.ChangeShapes Go.WideShapes Go.ChangeAt Go.RowKit Go.Deep
set_option linter.unusedVariables false

theorem cells_method : Try.prog.cellsOf 25 = 12 := by kernel_rfl
theorem cells_u64 : Try.prog.cellsOf 22 = 1 := by kernel_rfl
theorem cells_bool : Try.prog.cellsOf 4 = 1 := by kernel_rfl

section
variable {H : Type} {enc : TypeId × Value → H} {w : World} {base : Nat} {spare : Nat → Bool} {held : Bool}
theorem twelve {α : Type} {l : List α} (h : l.length = 12) : ∃ c0 c1 c2 c3 c4 c5 c6 c7 c8 c9 c10 c11, l = [c0, c1, c2, c3, c4, c5, c6, c7, c8, c9, c10, c11] := by
  match l, h with
  | [c0, c1, c2, c3, c4, c5, c6, c7, c8, c9, c10, c11], _ => exact ⟨c0, c1, c2, c3, c4, c5, c6, c7, c8, c9, c10, c11, rfl⟩
set_option maxRecDepth 100000 in
theorem me_of {n : Nat} {cs : List Value} {y : DataW H × List MemPlace} (hcs : cs.length = 12) (h : DataW.trod enc Try.prog w base spare held n 25 cs = some y) (hf : w.noneFrozen y.2) :
    ∃ (m : Me) (a : Option Addr) (cap : Nat), cs = (meC m a cap).toList ∧ Tb w a cap m.args ∧ m.Wf := by
  obtain ⟨c0, c1, c2, c3, c4, c5, c6, c7, c8, c9, c10, c11, rfl⟩ := twelve hcs
  obtain ⟨ys, m, hm, rfl, hl, hlen, hat⟩ := DataW.trod_struct Try.underlying25 h
  have t0 := hat 0 _ rfl
  have t1 := hat 1 _ rfl
  have t2 := hat 2 _ rfl
  have t3 := hat 3 _ rfl
  have t4 := hat 4 _ rfl
  have t5 := hat 5 _ rfl
  have t6 := hat 6 _ rfl
  have t7 := hat 7 _ rfl
  have t8 := hat 8 _ rfl
  have t9 := hat 9 _ rfl
  have t10 := hat 10 _ rfl
  have t11 := hat 11 _ rfl
  simp only [List.getElem_toArray, List.getElem_cons_zero, List.getElem_cons_succ, cells_int, cells_str, cells_u64, cells_bool, cells_items, List.drop_zero, List.drop_succ_cons, List.take_succ_cons, List.take_zero] at t0 t1 t2 t3 t4 t5 t6 t7 t8 t9 t10 t11
  simp only [List.size_toArray, List.length_cons, List.length_nil] at hlen
  match ys, hlen with
  | [y0, y1, y2, y3, y4, y5, y6, y7, y8, y9, y10, y11], _ =>
    obtain ⟨i0, e0, _, w0⟩ := DataW.trod_int Try.underlying3 t0
    obtain ⟨s1, e1, _, w1⟩ := DataW.trod_string Try.underlying9 t1
    obtain ⟨s2, e2, _, w2⟩ := DataW.trod_string Try.underlying9 t2
    obtain ⟨s3, e3, _, w3⟩ := DataW.trod_string Try.underlying9 t3
    obtain ⟨s4, e4, _, w4⟩ := DataW.trod_string Try.underlying9 t4
    obtain ⟨s5, e5, _, w5⟩ := DataW.trod_string Try.underlying9 t5
    obtain ⟨i6, e6, _, w6⟩ := DataW.trod_int Try.underlying3 t6
    obtain ⟨i7, e7, _, w7⟩ := DataW.trod_int Try.underlying3 t7
    obtain ⟨i8, e8, _, w8⟩ := DataW.trod_int Try.underlying22 t8
    obtain ⟨b9, e9, _⟩ := DataW.trod_bool Try.underlying4 t9
    obtain ⟨b10, e10, _⟩ := DataW.trod_bool Try.underlying4 t10
    obtain ⟨a, cap, l, e11, ht⟩ := tb_of _ _ _ t11 (fun b off hb => hf b off (by simp [hb]))
    obtain ⟨z1, z2⟩ := in_u64 w8
    obtain ⟨tag, rfl⟩ : ∃ tag : Nat, i8 = (tag : Int) := ⟨i8.toNat, by omega⟩
    simp only [List.cons.injEq, and_true] at e0 e1 e2 e3 e4 e5 e6 e7 e8 e9 e10
    have z3 : tag < 18446744073709551616 := by omega
    refine ⟨⟨i0, s1, s2, s3, s4, s5, i6, i7, tag, b9, b10, l⟩, a, cap, ?_, ht, in_i64 w0, w1, w2, w3, w4, w5, in_i64 w6, in_i64 w7, z3, ht.fits⟩
    rw [e0, e1, e2, e3, e4, e5, e6, e7, e8, e9, e10, e11]
    rfl

set_option maxRecDepth 100000 in
/-- an argument that is a call. -/
theorem me_arg {v : Value} {d : DataW H} {p : List MemPlace} (h : DataW.Trod enc Try.prog w base spare held 25 v d p) {r : Reach} {b0 : Nat} (hv : Value.okWide Try.prog w r b0 25 v) (hf : w.noneFrozen p) :
    ∃ (m : Me) (a : Option Addr) (cap : Nat), v = .agg (meC m a cap) ∧ Tb w a cap m.args ∧ m.Wf := by
  obtain ⟨cs, rfl, hsz⟩ := okWide_struct Try.underlying25 hv
  obtain ⟨n, h⟩ := h
  obtain ⟨l⟩ := cs
  rw [cells_method] at hsz
  obtain ⟨m, a, cap, he, h1, h2⟩ := me_of (by simpa using hsz) (by simpa [Value.cells] using h) hf
  exact ⟨m, a, cap, by rw [he], h1, h2⟩
end

end Go.Proofs.Ytadgdglinnelhaa
