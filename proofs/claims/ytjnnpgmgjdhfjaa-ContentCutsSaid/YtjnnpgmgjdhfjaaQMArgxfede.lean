/-
  ContentBack: what memory keeps while two joins are fed.
  ContentCuts, walked.
  How a call that came in is read.
-/
import Derived.Test.YtjnnpgmgjdhfjaaQBackDxacba
import Derived.Test.YtjnnpgmgjdhfjaaQRSamMxeada
import Derived.Test.YtjnnpgmgjdhfjaaQRSamexbbfd
import Derived.Test.YtjnnpgmgjdhfjaaQRCutxaffc
import Derived.Test.YtjnnpgmgjdhfjaaQCJoinDxedbc
import Derived.Deep.LoopGhost
import Derived.Test.YtjnnpgmgjdhfjaaQMPartsxffdf
import Derived.Deep.Slices
import Derived.Deep.Draws
namespace Go.Proofs.Ytjnnpgmgjdhfjaa
open Go.RowKit
set_option linter.unusedVariables false

/-- what came in, below K. -/
structure BIn (K : Nat) (w0 : World) (m0 : Me) (a0 : Option Addr) (cap0 : Nat) (a1 : Option Addr) (cap1 : Nat) (l1 : List It) (a2 : Option Addr) (b2 : List UInt8) (w : World) : Prop where
  at_ : MeAt w w0.heap.size m0 a0 cap0
  lt : w0.heap.size < K
  tab : TbU w K a0 cap0 m0.args
  tp : TbU w K a1 cap1 l1
  bts : BytesAt w0.heap.size w a2 b2
  bel : Below w0.heap.size w0 w
  size : K ≤ w.heap.size
theorem BIn.under {K : Nat} {w0 : World} {m0 : Me} {a0 : Option Addr} {cap0 : Nat} {a1 : Option Addr} {cap1 : Nat} {l1 : List It} {a2 : Option Addr} {b2 : List UInt8} {w w' : World} (h : BIn K w0 m0 a0 cap0 a1 cap1 l1 a2 b2 w) (hb : Below K w w') : BIn K w0 m0 a0 cap0 a1 cap1 l1 a2 b2 w' :=
  ⟨h.at_.keep (hb.block _ h.lt), h.lt, h.tab.below hb, h.tp.below hb, h.bts.under (hb.mono (Nat.le_of_lt h.lt)), h.bel.trans (hb.mono (Nat.le_of_lt h.lt)), Nat.le_trans h.size hb.size⟩
theorem BIn.below {K : Nat} {w0 : World} {m0 : Me} {a0 : Option Addr} {cap0 : Nat} {a1 : Option Addr} {cap1 : Nat} {l1 : List It} {a2 : Option Addr} {b2 : List UInt8} {w w' : World} (h : BIn K w0 m0 a0 cap0 a1 cap1 l1 a2 b2 w) (hb : Below w.heap.size w w') : BIn K w0 m0 a0 cap0 a1 cap1 l1 a2 b2 w' := h.under (hb.mono h.size)

/-- two joins that share nothing, all from K on; the frames below B. -/
structure Two6 (B K : Nat) (gj gk : Nat) (Jj Jk : JS) (b o : Nat) (fs : List Fr) (w : World) (bj bk : List Nat) (maj : Option Addr) (mcj : Nat) (pvj bvj : Value) (mak : Option Addr) (mck : Nat) (pvk bvk : Value) : Prop where
  j : JAt w gj 9 Jj bj maj mcj pvj bvj
  k : JAt w gk 9 Jk bk mak mck pvk bvk
  hj : ∀ x ∈ bj, K ≤ x
  hk : ∀ x ∈ bk, K ≤ x
  off : ∀ x ∈ bj, x ∉ bk
  hB : B ≤ K
  fr : FrsB B w b o fs
theorem Two6.addJ {B K gj gk : Nat} {Jj Jk : JS} {b o : Nat} {fs : List Fr} {w : World} {bj bk : List Nat} {maj : Option Addr} {mcj : Nat} {pvj bvj : Value} {mak : Option Addr} {mck : Nat} {pvk bvk : Value} (h : Two6 B K gj gk Jj Jk b o fs w bj bk maj mcj pvj bvj mak mck pvk bvk) (hKw : K ≤ w.heap.size)
    {J' : JS} {w' : World} {bs' : List Nat} {ma' : Option Addr} {mc' : Nat} {pv' bv' : Value} (ha : Added w gj 9 bj J' w' bs' ma' mc' pv' bv') : Two6 B K gj gk J' Jk b o fs w' bs' bk ma' mc' pv' bv' mak mck pvk bvk ∧ Below K w w' := by
  have hb : Below K w w' := ha.kept.below hKw h.hj
  refine ⟨⟨ha.at_, h.k.keep (fun x hx => ha.kept.block x (h.k.bnd x hx) (fun hx2 => h.off x hx2 hx)) ha.kept.size, fun x hx => ?_, h.hk, fun x hx hx2 => ?_, h.hB, h.fr.under (hb.mono h.hB)⟩, hb⟩
  · rcases ha.new x hx with h1 | h1
    · exact h.hj x h1
    · omega
  · rcases ha.new x hx with h1 | h1
    · exact h.off x h1 hx2
    · have := h.k.bnd x hx2; omega
theorem Two6.addK {B K gj gk : Nat} {Jj Jk : JS} {b o : Nat} {fs : List Fr} {w : World} {bj bk : List Nat} {maj : Option Addr} {mcj : Nat} {pvj bvj : Value} {mak : Option Addr} {mck : Nat} {pvk bvk : Value} (h : Two6 B K gj gk Jj Jk b o fs w bj bk maj mcj pvj bvj mak mck pvk bvk) (hKw : K ≤ w.heap.size)
    {J' : JS} {w' : World} {bs' : List Nat} {ma' : Option Addr} {mc' : Nat} {pv' bv' : Value} (ha : Added w gk 9 bk J' w' bs' ma' mc' pv' bv') : Two6 B K gj gk Jj J' b o fs w' bj bs' maj mcj pvj bvj ma' mc' pv' bv' ∧ Below K w w' := by
  have hb : Below K w w' := ha.kept.below hKw h.hk
  refine ⟨⟨h.j.keep (fun x hx => ha.kept.block x (h.j.bnd x hx) (fun hx2 => h.off x hx hx2)) ha.kept.size, ha.at_, h.hj, fun x hx => ?_, fun x hx hx2 => ?_, h.hB, h.fr.under (hb.mono h.hB)⟩, hb⟩
  · rcases ha.new x hx with h1 | h1
    · exact h.hk x h1
    · omega
  · rcases ha.new x hx2 with h1 | h1
    · exact h.off x hx h1
    · have := h.j.bnd x hx; omega

/-- Cut, of anything: refused, or a message. -/
theorem cut_two {m : Me} {l : List It} {b : List UInt8} {q : Nat} {w : World} {e : Ending} {w' : World} (wf : m.Wf) (hf : Fits l) (hl : b.length ≤ 600) (h : CutR 9 m l b q w e w') : Below w.heap.size w w' ∧ ((∃ c : Int, e = .returned (.tuple #[.slice none 0 0, .int .i64 c]) ∧ (c != 0) = true) ∨
    (Msg m l b q ∧ ∃ bb o cap, e = .returned (.tuple #[.slice (some ⟨bb, o, none⟩) (cutF 9 m l b q).length cap, .int .i64 0]) ∧ FrsB w'.heap.size w' bb o (cutF 9 m l b q))) := by
  obtain ⟨hb, h⟩ := h
  refine ⟨hb, ?_⟩
  rcases h with ⟨h, _⟩ | ⟨h, _⟩ | ⟨hc, hm, h3, a, cap, he, hfr⟩
  · exact .inl ⟨1, h, rfl⟩
  · exact .inl ⟨502, h, rfl⟩
  · rw [Int.toNat_natCast] at he hfr
    obtain ⟨bb, o, rfl, hfb⟩ := hfr.toB (by simp [cutF])
    obtain ⟨hg, ha, _⟩ := has_good hc.1 hc.2.1 wf
    exact .inr ⟨⟨hg, hc.2.1, ha, hm, hf, h3, by have := hc.2.2.2.1.1; omega, hl⟩, bb, o, cap, he, hfb⟩

end Go.Proofs.Ytjnnpgmgjdhfjaa

namespace Go.Proofs.Ytjnnpgmgjdhfjaa
open Go.RowKit
set_option linter.unusedVariables false

theorem frsNil (w : World) : FrsAt w none 0 [] := ⟨by simp, by simp [maxLen], fun i h => by simp at h⟩

/-- both answers are one. -/
theorem cut_both {ch : Int} {m : Me} {l : List It} {b : List UInt8} {q : Int} {w1 w2 : World} {e1 e2 : Ending} {w1' w2' : World} (h1 : CutR ch m l b q w1 e1 w1') (h2 : CutR ch m l b q w2 e2 w2') :
    ∃ (L : List Fr) (c : Int) (x : Option Addr) (cx : Nat) (y : Option Addr) (cy : Nat), e1 = .returned (.tuple #[.slice x L.length cx, .int .i64 c]) ∧ e2 = .returned (.tuple #[.slice y L.length cy, .int .i64 c]) ∧ FrsAt w1' x cx L ∧ FrsAt w2' y cy L := by
  obtain ⟨-, h1⟩ := h1
  obtain ⟨-, h2⟩ := h2
  rcases h1 with ⟨h1, p1⟩ | ⟨h1, p1, p2, p3⟩ | ⟨p1, p2, p3, a, cap, he, hfr⟩
  · rcases h2 with ⟨h2, s1⟩ | ⟨h2, s1, s2, s3⟩ | ⟨s1, s2, s3, a', cap', he', hfr'⟩
    · exact ⟨[], 1, none, 0, none, 0, h1, h2, frsNil _, frsNil _⟩
    · rcases p1 with p1 | p1
      · exact (p1 s1).elim
      · exact (p1 s2).elim
    · rcases p1 with p1 | p1
      · exact (p1 s1).elim
      · exact (p1 s2).elim
  · rcases h2 with ⟨h2, s1⟩ | ⟨h2, s1, s2, s3⟩ | ⟨s1, s2, s3, a', cap', he', hfr'⟩
    · rcases s1 with s1 | s1
      · exact (s1 p1).elim
      · exact (s1 p2).elim
    · exact ⟨[], 502, none, 0, none, 0, h1, h2, frsNil _, frsNil _⟩
    · omega
  · rcases h2 with ⟨h2, s1⟩ | ⟨h2, s1, s2, s3⟩ | ⟨s1, s2, s3, a', cap', he', hfr'⟩
    · rcases s1 with s1 | s1
      · exact (s1 p1).elim
      · exact (s1 p2).elim
    · omega
    · exact ⟨_, 0, a, cap, a', cap', he, he', hfr, hfr'⟩

theorem cut_shape {ch : Int} {m : Me} {l : List It} {b : List UInt8} {q : Int} {w1 : World} {e1 : Ending} {w1' : World} (h1 : CutR ch m l b q w1 e1 w1') :
    ∃ (N : Nat) (c : Int) (x : Option Addr) (cx : Nat), e1 = .returned (.tuple #[.slice x N cx, .int .i64 c]) := by
  obtain ⟨-, h1⟩ := h1
  rcases h1 with ⟨h1, p1⟩ | ⟨h1, p1, p2, p3⟩ | ⟨p1, p2, p3, a, cap, he, hfr⟩
  · exact ⟨_, _, _, _, h1⟩
  · exact ⟨_, _, _, _, h1⟩
  · exact ⟨_, _, _, _, he⟩

def cutsRel (N : Nat) (w2 : World) (n : Nat) (v15 : Value) (wr : World) : Prop :=
  ∃ i : Nat, i ≤ N ∧ n = N - i ∧ v15 = .int .i64 i ∧ Below w2.heap.size w2 wr

set_option maxRecDepth 100000 in
set_option maxHeartbeats 16000000 in
theorem cutsC_any (p0 : Int) (m0 : Me) (a0 : Option Addr) (cap0 : Nat) (a1 : Option Addr) (cap1 : Nat) (l1 : List It) (a2 : Option Addr) (len2 cap2 : Nat) (z2 : List Int) (p4 : Int) (w : World) (wp : (Lit.int .i64 p0).wf = true) (w0 : Tb w a0 cap0 m0.args ∧ m0.Wf) (w1 : Tb w a1 cap1 l1) (w2 : IsRow .u8 w a2 len2 cap2 z2) (w4 : (Lit.int .i64 p4).wf = true) :
    Calls Try.prog 3 #[.int .i64 p0, .agg (meC m0 a0 cap0), .slice a1 l1.length cap1, .slice a2 len2 cap2, .int .i64 p4] w fun e w' => e = .returned (.bool true) ∧ Below w.heap.size w w' := by
  obtain ⟨b2, rfl, hbi⟩ := bytes_of_row w2
  obtain ⟨ht, wf⟩ := w0
  obtain ⟨ax, cx, hbe, hlc, hcm, hat⟩ := hbi
  obtain ⟨rfl, -, rfl⟩ := Value.slice.inj hbe
  clear w2 w4 wp hbe
  have hb0 : Below w.heap.size w (w.alloc (.cells (meC m0 a0 cap0) 25)) := (Below.refl _ _).alloc (Nat.le_refl _) _
  have hin : BIn (w.heap.size + 1) w m0 a0 cap0 a1 cap1 l1 a2 b2 (w.alloc (.cells (meC m0 a0 cap0) 25)) :=
    ⟨heap_alloc_new w _, Nat.lt_succ_self _, (ht.up.below hb0).mono (Nat.le_succ _), (w1.up.below hb0).mono (Nat.le_succ _), hat.below hb0, hb0, by simp⟩
  have WF := Lib.hid wf
  have HLC := Lib.hid (And.intro hlc hcm)
  have HI := Lib.hid hin
  clear ht w1 wf hb0 hlc hcm hat
  obtain ⟨⟨c0, c1, c2, c3, c4, c5⟩, c6, c7, c8, c9, c10, c11⟩ := hin.at_.cells
  clear hin
  obtain ⟨mc, hmc⟩ : ∃ c, c = meC m0 a0 cap0 := ⟨_, rfl⟩
  rw [← hmc] at HI c0 c1 c2 c3 c4 c5 c6 c7 c8 c9 c10 c11 ⊢
  clear hmc
  go_enter Try.func3, Try.ntmps3
  go_wp2_with fail
  generalize w.alloc (.cells mc 25) = w1 at *
  refine (fewM_any (m := m0) (a := a0) (cap := cap0) HI.out.tab.tb WF.out).mono ?_
  rintro e w2 ⟨rf, rfl, hb, hf⟩
  have HI := Lib.hid (HI.out.below hb)
  clear hb hf c0 c1 c2 c3 c4 c5 c6 c7 c8 c9 c10 c11
  cases rf
  · go_wp2_with fail
    refine (told_any _).mono ?_
    rintro e w3 ⟨rfl, hb⟩
    have HI := Lib.hid (HI.out.below hb)
    clear hb
    go_wp2_with fail
    go_ret
    exact ⟨rfl, HI.out.bel⟩
  go_wp2_with fail
  refine (few_any w2 HI.out.tp.tb).mono ?_
  rintro e w2' ⟨rf, rfl, rfl, hf⟩
  have HFEW := Lib.hid hf
  clear hf
  cases rf
  · go_wp2_with fail
    refine (told_any _).mono ?_
    rintro e w3 ⟨rfl, hb⟩
    have HI := Lib.hid (HI.out.below hb)
    clear hb
    go_wp2_with fail
    go_ret
    exact ⟨rfl, HI.out.bel⟩
  by_cases h600 : (600 : Int) < (b2.length : Int)
  · go_wp2_with fail
    refine (told_any _).mono ?_
    rintro e w3 ⟨rfl, hb⟩
    have HI := Lib.hid (HI.out.below hb)
    clear hb
    go_wp2_with fail
    go_ret
    exact ⟨rfl, HI.out.bel⟩
  obtain ⟨⟨c0, c1, c2, c3, c4, c5⟩, c6, c7, c8, c9, c10, c11⟩ := HI.out.at_.cells
  have H6 := Lib.hid (show b2.length ≤ 600 by omega)
  go_wp2_with fail
  refine (cut_any (m := m0) (a := a0) (cap := cap0) HI.out.tab.tb WF.out HI.out.tp.tb p0 a2 cap2 b2 HLC.out.1 HLC.out.2 (HI.out.bts.mono HI.out.bel.size) p4).mono ?_
  intro e w3 h
  obtain ⟨N, kc, x, cx, rfl⟩ := cut_shape h
  have HC1 := Lib.hid h
  have HI := Lib.hid (HI.out.below h.1)
  clear h c0 c1 c2 c3 c4 c5 c6 c7 c8 c9 c10 c11
  obtain ⟨⟨c0, c1, c2, c3, c4, c5⟩, c6, c7, c8, c9, c10, c11⟩ := HI.out.at_.cells
  have hv := conv_str cap2 HI.out.bts
  go_wp2_with fail
  refine (rcut_any (m := m0) (a := a0) (cap := cap0) HI.out.tab.tb WF.out HI.out.tp.tb (HFEW.out trivial) p0 b2 H6.out p4 (fun w' hb => ?_)).mono ?_
  · refine (rmayM_any (HI.out.tab.tb.below hb) WF.out).mono ?_
    rintro e w'' ⟨r, hr, rfl, hb⟩
    exact ⟨r, rfl, hb, fun _ => hr⟩
  intro e w4 h2
  obtain ⟨N2, kc2, y, cy, rfl⟩ := cut_shape h2
  obtain ⟨L, c, x', cx', y', cy', he1, he2, hf1, hf2⟩ := cut_both HC1.out h2
  have hx : (x = x' ∧ N = L.length ∧ cx = cx') ∧ kc = c := by simpa using he1
  have hy : (y = y' ∧ N2 = L.length ∧ cy = cy') ∧ kc2 = c := by simpa using he2
  obtain ⟨⟨rfl, hN, rfl⟩, rfl⟩ := hx
  obtain ⟨⟨rfl, hN2, rfl⟩, hk⟩ := hy
  obtain rfl : N2 = N := hN2.trans hN.symm
  subst hk
  have hNm : N2 ≤ 9223372036854775807 := by
    have h1 := hf1.len
    have h2 := hf1.max
    unfold maxLen at h2
    omega
  have HF1 := Lib.hid (hf1.below h2.1)
  have HF2 := Lib.hid hf2
  have HI := Lib.hid (HI.out.below h2.1)
  have HN := Lib.hid hN
  clear h2 he1 he2 hf1 hf2 hN hN2 HC1 hv c0 c1 c2 c3 c4 c5 c6 c7 c8 c9 c10 c11
  have hq1 : (kc2 != kc2) = false := by simp
  have hq2 : ((N2 : Int) != (N2 : Int)) = false := by simp
  go_wp2_with fail
  go_loopg [15] N2 (cutsRel N2 w4)
  case atStart => exact ⟨0, Nat.zero_le _, rfl, rfl, Below.refl _ _⟩
  case round =>
    obtain ⟨i, hi, hn, rfl, hb⟩ := hrel
    have HB := Lib.hid hb
    have HNI := Lib.hid hn
    by_cases hlt : i < N2
    · have hiL : i < L.length := by rw [← HN.out]; exact hlt
      obtain ⟨b1, o1, da1, dc1, rfl, -, q0, q1, q2, -, -, q5⟩ := (HF1.out.below hb).get i hiL
      obtain ⟨b3, o3, da3, dc3, rfl, -, s0, s1, s2, -, -, s5⟩ := (HF2.out.below hb).get i hiL
      obtain ⟨k, hk⟩ : ∃ k, k = L[i].kind := ⟨_, rfl⟩
      obtain ⟨ch, hch⟩ : ∃ k, k = L[i].chan := ⟨_, rfl⟩
      obtain ⟨d, hd⟩ : ∃ k, k = L[i].data := ⟨_, rfl⟩
      rw [← hk] at q0 s0
      rw [← hch] at q1 s1
      rw [← hd] at q2 s2 q5 s5
      have hdr : Below wr.heap.size wr wr.drew := (Below.refl _ _).drew
      have hsf := sameF_any k ch d da1 da3 dc1 dc3 wr.drew (q5.below hdr) (s5.below hdr)
      obtain ⟨n1, hn1⟩ : ∃ n, n = d.length := ⟨_, rfl⟩
      rw [← hn1] at q2 s2 hsf
      have HSF := Lib.hid hsf
      have h0i : (0 : Int) ≤ (i : Int) := by omega
      have hiN : (i : Int) < (N2 : Int) := by omega
      have hsi : IntKind.i64.wrap ((i : Int) + 1) = ((i + 1 : Nat) : Int) := by rw [IntWalk.i64_in _ (by omega)]; omega
      have HDR := Lib.hid hdr
      clear hk hch hd hn1 hsf q5 s5 hdr hiL hb hn hi HF1 HF2
      go_wp2_with fail
      go_region_with (go_at_call 11; refine HSF.out.mono ?_; rintro e w5 ⟨rfl, hb5⟩; have HB5 := Lib.hid hb5; clear hb5)
      all_goals go_wp2_with fail
      all_goals
        go_roundg (N2 - (i + 1))
        case measure => have := HNI.out; omega
        case rel => exact ⟨i + 1, by omega, rfl, rfl, HB.out.trans ((HDR.out.trans HB5.out).mono HB.out.size)⟩
    · have hiN : ¬ (i : Int) < (N2 : Int) := by omega
      clear hb hn hi
      go_wp2_with fail
      refine (told_any _).mono ?_
      rintro e w6 ⟨rfl, hb6⟩
      have HI := Lib.hid (HI.out.below (HB.out.trans (hb6.mono HB.out.size)))
      clear hb6
      go_wp2_with fail
      go_ret
      exact ⟨rfl, HI.out.bel⟩

end Go.Proofs.Ytjnnpgmgjdhfjaa

namespace Go.Proofs.Ytjnnpgmgjdhfjaa
open Go.ChangeShapes Go.WideShapes Go.ChangeAt Go.RowKit Go.Deep
set_option linter.unusedVariables false

theorem cells_method : Try.prog.cellsOf 25 = 12 := by kernel_rfl
theorem cells_u64 : Try.prog.cellsOf 22 = 1 := by kernel_rfl
theorem cells_bool : Try.prog.cellsOf 4 = 1 := by kernel_rfl

section
variable {H : Type} {enc : TypeId × Value → H} {w : World} {base : Nat} {spare : Nat → Bool} {held : Bool}
theorem twelve {α : Type} {l : List α} (h : l.length = 12) : ∃ c0 c1 c2 c3 c4 c5 c6 c7 c8 c9 c10 c11, l = [c0, c1, c2, c3, c4, c5, c6, c7, c8, c9, c10, c11] := by
  match l, h with
  | [c0, c1, c2, c3, c4, c5, c6, c7, c8, c9, c10, c11], _ => exact ⟨c0, c1, c2, c3, c4, c5, c6, c7, c8, c9, c10, c11, rfl⟩
set_option maxRecDepth 100000 in
theorem me_of {n : Nat} {cs : List Value} {y : DataW H × List MemPlace} (hcs : cs.length = 12) (h : DataW.trod enc Try.prog w base spare held n 25 cs = some y) (hf : w.noneFrozen y.2) :
    ∃ (m : Me) (a : Option Addr) (cap : Nat), cs = (meC m a cap).toList ∧ Tb w a cap m.args ∧ m.Wf := by
  obtain ⟨c0, c1, c2, c3, c4, c5, c6, c7, c8, c9, c10, c11, rfl⟩ := twelve hcs
  obtain ⟨ys, m, hm, rfl, hl, hlen, hat⟩ := DataW.trod_struct Try.underlying25 h
  have t0 := hat 0 _ rfl
  have t1 := hat 1 _ rfl
  have t2 := hat 2 _ rfl
  have t3 := hat 3 _ rfl
  have t4 := hat 4 _ rfl
  have t5 := hat 5 _ rfl
  have t6 := hat 6 _ rfl
  have t7 := hat 7 _ rfl
  have t8 := hat 8 _ rfl
  have t9 := hat 9 _ rfl
  have t10 := hat 10 _ rfl
  have t11 := hat 11 _ rfl
  simp only [List.getElem_toArray, List.getElem_cons_zero, List.getElem_cons_succ, cells_int, cells_str, cells_u64, cells_bool, cells_items, List.drop_zero, List.drop_succ_cons, List.take_succ_cons, List.take_zero] at t0 t1 t2 t3 t4 t5 t6 t7 t8 t9 t10 t11
  simp only [List.size_toArray, List.length_cons, List.length_nil] at hlen
  match ys, hlen with
  | [y0, y1, y2, y3, y4, y5, y6, y7, y8, y9, y10, y11], _ =>
    obtain ⟨i0, e0, _, w0⟩ := DataW.trod_int Try.underlying3 t0
    obtain ⟨s1, e1, _, w1⟩ := DataW.trod_string Try.underlying9 t1
    obtain ⟨s2, e2, _, w2⟩ := DataW.trod_string Try.underlying9 t2
    obtain ⟨s3, e3, _, w3⟩ := DataW.trod_string Try.underlying9 t3
    obtain ⟨s4, e4, _, w4⟩ := DataW.trod_string Try.underlying9 t4
    obtain ⟨s5, e5, _, w5⟩ := DataW.trod_string Try.underlying9 t5
    obtain ⟨i6, e6, _, w6⟩ := DataW.trod_int Try.underlying3 t6
    obtain ⟨i7, e7, _, w7⟩ := DataW.trod_int Try.underlying3 t7
    obtain ⟨i8, e8, _, w8⟩ := DataW.trod_int Try.underlying22 t8
    obtain ⟨b9, e9, _⟩ := DataW.trod_bool Try.underlying4 t9
    obtain ⟨b10, e10, _⟩ := DataW.trod_bool Try.underlying4 t10
    obtain ⟨a, cap, l, e11, ht⟩ := tb_of _ _ _ t11 (fun b off hb => hf b off (by simp [hb]))
    obtain ⟨z1, z2⟩ := in_u64 w8
    obtain ⟨tag, rfl⟩ : ∃ tag : Nat, i8 = (tag : Int) := ⟨i8.toNat, by omega⟩
    simp only [List.cons.injEq, and_true] at e0 e1 e2 e3 e4 e5 e6 e7 e8 e9 e10
    have z3 : tag < 18446744073709551616 := by omega
    refine ⟨⟨i0, s1, s2, s3, s4, s5, i6, i7, tag, b9, b10, l⟩, a, cap, ?_, ht, in_i64 w0, w1, w2, w3, w4, w5, in_i64 w6, in_i64 w7, z3, ht.fits⟩
    rw [e0, e1, e2, e3, e4, e5, e6, e7, e8, e9, e10, e11]
    rfl

set_option maxRecDepth 100000 in
/-- an argument that is a call. -/
theorem me_arg {v : Value} {d : DataW H} {p : List MemPlace} (h : DataW.Trod enc Try.prog w base spare held 25 v d p) {r : Reach} {b0 : Nat} (hv : Value.okWide Try.prog w r b0 25 v) (hf : w.noneFrozen p) :
    ∃ (m : Me) (a : Option Addr) (cap : Nat), v = .agg (meC m a cap) ∧ Tb w a cap m.args ∧ m.Wf := by
  obtain ⟨cs, rfl, hsz⟩ := okWide_struct Try.underlying25 hv
  obtain ⟨n, h⟩ := h
  obtain ⟨l⟩ := cs
  rw [cells_method] at hsz
  obtain ⟨m, a, cap, he, h1, h2⟩ := me_of (by simpa using hsz) (by simpa [Value.cells] using h) hf
  exact ⟨m, a, cap, by rw [he], h1, h2⟩
end

end Go.Proofs.Ytjnnpgmgjdhfjaa
