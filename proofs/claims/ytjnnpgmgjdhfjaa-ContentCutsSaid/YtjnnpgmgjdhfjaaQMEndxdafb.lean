/-
  package method's reader: table, numberOrFlag, part, walked.
  package method's reader: part, parts, walked.
  package method's reader: parts; Get; walked.
  package method's Get, walked.
  What Put and Get of a call answer, in short.
-/
import Derived.Test.YtjnnpgmgjdhfjaaQMPartsxffdf
import Derived.Test.YtjnnpgmgjdhfjaaQGetTxeecd
import Derived.Handy
import Derived.Test.YtjnnpgmgjdhfjaaQGetxcbdf
import Derived.Test.YtjnnpgmgjdhfjaaQMPutxfbad
namespace Go.Proofs.Ytjnnpgmgjdhfjaa
open Go.RowKit
set_option linter.unusedVariables false
variable {B : Nat}

/-- two blocks alone have turned. -/
structure Two (w w' : World) (g h : Nat) : Prop where
  os : w'.os = w.os
  tape : w'.tape = w.tape
  output : w'.output = w.output
  size : w.heap.size ≤ w'.heap.size
  block : ∀ k, k < w.heap.size → k ≠ g → k ≠ h → w'.heap[k]? = w.heap[k]?
theorem Two.refl (w : World) (g h : Nat) : Two w w g h := ⟨rfl, rfl, rfl, Nat.le_refl _, fun _ _ _ _ => rfl⟩
theorem Two.left {w w' : World} {g : Nat} (h : w.grownBy w' (some g)) (k : Nat) : Two w w' g k := ⟨h.os, h.tape, h.output, h.size, fun i hi h1 _ => h.block i hi (by simpa using h1)⟩
theorem Two.right {w w' : World} {g : Nat} (h : w.grownBy w' (some g)) (k : Nat) : Two w w' k g := ⟨h.os, h.tape, h.output, h.size, fun i hi _ h1 => h.block i hi (by simpa using h1)⟩
theorem Two.trans {a b c : World} {g h : Nat} (x : Two a b g h) (y : Two b c g h) : Two a c g h :=
  ⟨y.os.trans x.os, y.tape.trans x.tape, y.output.trans x.output, Nat.le_trans x.size y.size, fun k hk h1 h2 => (y.block k (Nat.lt_of_lt_of_le hk x.size) h1 h2).trans (x.block k hk h1 h2)⟩

/-- a table that was read. -/
def TabMP (T : TypeId) (B : Nat) (g : Nat) (l : List UInt8) (bad : Bool) (w : World) (e : Ending) (w' : World) : Prop :=
  ∃ (its : List It) (a : Option Addr) (cap : Nat) (bs : List Nat) (bad' : Bool), e = .returned (.slice a its.length cap) ∧ SlAt w' bs a cap its ∧ Own w' w.heap.size bs ∧ Rd T B w' g [] bad' ∧ w.grownBy w' (some g) ∧
    (bad' = false → bad = false ∧ MayT 1 its ∧ putT its = l ∧ l.length ≤ 3000) ∧ (∀ m, MayT 1 m → Fits m → putT m = l → l.length ≤ 3000 → bad' = bad)


set_option maxRecDepth 100000 in
set_option maxHeartbeats 4000000 in
theorem tableM_any (g : Nat) (l : List UInt8) (bad : Bool) (w : World) (hB : B ≤ w.heap.size) (hr : Rd 111 B w g l bad) :
    Calls Try.prog 83 #[.pointer (some ⟨g, 0, none⟩)] w (TabMP 111 B g l bad w) := by
  have hgl := hr.lt
  have hr0 := hr
  obtain ⟨v, hg, a, cap, rfl, hlc, hcm, hat⟩ := hr0
  have c0 : w.cell? ⟨g, 0, none⟩ = some (.slice a l.length cap) := by rw [cell_of_row w _ _ _ _ _ hg]; rfl
  have HAT := Lib.hid hat
  have HG := Lib.hid hg
  clear hat hg hr
  go_enter Try.func83, Try.ntmps83
  go_wp2_with fail
  refine (get_any (B := B) _ l w hB ⟨a, cap, rfl, hlc, hcm, HAT.out⟩).mono ?_
  rintro e w1 ⟨hb1, h⟩
  have hg1 := (hb1.block g hgl).trans HG.out
  have d0 : w1.cell? ⟨g, 0, none⟩ = some (.slice a l.length cap) := by rw [cell_of_row w1 _ _ _ _ _ hg1]; rfl
  have d1 : w1.cell? ⟨g, 1, none⟩ = some (.bool bad) := by rw [cell_of_row w1 _ _ _ _ _ hg1]; rfl
  have f0 : w1.frozen? ⟨g, 0, none⟩ = false := by simp [World.frozen?, hg1]
  have f1 : w1.frozen? ⟨g, 1, none⟩ = false := by simp [World.frozen?, hg1]
  have hend : ∀ b, Rd 111 B ((w1.setCell ⟨g, 0, none⟩ (.slice none 0 0)).setCell ⟨g, 1, none⟩ (.bool b)) g [] b := fun b => by
    refine ⟨.slice none 0 0, ?_, BytesIn.nil _⟩
    rw [set_heap (set_heap hg1 0 _) 1 _]
    rfl
  have hgr : ∀ b, w.grownBy ((w1.setCell ⟨g, 0, none⟩ (.slice none 0 0)).setCell ⟨g, 1, none⟩ (.bool b)) (some g) := fun b => by
    refine GrownBy.trans (b := w1) ⟨hb1.os, hb1.tape, hb1.output, hb1.size, fun k hk _ => hb1.block k hk⟩ (GrownBy.trans (set_grown _ _ _ _) (set_grown _ _ _ _))
  have HEND := Lib.hid hend
  have HGR := Lib.hid hgr
  clear hend hgr hb1 hg1 c0
  rcases h with ⟨rfl, h⟩ | ⟨its, a2, cap2, bs2, h1, h2, h3, rfl, h5, h6⟩
  · have HN := Lib.hid h
    clear h
    cases bad
    all_goals
      go_wp2_with fail
      go_ret
      exact ⟨[], none, 0, [], true, rfl, SlAt.nil _ _ (by decide), Own.nil _ _, HEND.out true, HGR.out true, (fun h => by cases h), fun m g1 g2 g3 g4 => by first | rfl | exact (HN.out m g1 g2 g3 g4).elim⟩
  · have HS := Lib.hid h5
    have HO := Lib.hid h6
    have H1 := Lib.hid (And.intro h1 (And.intro h2 h3))
    have hne : ∀ b ∈ bs2, b ≠ g := fun b hb => by have := (h6.2 b hb).1; omega
    have HNE := Lib.hid hne
    clear h1 h2 h3 h5 h6 hne
    have hk : ∀ x, ∀ b ∈ bs2, ((w1.setCell ⟨g, 0, none⟩ (.slice none 0 0)).setCell ⟨g, 1, none⟩ (.bool x)).heap[b]? = w1.heap[b]? := fun x b hb => by
      rw [Below.heap_setCell _ _ _ _ (HNE.out b hb), Below.heap_setCell _ _ _ _ (HNE.out b hb)]
    have HK := Lib.hid hk
    clear hk
    cases bad
    · go_wp2_with fail
      go_ret
      exact ⟨its, a2, cap2, bs2, false, rfl, HS.out.keep (HK.out _), HO.out.keep (HK.out _) (by simp [World.setCell]), HEND.out _, HGR.out _, (fun _ => ⟨rfl, H1.out⟩), fun _ _ _ _ _ => rfl⟩
    · go_wp2_with fail
      go_ret
      exact ⟨its, a2, cap2, bs2, true, rfl, HS.out.keep (HK.out _), HO.out.keep (HK.out _) (by simp [World.setCell]), HEND.out _, HGR.out _, (fun h => by cases h), fun _ _ _ _ _ => rfl⟩

theorem Me.set_num {m : Me} {p : Pt} (hp : p.isT = false) (ha : p ≠ .a) {v : Nat} (hv : v < 18446744073709551616) : (m.set p v).num p = (if p = .f ∨ p = .b then (if v = 1 then 1 else 0) else v) := by
  cases p <;> first | exact absurd rfl ha | (cases hp; done) | skip
  · simp [Me.set, Me.num, u64_sgn64 hv]
  · simp [Me.set, Me.num, u64_sgn64 hv]
  · simp [Me.set, Me.num]
  · by_cases h : v = 1 <;> simp [Me.set, Me.num, bitN, h]
  · by_cases h : v = 1 <;> simp [Me.set, Me.num, bitN, h]

def NfQ (T : TypeId) (B gm gr : Nat) (m : Me) (p : Pt) (l : List UInt8) (bad : Bool) (a : Option Addr) (cap : Nat) (w : World) (e : Ending) (w' : World) : Prop :=
  e = .returned (.tuple #[]) ∧ MeAt w' gm (m.set p (numP p.size l).1) a cap ∧ (∃ bad', Rd T B w' gr (numP p.size l).2.1 bad' ∧ bad' = (bad || (numP p.size l).2.2 || !((m.set p (numP p.size l).1).num p == (numP p.size l).1))) ∧ Two w w' gm gr

theorem Rd.set_bad {T : TypeId} {w : World} {g : Nat} {l : List UInt8} {bad : Bool} (h : Rd T B w g l bad) : Rd T B (w.setCell ⟨g, 1, none⟩ (.bool true)) g l true := by
  obtain ⟨v, hv, a, c, rfl, h1, h2, h3⟩ := h
  refine ⟨_, ?_, a, c, rfl, h1, h2, h3.other hv (rd_ne rfl _) (set_grown _ _ _ _)⟩
  rw [set_heap hv]
  rfl
set_option maxRecDepth 100000 in
set_option maxHeartbeats 4000000 in
theorem nf_any {w : World} {gm gr : Nat} {m : Me} {a : Option Addr} {cap : Nat} {l : List UInt8} {bad : Bool} (hm : MeAt w gm m a cap) (hr : Rd 111 B w gr l bad) (hB1 : B ≤ gm) (hB2 : B ≤ gr) (hne : gm ≠ gr) (p : Pt) (hp : p.isT = false) (ha : p ≠ .a) :
    Calls Try.prog 84 #[.pointer (some ⟨gr, 0, none⟩), .pointer (some ⟨gm, 0, none⟩), .int .u8 p.byte.toNat] w (NfQ 111 B gm gr m p l bad a cap w) := by
  have hs8 : p.size ≤ 8 := by cases p <;> decide
  have hgm := hm.lt
  have HM := Lib.hid hm
  have HR := Lib.hid hr
  clear hm hr
  go_enter Try.func84, Try.ntmps84
  go_wp2_with fail
  refine (num_any HM.out p hp ha).mono ?_
  rintro e w1 ⟨rfl, rfl⟩
  go_wp2_with fail
  refine (number_any gr p.size hs8 l bad _ HR.out).mono ?_
  rintro e w1 ⟨rfl, hr1, hg1⟩
  have HM1 := Lib.hid (HM.out.keep (hg1.block gm hgm (by simpa using hne)))
  have HR1 := Lib.hid hr1
  have HG1 := Lib.hid hg1
  have hv := numP_lt64 p.size hs8 l
  clear hr1 hg1
  go_wp2_with fail
  refine (setNum_any HM1.out p hp ha _ hv).mono ?_
  rintro e w2 ⟨rfl, hm2, hg2, hz2⟩
  have hr2 : Rd 111 B w2 gr (numP p.size l).2.1 (bad || (numP p.size l).2.2) := by
    have := HR1.out.lt
    exact HR1.out.frame (fun b hb => hg2.block b (by omega) (by simp; omega)) (hg2.block gr this (by simp; omega))
  have HM2 := Lib.hid hm2
  have HR2 := Lib.hid hr2
  have HTW := Lib.hid ((Two.right HG1.out gm).trans (Two.left hg2 gr))
  clear hm2 hr2 hg2 hz2
  go_wp2_with fail
  refine (num_any HM2.out p hp ha).mono ?_
  rintro e w3 ⟨rfl, rfl⟩
  obtain ⟨V, hV⟩ : ∃ V, V = (m.set p (numP p.size l).1).num p := ⟨_, rfl⟩
  obtain ⟨N, hN⟩ : ∃ N, N = (numP p.size l).1 := ⟨_, rfl⟩
  rw [← hV, ← hN]
  have HV := Lib.hid hV
  have HN := Lib.hid hN
  clear hV hN hv
  by_cases he : V = N
  · have hb : ((V : Int) == (N : Int)) = true := by rw [he]; simp
    have hi : (V : Int) = (N : Int) := by rw [he]
    have HE := Lib.hid he
    clear he
    go_wp2_with fail
    go_returns
    refine ⟨rfl, HM2.out, ⟨_, HR2.out, ?_⟩, HTW.out⟩
    rw [← HV.out, ← HN.out, HE.out]
    simp
  · have hb : ((V : Int) == (N : Int)) = false := by rw [beq_eq_false_iff_ne]; omega
    have hi : ¬ (V : Int) = (N : Int) := by omega
    have HE := Lib.hid he
    obtain ⟨vr, hvr, ar, cr, rfl, h1, h2, h3⟩ := HR2.out
    have f1 : w2.frozen? ⟨gr, 1, none⟩ = false := by simp [World.frozen?, hvr]
    have d1 : w2.cell? ⟨gr, 1, none⟩ = some (.bool (bad || (numP p.size l).2.2)) := by rw [cell_of_row w2 _ _ _ _ _ hvr]; rfl
    clear he hvr h3
    go_wp2_with fail
    go_returns
    refine ⟨rfl, HM2.out.keep (Below.heap_setCell _ _ _ _ hne), ⟨true, HR2.out.set_bad, ?_⟩, HTW.out.trans (Two.right (set_grown _ _ _ _) gm)⟩
    rw [← HV.out, ← HN.out, beq_eq_false_iff_ne.2 HE.out]
    simp

end Go.Proofs.Ytjnnpgmgjdhfjaa

namespace Go.Proofs.Ytjnnpgmgjdhfjaa
open Go.RowKit
set_option linter.unusedVariables false
variable {B : Nat}

theorem Me.set_wf {m : Me} (h : m.Wf) (p : Pt) {v : Nat} (hv : v < 18446744073709551616) : (m.set p v).Wf := by
  obtain ⟨h0, h1, h2, h3, h4, h5, h6, h7, h8, h9⟩ := h
  have s64 : -9223372036854775808 ≤ sgn64 v ∧ sgn64 v ≤ 9223372036854775807 := by unfold sgn64; split <;> omega
  cases p
  case c => exact ⟨h0, h1, h2, h3, h4, h5, s64, h7, h8, h9⟩
  case u => exact ⟨h0, h1, h2, h3, h4, h5, h6, s64, h8, h9⟩
  case t => exact ⟨h0, h1, h2, h3, h4, h5, h6, h7, hv, h9⟩
  all_goals exact ⟨h0, h1, h2, h3, h4, h5, h6, h7, h8, h9⟩
theorem Me.lay_wf {m : Me} (h : m.Wf) (p : Pt) {s : ByteArray} (hs : s.size ≤ maxLen) : (m.lay p s).Wf := by
  obtain ⟨h0, h1, h2, h3, h4, h5, h6, h7, h8, h9⟩ := h
  cases p
  case n => exact ⟨h0, hs, h2, h3, h4, h5, h6, h7, h8, h9⟩
  case y => exact ⟨h0, h1, hs, h3, h4, h5, h6, h7, h8, h9⟩
  case e => exact ⟨h0, h1, h2, hs, h4, h5, h6, h7, h8, h9⟩
  case k => exact ⟨h0, h1, h2, h3, hs, h5, h6, h7, h8, h9⟩
  case x => exact ⟨h0, h1, h2, h3, h4, hs, h6, h7, h8, h9⟩
  all_goals exact ⟨h0, h1, h2, h3, h4, h5, h6, h7, h8, h9⟩
theorem Me.set_put (m : Me) {p : Pt} (hp : p.isT = false) (ha : p ≠ .a) (v : Nat) : m.set p v = m.put p (m.set p v) := by
  cases p <;> first | rfl | exact absurd rfl ha | cases hp
theorem Me.lay_put (m : Me) {p : Pt} (hp : p.isT = true) (s : ByteArray) : m.lay p s = m.put p (m.lay p s) := by
  cases p <;> first | rfl | cases hp
theorem Me.set_args (m : Me) (p : Pt) (v : Nat) : (m.set p v).args = m.args := by cases p <;> rfl
theorem Me.lay_args (m : Me) (p : Pt) (s : ByteArray) : (m.lay p s).args = m.args := by cases p <;> rfl
theorem Me.lay_str (m : Me) {p : Pt} (hp : p.isT = true) (s : ByteArray) : (m.lay p s).str p = s := by cases p <;> first | rfl | cases hp

theorem Two.own {w w' : World} {gm gr base : Nat} {bs : List Nat} (h : Two w w' gm gr) (ho : Own w base bs) (hm : gm < base) (hr : gr < base) : ∀ b ∈ bs, w'.heap[b]? = w.heap[b]? := fun b hb => by
  have := ho.2 b hb
  exact h.block b this.2.1 (by omega) (by omega)

/-- what reading a part leaves. -/
def PartQ (T : TypeId) (B gm gr : Nat) (m : Me) (p : Pt) (l : List UInt8) (bad : Bool) (w : World) (e : Ending) (w' : World) : Prop :=
  e = .returned (.tuple #[]) ∧ ∃ (m' : Me) (a : Option Addr) (cap : Nat) (bs : List Nat) (l' : List UInt8) (bad' : Bool), MeAt w' gm m' a cap ∧ SlAt w' bs a cap m'.args ∧ Own w' (gm + 1) bs ∧ m'.Wf ∧ m' = m.put p m' ∧
    Rd T B w' gr l' bad' ∧ Two w w' gm gr ∧ l'.length ≤ l.length ∧
    (bad' = false → bad = false ∧ l = m'.enc p ++ l' ∧ m'.MayP p ∧ (p = .a → (putT m'.args).length ≤ 3000)) ∧
    (∀ (m2 : Me) (r : List UInt8), m2.MayP p → m2.Wf → (p = .a → r = [] ∧ (putT m2.args).length ≤ 3000) → l = m2.enc p ++ r → bad' = bad)

/-- a number's bytes, read. -/
theorem num_ok {m : Me} {p : Pt} {l : List UInt8} {bad : Bool} (hp : p.isT = false) (ha : p ≠ .a)
    (h : (bad || (numP p.size l).2.2 || !((m.set p (numP p.size l).1).num p == (numP p.size l).1)) = false) :
    bad = false ∧ l = (m.set p (numP p.size l).1).enc p ++ (numP p.size l).2.1 ∧ (m.set p (numP p.size l).1).MayP p := by
  simp only [Bool.or_eq_false_iff, Bool.not_eq_false', beq_iff_eq] at h
  obtain ⟨⟨h1, h2⟩, h3⟩ := h
  obtain ⟨h4, h5⟩ := numP_ok h2
  refine ⟨h1, ?_, ?_⟩
  · rw [Me.enc_num _ hp ha, h3]
    exact h4
  · have h6 := h3
    revert h5 h6
    generalize (numP p.size l).1 = v
    intro h5 h6
    cases p <;> first | exact absurd rfl ha | (cases hp; done) | exact trivial | skip
    all_goals
      simp only [Me.num] at h6
      simp only [Me.MayP, h6]
      simpa [Pt.size] using h5
theorem num_app {m m2 : Me} {p : Pt} {r : List UInt8} {bad : Bool} (hp : p.isT = false) (ha : p ≠ .a) (h : m2.MayP p) (hw : m2.Wf) :
    (bad || (numP p.size (m2.enc p ++ r)).2.2 || !((m.set p (numP p.size (m2.enc p ++ r)).1).num p == (numP p.size (m2.enc p ++ r)).1)) = bad := by
  have h1 := numP_app p.size (m2.num p) r
  rw [← Me.enc_num m2 hp ha] at h1
  have hv : m2.num p < 256 ^ p.size := by
    have b1 := bitN_le m2.flag
    have b2 := bitN_le m2.back
    cases p <;> first | exact absurd rfl ha | (cases hp; done) | skip
    all_goals
      simp only [Me.MayP] at h
      simp only [Me.num, Pt.size]
      omega
  rw [Nat.mod_eq_of_lt hv] at h1
  rw [h1]
  have h2 := Me.set_num (m := m) hp ha (Me.num_lt hw p)
  simp only [Bool.or_false]
  rw [h2]
  have b1 := bitN_le m2.flag
  have b2 := bitN_le m2.back
  cases p <;> first | exact absurd rfl ha | (cases hp; done) | skip
  · simp
  · simp
  · simp
  · have : m2.num .f = 0 ∨ m2.num .f = 1 := by simp only [Me.num]; omega
    rcases this with h | h <;> simp [h]
  · have : m2.num .b = 0 ∨ m2.num .b = 1 := by simp only [Me.num]; omega
    rcases this with h | h <;> simp [h]

set_option maxRecDepth 100000 in
set_option maxHeartbeats 4000000 in
theorem part_num {w : World} {gm gr : Nat} {m : Me} {a : Option Addr} {cap : Nat} {bs : List Nat} {l : List UInt8} {bad : Bool} (hm : MeAt w gm m a cap) (hs : SlAt w bs a cap m.args) (ho : Own w (gm + 1) bs) (wf : m.Wf) (hr : Rd 111 B w gr l bad)
    (hB : B ≤ gr) (hlt : gr < gm) (p : Pt) (hp : p.isT = false) (ha : p ≠ .a) (c : Int) (hc : c = p.byte.toNat) (hc97 : (c == 97) = false) :
    Calls Try.prog 80 #[.pointer (some ⟨gr, 0, none⟩), .pointer (some ⟨gm, 0, none⟩), .int .u8 c] w (PartQ 111 B gm gr m p l bad w) := by
  have HM := Lib.hid hm
  have HS := Lib.hid hs
  have HO := Lib.hid ho
  have HR := Lib.hid hr
  have HC := Lib.hid hc
  clear hm hs ho hr hc
  go_enter Try.func80, Try.ntmps80
  go_wp2_with fail
  rw [HC.out]
  refine (text_no gm p hp _).mono ?_
  rintro e w1 ⟨rfl, rfl⟩
  go_wp2_with fail
  try rw [HC.out]
  refine (nf_any HM.out HR.out (by omega) hB (by omega) p hp ha).mono ?_
  rintro e w1 ⟨rfl, hm1, ⟨bad', hr1, hbad⟩, htw⟩
  go_wp2_with fail
  go_returns
  have hk := htw.own HO.out (by omega) (by omega)
  have hv : (numP p.size l).1 < 18446744073709551616 := numP_lt64 _ (by cases p <;> decide) l
  refine ⟨rfl, m.set p (numP p.size l).1, a, cap, bs, _, bad', hm1, by rw [Me.set_args]; exact HS.out.keep hk, HO.out.keep hk htw.size, Me.set_wf wf p hv, Me.set_put m hp ha _, hr1, htw, numP_le _ _, fun h => ?_, fun m2 r h1 h2 h3 h4 => ?_⟩
  · rw [h] at hbad
    obtain ⟨q1, q2, q3⟩ := num_ok hp ha hbad.symm
    exact ⟨q1, q2, q3, fun e => absurd e ha⟩
  · rw [hbad, h4]
    exact num_app hp ha h1 h2

set_option maxRecDepth 100000 in
set_option maxHeartbeats 4000000 in
theorem part_str {w : World} {gm gr : Nat} {m : Me} {a : Option Addr} {cap : Nat} {bs : List Nat} {l : List UInt8} {bad : Bool} (hm : MeAt w gm m a cap) (hs : SlAt w bs a cap m.args) (ho : Own w (gm + 1) bs) (wf : m.Wf) (hr : Rd 111 B w gr l bad)
    (hB : B ≤ gr) (hlt : gr < gm) (p : Pt) (hp : p.isT = true) (c : Int) (hc : c = p.byte.toNat) (hc97 : (c == 97) = false) :
    Calls Try.prog 80 #[.pointer (some ⟨gr, 0, none⟩), .pointer (some ⟨gm, 0, none⟩), .int .u8 c] w (PartQ 111 B gm gr m p l bad w) := by
  have hgm := hm.lt
  have HM := Lib.hid hm
  have HS := Lib.hid hs
  have HO := Lib.hid ho
  have HR := Lib.hid hr
  have HC := Lib.hid hc
  clear hm hs ho hr hc
  go_enter Try.func80, Try.ntmps80
  go_wp2_with fail
  rw [HC.out]
  refine (text_yes gm p hp _).mono ?_
  rintro e w1 ⟨rfl, rfl⟩
  go_wp2_with fail
  refine (counted_any gr 1 (by decide) l bad _ HR.out).mono ?_
  rintro e w1 ⟨v1, rfl, ⟨a1, c1, rfl, hlc1, hcm1, hat1⟩, hr1, hg1⟩
  have hcv := conv_str c1 hat1
  have hm1 := HM.out.keep (hg1.block gm hgm (by simp; omega))
  have hcell : ∃ u, w1.cell? ⟨gm, p.off, none⟩ = some u := by
    obtain ⟨⟨x0, x1, x2, x3, x4, x5⟩, x6, x7, x8, x9, x10, x11⟩ := hm1.cells
    cases p <;> exact ⟨_, by assumption⟩
  obtain ⟨u, hu⟩ := hcell
  have hfr := hm1.frozen p.off
  have HM1 := Lib.hid hm1
  have HR1 := Lib.hid hr1
  have HG1 := Lib.hid hg1
  clear hm1 hr1 hg1 hat1
  go_wp2_with fail
  go_returns
  have htw := (Two.right HG1.out gm).trans (Two.left (set_grown w1 gm p.off (.string ⟨(cntP 1 l).1.toArray⟩)) gr)
  have hk := htw.own HO.out (by omega) (by omega)
  have hsz : (ByteArray.mk (cntP 1 l).1.toArray).size = (cntP 1 l).1.length := rfl
  have hml : (ByteArray.mk (cntP 1 l).1.toArray).size ≤ maxLen := by rw [hsz]; omega
  have hrl := HR1.out.lt
  refine ⟨rfl, m.lay p ⟨(cntP 1 l).1.toArray⟩, a, cap, bs, _, _, ?_, by rw [Me.lay_args]; exact HS.out.keep hk, HO.out.keep hk htw.size, Me.lay_wf wf p hml, Me.lay_put m hp _,
    HR1.out.frame (fun b hb => Below.heap_setCell _ _ _ _ (by simp; omega)) (Below.heap_setCell _ _ _ _ (by simp; omega)), htw, (cntP_le _ _).1, fun h => ?_, fun m2 r h1 h2 h3 h4 => ?_⟩
  · unfold MeAt
    rw [set_heap HM1.out]
    cases p <;> first | rfl | cases hp
  · simp only [Bool.or_eq_false_iff] at h
    obtain ⟨q1, q2⟩ := cntP_ok h.2
    refine ⟨h.1, ?_, ?_, fun e => by subst e; cases hp⟩
    · rw [Me.enc_str _ hp, Me.lay_str _ hp, hsz, List.append_assoc]
      exact q1
    · rw [Me.may_str _ hp, Me.lay_str _ hp, hsz]
      omega
  · rw [Me.may_str _ hp] at h1
    rw [Me.enc_str _ hp, List.append_assoc] at h4
    have h5 := cntP_app (k := 1) (c := (m2.str p).data.toList) r (by rw [size_toList]; omega)
    rw [size_toList, ← h4] at h5
    rw [h5]
    simp

set_option maxRecDepth 100000 in
set_option maxHeartbeats 4000000 in
theorem part_a {w : World} {gm gr : Nat} {m : Me} {a : Option Addr} {cap : Nat} {l : List UInt8} {bad : Bool} (hm : MeAt w gm m a cap) (wf : m.Wf) (hr : Rd 111 B w gr l bad)
    (hB : B ≤ gr) (hlt : gr < gm) :
    Calls Try.prog 80 #[.pointer (some ⟨gr, 0, none⟩), .pointer (some ⟨gm, 0, none⟩), .int .u8 97] w (PartQ 111 B gm gr m .a l bad w) := by
  have hgm := hm.lt
  have HM := Lib.hid hm
  have HR := Lib.hid hr
  clear hm hr
  go_enter Try.func80, Try.ntmps80
  go_wp2_with fail
  refine (tableM_any gr l bad _ (by omega) HR.out).mono ?_
  rintro e w1 ⟨its, a1, cap1, bs1, bad', rfl, hs1, ho1, hr1, hg1, hok, happ⟩
  have hm1 := HM.out.keep (hg1.block gm hgm (by simp; omega))
  have hu := hm1.cells.2.2.2.2.2.2
  have hfr := hm1.frozen 11
  have HM1 := Lib.hid hm1
  have HS1 := Lib.hid hs1
  have HO1 := Lib.hid ho1
  have HR1 := Lib.hid hr1
  have HG1 := Lib.hid hg1
  have HOK := Lib.hid hok
  have HAPP := Lib.hid happ
  clear hm1 hs1 ho1 hr1 hg1 hok happ
  go_wp2_with fail
  go_returns
  have htw := (Two.right HG1.out gm).trans (Two.left (set_grown w1 gm 11 (.slice a1 its.length cap1)) gr)
  have hk : ∀ b ∈ bs1, (w1.setCell ⟨gm, 11, none⟩ (.slice a1 its.length cap1)).heap[b]? = w1.heap[b]? := fun b hb => Below.heap_setCell _ _ _ _ (by have := (HO1.out.2 b hb).1; simp; omega)
  have hrl := HR1.out.lt
  refine ⟨rfl, { m with args := its }, a1, cap1, bs1, _, bad', ?_, HS1.out.keep hk, (HO1.out.mono (by omega)).keep hk (by simp [World.setCell]), ?_, rfl,
    HR1.out.frame (fun b hb => Below.heap_setCell _ _ _ _ (by simp; omega)) (Below.heap_setCell _ _ _ _ (by simp; omega)), htw, by simp, fun h => ?_, fun m2 r h1 h2 h3 h4 => ?_⟩
  · unfold MeAt
    rw [set_heap HM1.out]
    rfl
  · obtain ⟨h0, h1, h2, h3, h4, h5, h6, h7, h8, h9⟩ := wf
    exact ⟨h0, h1, h2, h3, h4, h5, h6, h7, h8, Tb.fits ⟨_, HS1.out⟩⟩
  · obtain ⟨q1, q2, q3, q4⟩ := HOK.out h
    exact ⟨q1, by rw [List.append_nil]; exact q3.symm, q2, fun _ => by rw [show putT ({ m with args := its } : Me).args = l from q3]; exact q4⟩
  · obtain ⟨rfl, h5⟩ := h3 rfl
    rw [List.append_nil] at h4
    exact HAPP.out m2.args h1 h2.fits h4.symm (by rw [h4]; exact h5)

theorem part_any {w : World} {gm gr : Nat} {m : Me} {a : Option Addr} {cap : Nat} {bs : List Nat} {l : List UInt8} {bad : Bool} (hm : MeAt w gm m a cap) (hs : SlAt w bs a cap m.args) (ho : Own w (gm + 1) bs) (wf : m.Wf) (hr : Rd 111 B w gr l bad)
    (hB : B ≤ gr) (hlt : gr < gm) (p : Pt) :
    Calls Try.prog 80 #[.pointer (some ⟨gr, 0, none⟩), .pointer (some ⟨gm, 0, none⟩), .int .u8 p.byte.toNat] w (PartQ 111 B gm gr m p l bad w) := by
  by_cases ha : p = .a
  · subst ha
    exact part_a hm wf hr hB hlt
  · have h97 : ((p.byte.toNat : Int) == 97) = false := by cases p <;> first | decide | exact absurd rfl ha
    by_cases hp : p.isT = true
    · exact part_str hm hs ho wf hr hB hlt p hp _ rfl h97
    · exact part_num hm hs ho wf hr hB hlt p (by simpa using hp) ha _ rfl h97

end Go.Proofs.Ytjnnpgmgjdhfjaa

namespace Go.Proofs.Ytjnnpgmgjdhfjaa
open Go.RowKit
set_option linter.unusedVariables false
variable {B : Nat}

theorem of_wf (id : Int) (h : -9223372036854775808 ≤ id ∧ id ≤ 9223372036854775807) : (Me.of id).Wf := by
  have e0 : (ByteArray.empty).size ≤ maxLen := by decide
  exact ⟨h, e0, e0, e0, e0, e0, (by decide : (-9223372036854775808 : Int) ≤ 0 ∧ (0 : Int) ≤ 9223372036854775807), (by decide : (-9223372036854775808 : Int) ≤ 0 ∧ (0 : Int) ≤ 9223372036854775807), (by decide : (0 : Nat) < 18446744073709551616), ⟨fun x hx => by simp [Me.of] at hx, fun x hx => by simp [Me.of] at hx⟩⟩

/-- k parts are read. -/
structure RSt (B : Nat) (W : World) (gr : Nat) (id : Int) (pl : List Pt) (l : List UInt8) (bad : Bool) (k : Nat) (w' : World) (gm : Nat) (m : Me) (a : Option Addr) (cap : Nat) (bs : List Nat) (l' : List UInt8) (bad' : Bool) : Prop where
  at_ : MeAt w' gm m a cap
  sl : SlAt w' bs a cap m.args
  own : Own w' (gm + 1) bs
  wf : m.Wf
  id_ : m.id = id
  no : ∀ p, p ∉ pl.take k → m.No p
  rd : Rd 111 B w' gr l' bad'
  grew : W.grownBy w' (some gr)
  ok : bad' = false → bad = false ∧ l = encL m (pl.take k) ++ l' ∧ (∀ p ∈ pl.take k, m.MayP p) ∧ (putT m.args).length ≤ 3000
  app : ∀ (m2 : Me) (r : List UInt8), (∀ p ∈ pl, m2.MayP p) → m2.Wf → (putT m2.args).length ≤ 3000 → (.a ∈ pl → r = []) → l = encL m2 pl ++ r → bad' = bad

/-- what reading a part makes of it. -/
theorem RSt.next {W : World} {gr gm : Nat} {id : Int} {pl : List Pt} {l : List UInt8} {bad : Bool} {k : Nat} {w' w2 : World} {m m' : Me} {a a2 : Option Addr} {cap cap2 : Nat} {bs bs2 : List Nat} {l' l2 : List UInt8} {bad' bad2 : Bool}
    (hp : partsOf id = some pl) (h : RSt B W gr id pl l bad k w' gm m a cap bs l' bad') (hk : k < pl.length) (hgm : W.heap.size ≤ gm)
    (q1 : MeAt w2 gm m' a2 cap2) (q2 : SlAt w2 bs2 a2 cap2 m'.args) (q3 : Own w2 (gm + 1) bs2) (q4 : m'.Wf) (q5 : m' = m.put pl[k] m') (q6 : Rd 111 B w2 gr l2 bad2) (q7 : Two w' w2 gm gr)
    (q8 : bad2 = false → bad' = false ∧ l' = m'.enc pl[k] ++ l2 ∧ m'.MayP pl[k] ∧ (pl[k] = .a → (putT m'.args).length ≤ 3000))
    (q9 : ∀ (m2 : Me) (r : List UInt8), m2.MayP pl[k] → m2.Wf → (pl[k] = .a → r = [] ∧ (putT m2.args).length ≤ 3000) → l' = m2.enc pl[k] ++ r → bad2 = bad') : RSt B W gr id pl l bad (k + 1) w2 gm m' a2 cap2 bs2 l2 bad2 := by
  have hs := partsOf_some hp
  have htk : pl.take (k + 1) = pl.take k ++ [pl[k]] := List.take_succ_eq_append_getElem hk
  have hnd : ∀ p ∈ pl.take k, p ≠ pl[k] := by
    intro p hp' e
    have h2 := hs.2.1
    have h3 : (pl.take (k + 1)).Nodup := h2.sublist (List.take_sublist _ _)
    rw [htk, List.nodup_append] at h3
    exact h3.2.2 p hp' pl[k] (by simp) e
  have hsame : ∀ p, p ≠ pl[k] → m'.Sm m p := fun p hne => by rw [q5]; exact Me.put_ne m m' hne
  have hargs : pl[k] ≠ .a → m'.args = m.args := fun hne => hsame .a (fun e => hne e.symm)
  refine ⟨q1, q2, q3, q4, by rw [q5, Me.put_id]; exact h.id_, fun p hpn => ?_, q6, ?_, fun hb => ?_, fun m2 r h1 h2 h3 h4 h5 => ?_⟩
  · rw [htk] at hpn
    have hne : p ≠ pl[k] := fun e => hpn (List.mem_append.2 (.inr (by rw [e]; exact List.mem_singleton.2 rfl)))
    exact (hsame p hne).no.2 (h.no p fun hx => hpn (List.mem_append.2 (.inl hx)))
  · refine ⟨q7.os.trans h.grew.os, q7.tape.trans h.grew.tape, q7.output.trans h.grew.output, Nat.le_trans h.grew.size q7.size, fun i hi hne => ?_⟩
    exact (q7.block i (Nat.lt_of_lt_of_le hi h.grew.size) (by omega) (by simpa using hne)).trans (h.grew.block i hi hne)
  · obtain ⟨r1, r2, r3, r4⟩ := q8 hb
    obtain ⟨t1, t2, t3, t4⟩ := h.ok r1
    refine ⟨t1, ?_, fun p hp' => ?_, ?_⟩
    · rw [htk, encL_append, t2, r2, encL_congr (m := m') (s := m) (fun p hp' => hsame p (hnd p hp'))]
      simp [encL]
    · rw [htk] at hp'
      rcases List.mem_append.1 hp' with hp' | hp'
      · exact (hsame p (hnd p hp')).may.2 (t3 p hp')
      · obtain rfl := List.mem_singleton.1 hp'
        exact r3
    · by_cases ha : pl[k] = .a
      · exact r4 ha
      · rw [hargs ha]; exact t4
  · have hb1 := h.app m2 r h1 h2 h3 h4 h5
    cases hbb : bad'
    · obtain ⟨t1, t2, t3, t4⟩ := h.ok hbb
      have hsplit : encL m2 pl = encL m2 (pl.take k) ++ (m2.enc pl[k] ++ encL m2 (pl.drop (k + 1))) := by
        conv => lhs; rw [← List.take_append_drop k pl, encL_append, List.drop_eq_getElem_cons hk]
        rfl
      rw [hsplit, List.append_assoc] at h5
      have h6 := t2.symm.trans h5
      obtain ⟨_, h7⟩ := encL_app h.wf h2 t4 h3 t3 (fun p hp' => h1 p (List.mem_of_mem_take hp')) h6
      rw [List.append_assoc] at h7
      have h8 := q9 m2 _ (h1 _ (List.getElem_mem hk)) h2 (fun ha => by
        have hlast := hs.2.2.1 k hk ha
        have hmem : .a ∈ pl := by rw [← ha]; exact List.getElem_mem hk
        rw [h4 hmem, List.drop_eq_nil_of_le (by omega)]
        exact ⟨rfl, h3⟩) h7
      rw [h8, hb1]
    · cases hb2 : bad2
      · exact absurd (q8 hb2).1 (by rw [hbb]; simp)
      · rw [← hb1, hbb]

theorem set_os (w : World) (p : Addr) (v : Value) : (w.setCell p v).os = w.os := rfl
theorem set_tape (w : World) (p : Addr) (v : Value) : (w.setCell p v).tape = w.tape := rfl
theorem set_output (w : World) (p : Addr) (v : Value) : (w.setCell p v).output = w.output := rfl
theorem set_size (w : World) (p : Addr) (v : Value) : (w.setCell p v).heap.size = w.heap.size := by simp [World.setCell]
/-- another block was written. -/
theorem RSt.other {W : World} {gr : Nat} {id : Int} {pl : List Pt} {l : List UInt8} {bad : Bool} {k : Nat} {w' w2 : World} {m : Me} {a : Option Addr} {cap : Nat} {bs : List Nat} {l' : List UInt8} {bad' : Bool}
    (h : RSt B W gr id pl l bad k w' (W.heap.size + 1) m a cap bs l' bad') (hg : gr < W.heap.size) (hB : B ≤ gr) (hk : ∀ b, b ≠ W.heap.size → w2.heap[b]? = w'.heap[b]?) (hz : w2.heap.size = w'.heap.size) (h1 : w2.os = w'.os) (h2 : w2.tape = w'.tape) (h3 : w2.output = w'.output) :
    RSt B W gr id pl l bad k w2 (W.heap.size + 1) m a cap bs l' bad' := by
  have hbs : ∀ b ∈ bs, w2.heap[b]? = w'.heap[b]? := fun b hb => hk b (by have := (h.own.2 b hb).1; omega)
  exact ⟨h.at_.keep (hk _ (by omega)), h.sl.keep hbs, h.own.keep hbs (by omega), h.wf, h.id_, h.no, h.rd.frame (fun b hb => hk b (by omega)) (hk gr (by omega)),
    ⟨h1.trans h.grew.os, h2.trans h.grew.tape, h3.trans h.grew.output, by have := h.grew.size; omega, fun i hi hne => (hk i (by omega)).trans (h.grew.block i hi hne)⟩, h.ok, h.app⟩

def partsRel (B : Nat) (W : World) (gr : Nat) (id : Int) (pl : List Pt) (l : List UInt8) (bad : Bool) (n : Nat) (a' : Act) (w' : World) : Prop :=
  ∃ (k : Nat) (m : Me) (a : Option Addr) (cap : Nat) (bs : List Nat) (l' : List UInt8) (bad' : Bool), (k ≤ pl.length ∧ n = pl.length - k ∧ RSt B W gr id pl l bad k w' (W.heap.size + 1) m a cap bs l' bad' ∧ MeAt w' W.heap.size (Me.of 0) none 0) ∧
    ∃ (u7 u8 u9 u10 u11 u12 u13 u14 u15 u16 u17 u18 u19 : Value), a' = { tmps := #[.pointer (some ⟨gr, 0, none⟩), .int .i64 id, undef, undef, .pointer (some ⟨W.heap.size, 0, none⟩), .pointer (some ⟨W.heap.size + 1, 0, none⟩), .string (ltr (pl.drop k)), u7, u8, u9, u10, u11, u12, u13, u14, u15, u16, u17, u18, u19], defers := [] }

def ReadPR (B gr : Nat) (id : Int) (pl : List Pt) (l : List UInt8) (bad : Bool) (w : World) (e : Ending) (w' : World) : Prop :=
  ∃ (m : Me) (a : Option Addr) (cap : Nat) (bs : List Nat) (l' : List UInt8) (bad' : Bool), e = .returned (.agg (meC m a cap)) ∧ RSt B w gr id pl l bad pl.length w' (w.heap.size + 1) m a cap bs l' bad'

set_option maxRecDepth 100000 in
set_option maxHeartbeats 8000000 in
theorem readP_any {w : World} {gr : Nat} {id : Int} {pl : List Pt} {l : List UInt8} {bad : Bool} (hp : partsOf id = some pl) (hr : Rd 111 B w gr l bad) (hB : B ≤ gr) :
    Calls Try.prog 74 #[.pointer (some ⟨gr, 0, none⟩), .int .i64 id] w (ReadPR B gr id pl l bad w) := by
  have hs := partsOf_some hp
  have hps : partsStr id = ltr pl := by unfold partsStr; rw [hp]
  have hgl := hr.lt
  have HR := Lib.hid hr
  have HP := Lib.hid hp
  have hi1 := hs.2.2.2.1
  have hi2 := hs.2.2.2.2
  clear hr hp hs
  go_enter Try.func74, Try.ntmps74
  go_wp2
  refine wp_scope_ghost 0 (partsRel B w gr id pl l bad) rfl ?_ ?_
  · intro H hbk
    have HBK := Lib.hid hbk
    clear hbk
    go_wp2_with fail
    refine (parts_any id _).mono ?_
    rintro e w1 ⟨rfl, rfl⟩
    rw [hps]
    go_wp2_with fail
    go_step3
    rename_i hK
    refine hK _ _ (HBK.out pl.length _ _ ⟨0, Me.of id, none, 0, [], l, bad, ⟨Nat.zero_le _, rfl, ?_, ?_⟩, ?_⟩)
    · refine ⟨?_, SlAt.nil _ _ (by decide), Own.nil _ _, of_wf id (by omega), rfl, fun p _ => Me.of_no id p, ?_, ?_, fun hb => ⟨hb, by simp [encL], by simp, (by show (putT ([] : List It)).length ≤ 3000; decide)⟩, fun _ _ _ _ _ _ _ => rfl⟩
      · have := heap_alloc_new (w.alloc (.cells (meC (Me.of 0) none 0) 25)) (.cells (meC (Me.of id) none 0) 25)
        have hz : (w.alloc (.cells (meC (Me.of 0) none 0) 25)).heap.size = w.heap.size + 1 := by simp
        rw [hz] at this
        exact this
      · exact (HR.out.alloc _).alloc _
      · exact alloc_later (alloc_later (GrownBy.refl _ _) _) _
    · exact (Below.heap_alloc _ _ _ (by simp)).trans (heap_alloc_new w _)
    · repeat apply Exists.intro
      rfl
  · rintro n a' w' ⟨k, m, a, cap, bs, l', bad', ⟨hk, rfl, hst, hres⟩, u7, u8, u9, u10, u11, u12, u13, u14, u15, u16, u17, u18, u19, rfl⟩ H hH
    have HH := Lib.hid hH
    have HST := Lib.hid hst
    have HRES := Lib.hid hres
    clear hH hst hres
    by_cases hlt : k < pl.length
    · obtain ⟨p, hpk⟩ : ∃ p, p = pl[k] := ⟨_, rfl⟩
      have hdrop : pl.drop k = p :: pl.drop (k + 1) := by rw [hpk]; exact List.drop_eq_getElem_cons hlt
      have hix : ∀ wx, (Instr.index 9 (.string (ltr (p :: pl.drop (k + 1)))) (.int .i64 0)).run Try.prog wx = .ok (.int .u8 (p.byte.toNat)) wx := ltr_index (p :: pl.drop (k + 1)) 0 (by simp)
      have hsl := ltr_slice p (pl.drop (k + 1))
      obtain ⟨hn1, hn2, hn3⟩ := ltr_cons p (pl.drop (k + 1))
      have HPK := Lib.hid hpk
      rw [hdrop]
      clear hdrop hpk
      go_wp2_with fail
      refine (part_any (B := B) HST.out.at_ HST.out.sl HST.out.own HST.out.wf HST.out.rd hB (by omega) p).mono ?_
      rintro e w2 ⟨rfl, m', a2, cap2, bs2, l2, bad2, q1, q2, q3, q4, q5, q6, q7, q7', q8, q9⟩
      have hst2 : RSt B w gr id pl l bad (k + 1) w2 (w.heap.size + 1) m' a2 cap2 bs2 l2 bad2 := by
        have hpk := HPK.out
        subst hpk
        exact HST.out.next HP.out hlt (by omega) q1 q2 q3 q4 q5 q6 q7 q8 q9
      have HST2 := Lib.hid hst2
      have hres2 : MeAt w2 w.heap.size (Me.of 0) none 0 := HRES.out.keep (q7.block _ HRES.out.lt (by omega) (by omega))
      have HRES2 := Lib.hid hres2
      clear hst2 hres2 q1 q2 q3 q4 q5 q6 q7 q7' q8 q9
      go_wp2_with fail
      go_step3
      refine ⟨rfl, HH.out (pl.length - (k + 1)) _ _ (by omega) ⟨k + 1, m', a2, cap2, bs2, l2, bad2, ⟨by omega, rfl, HST2.out, HRES2.out⟩, ?_⟩⟩
      repeat apply Exists.intro
      rfl
    · obtain rfl : k = pl.length := by omega
      rw [List.drop_length, ltr_nil]
      obtain ⟨⟨c0, c1, c2, c3, c4, c5⟩, c6, c7, c8, c9, c10, c11⟩ := HST.out.at_.cells
      obtain ⟨⟨d0, d1, d2, d3, d4, d5⟩, d6, d7, d8, d9, d10, d11⟩ := HRES.out.cells
      have hf := HRES.out.frozen
      have f0 := hf 0
      have f1 := hf 1
      have f2 := hf 2
      have f3 := hf 3
      have f4 := hf 4
      have f5 := hf 5
      have f6 := hf 6
      have f7 := hf 7
      have f8 := hf 8
      have f9 := hf 9
      have f10 := hf 10
      have f11 := hf 11
      clear hf
      go_wp2_with fail
      simp only [Exit.jump]
      refine bodyPost_ret (v := .agg (meC m a cap)) (by unfold meC; simp [results, Try.results74, go_sem, *]) rfl ?_
      refine ⟨m, a, cap, bs, l', bad', rfl, HST.out.other hgl hB ?_ ?_ (by simp only [set_os]) (by simp only [set_tape]) (by simp only [set_output])⟩
      · intro b hb
        repeat rw [Below.heap_setCell _ _ _ _ hb]
      · simp only [set_size]

end Go.Proofs.Ytjnnpgmgjdhfjaa

namespace Go.Proofs.Ytjnnpgmgjdhfjaa
open Go.RowKit
set_option linter.unusedVariables false
variable {B : Nat}

theorem set_below {a w : World} {g i : Nat} {u : Value} (h : Below g a w) : Below g a (w.setCell ⟨g, i, none⟩ u) := h.setCell (Nat.le_refl _) u

/-- what Get answers. -/
def GetMR (b : List UInt8) (w : World) (e : Ending) (w' : World) : Prop :=
  Below w.heap.size w w' ∧ ((e = .returned (.tuple #[.agg (meC (Me.of 0) none 0), .int .i64 502]) ∧ (b.length < 4 ∨ ∃ pl, HeadOk b pl) ∧ ∀ m, Good m → putM m = b → False) ∨
    (e = .returned (.tuple #[.agg (meC (Me.of 0) none 0), .int .i64 503]) ∧ 4 ≤ b.length ∧ ∀ pl, ¬ HeadOk b pl) ∨
    ∃ (m : Me) (a : Option Addr) (cap : Nat) (bs : List Nat), Good m ∧ putM m = b ∧ e = .returned (.tuple #[.agg (meC m a cap), .int .i64 0]) ∧ SlAt w' bs a cap m.args ∧ Own w' w.heap.size bs)

theorem num2_short {l : List UInt8} (h : l.length < 4) : ((numP 2 l).2.2 || (numP 2 (numP 2 l).2.1).2.2) = true := by
  unfold numP takeP
  by_cases h2 : l.length < 2
  · simp [h2]
  · have h4 : (l.drop 2).length < 2 := by simp; omega
    simp only [if_neg h2, if_pos h4, Bool.or_true]
theorem num2_long {l : List UInt8} (h : 4 ≤ l.length) : numP 2 l = (de (l.take 2), l.drop 2, false) ∧ numP 2 (l.drop 2) = (de ((l.drop 2).take 2), l.drop 4, false) := by
  unfold numP takeP
  have h2 : ¬ l.length < 2 := by omega
  have h4 : ¬ (l.drop 2).length < 2 := by simp; omega
  rw [if_neg h2, if_neg h4, List.drop_drop]
  exact ⟨rfl, rfl⟩
theorem putM_short (m : Me) (h : Good m) : 4 ≤ (putM m).length := by
  obtain ⟨l, hl, _⟩ := h.may
  rw [putM_eq hl]
  simp
theorem putM_head (m : Me) (h : Good m) : ∃ pl, partsOf m.id = some pl ∧ HeadOk (putM m) pl ∧ idOf (putM m) = m.id ∧ (putM m).drop 4 = encL m pl := by
  obtain ⟨l, hl, _⟩ := h.may
  rw [putM_eq hl]
  exact ⟨l, hl, head_put hl _⟩

set_option maxRecDepth 100000 in
set_option maxHeartbeats 8000000 in
theorem getM_any (v : Value) (b : List UInt8) (w : World) (hB : B ≤ w.heap.size) (hv : BytesIn B w v b) :
    Calls Try.prog 64 #[v] w (GetMR b w) := by
  obtain ⟨a, cap, rfl, hlc, hcm, hat⟩ := hv
  have HAT := Lib.hid hat
  clear hat
  unfold maxLen at hcm
  have hbel : Below w.heap.size w ((w.alloc (.cells #[.int .i64 0, .string ⟨#[]⟩, .string ⟨#[]⟩, .string ⟨#[]⟩, .string ⟨#[]⟩, .string ⟨#[]⟩, .int .i64 0, .int .i64 0, .int .u64 0, .bool false, .bool false, .slice none 0 0] 25)).alloc (.cells #[.slice a b.length cap, .bool false] 111)) := ((Below.refl _ _).alloc (Nat.le_refl _) _).alloc (by simp) _
  have hz : (w.alloc (.cells #[.int .i64 0, .string ⟨#[]⟩, .string ⟨#[]⟩, .string ⟨#[]⟩, .string ⟨#[]⟩, .string ⟨#[]⟩, .int .i64 0, .int .i64 0, .int .u64 0, .bool false, .bool false, .slice none 0 0] 25)).heap.size = w.heap.size + 1 := by simp
  have hres : MeAt ((w.alloc (.cells #[.int .i64 0, .string ⟨#[]⟩, .string ⟨#[]⟩, .string ⟨#[]⟩, .string ⟨#[]⟩, .string ⟨#[]⟩, .int .i64 0, .int .i64 0, .int .u64 0, .bool false, .bool false, .slice none 0 0] 25)).alloc (.cells #[.slice a b.length cap, .bool false] 111)) w.heap.size (Me.of 0) none 0 := (Below.heap_alloc _ _ _ (by simp)).trans (heap_alloc_new w _)
  have hrd : Rd 111 B ((w.alloc (.cells #[.int .i64 0, .string ⟨#[]⟩, .string ⟨#[]⟩, .string ⟨#[]⟩, .string ⟨#[]⟩, .string ⟨#[]⟩, .int .i64 0, .int .i64 0, .int .u64 0, .bool false, .bool false, .slice none 0 0] 25)).alloc (.cells #[.slice a b.length cap, .bool false] 111)) (w.heap.size + 1) b false := by
    refine ⟨_, by have := heap_alloc_new (w.alloc (.cells #[.int .i64 0, .string ⟨#[]⟩, .string ⟨#[]⟩, .string ⟨#[]⟩, .string ⟨#[]⟩, .string ⟨#[]⟩, .int .i64 0, .int .i64 0, .int .u64 0, .bool false, .bool false, .slice none 0 0] 25)) (.cells #[.slice a b.length cap, .bool false] 111); rw [hz] at this; exact this, a, cap, rfl, hlc, (by unfold maxLen; omega), fun h0 => ?_⟩
    obtain ⟨b1, o, ha, hbB, hc⟩ := HAT.out h0
    exact ⟨b1, o, ha, hbB, fun i hi => (hbel.cell (p := ⟨b1, o + i, none⟩) (by show b1 < w.heap.size; omega)).trans (hc i hi)⟩
  go_enter Try.func64, Try.ntmps64
  go_wp2_with fail
  generalize ((w.alloc (.cells #[.int .i64 0, .string ⟨#[]⟩, .string ⟨#[]⟩, .string ⟨#[]⟩, .string ⟨#[]⟩, .string ⟨#[]⟩, .int .i64 0, .int .i64 0, .int .u64 0, .bool false, .bool false, .slice none 0 0] 25)).alloc (.cells #[.slice a b.length cap, .bool false] 111)) = W1 at *
  clear hz HAT
  have HRES := Lib.hid hres
  have HRD := Lib.hid hrd
  have HBL := Lib.hid hbel
  have hzW := hbel.size
  clear hbel hres hrd
  refine (number_any (w.heap.size + 1) 2 (by decide) b false _ HRD.out).mono ?_
  rintro e w1 ⟨rfl, hr1, hg1⟩
  have HR1 := Lib.hid hr1
  have HG1 := Lib.hid hg1
  clear hr1 hg1
  go_wp2_with fail
  refine (number_any (w.heap.size + 1) 2 (by decide) _ _ _ HR1.out).mono ?_
  rintro e w2 ⟨rfl, hr2, hg2⟩
  rw [Bool.false_or] at hr2
  have hg12 := GrownBy.trans HG1.out hg2
  have hres2 : MeAt w2 w.heap.size (Me.of 0) none 0 := HRES.out.keep (hg12.block _ HRES.out.lt (by simp))
  have hb2 : Below w.heap.size w w2 := HBL.out.grown hg12 (by omega) (fun k e => by cases e; omega)
  have HB2 := Lib.hid hb2
  have HR2 := Lib.hid hr2
  have HRES2 := Lib.hid hres2
  have hz2 := hg12.size
  clear hr2 hg2 hg12 hres2 hb2 HR1 HG1 HRES HRD HBL
  obtain ⟨vr, hvr, ar, cr, rfl, hlr, hmr, hatr⟩ := HR2.out
  have c1 : w2.cell? ⟨w.heap.size + 1, 1, none⟩ = some (.bool ((numP 2 b).2.2 || (numP 2 (numP 2 b).2.1).2.2)) := by rw [cell_of_row w2 _ _ _ _ _ hvr]; rfl
  obtain ⟨⟨d0, d1, d2, d3, d4, d5⟩, d6, d7, d8, d9, d10, d11⟩ := HRES2.out.cells
  have hf := HRES2.out.frozen
  have f0 := hf 0
  have f1 := hf 1
  have f2 := hf 2
  have f3 := hf 3
  have f4 := hf 4
  have f5 := hf 5
  have f6 := hf 6
  have f7 := hf 7
  have f8 := hf 8
  have f9 := hf 9
  have f10 := hf 10
  have f11 := hf 11
  clear hf hvr hatr
  by_cases h4 : b.length < 4
  · rw [num2_short h4] at c1
    have H4 := Lib.hid h4
    clear h4
    go_wp2_with fail
    refine bodyPost_ret (v := .tuple #[.agg #[.int .i64 0, .string ⟨#[]⟩, .string ⟨#[]⟩, .string ⟨#[]⟩, .string ⟨#[]⟩, .string ⟨#[]⟩, .int .i64 0, .int .i64 0, .int .u64 0, .bool false, .bool false, .slice none 0 0], .int .i64 502]) (by simp [results, Try.results64, go_sem, *]) rfl ?_
    refine ⟨?_, .inl ⟨rfl, .inl H4.out, fun m hm h => by have := putM_short m hm; rw [h] at this; have := H4.out; omega⟩⟩
    iterate 12 refine set_below ?_
    exact HB2.out
  · have h4' : 4 ≤ b.length := by omega
    obtain ⟨e1, e2⟩ := num2_long h4'
    have hR2 := HR2.out
    have a1 : (b.take 2).length = 2 := by simp; omega
    have a2 : ((b.drop 2).take 2).length = 2 := by simp; omega
    have hC1 := de_lt (b.take 2)
    have hD1 := de_lt ((b.drop 2).take 2)
    rw [a1] at hC1
    rw [a2] at hD1
    obtain ⟨C, hC⟩ : ∃ C, C = de (b.take 2) := ⟨_, rfl⟩
    obtain ⟨D, hD⟩ : ∃ D, D = de ((b.drop 2).take 2) := ⟨_, rfl⟩
    have hid : idOf b = ((C * 100 + D : Nat) : Int) := by unfold idOf; rw [hC, hD]
    rw [e1] at c1 hR2 ⊢
    simp only at c1 hR2 ⊢
    rw [e2] at c1 hR2 ⊢
    simp only [Bool.or_false] at c1 hR2 ⊢
    rw [← hC] at hC1 ⊢
    rw [← hD] at hD1 ⊢
    have HID := Lib.hid hid
    have HD := Lib.hid hD
    have H4 := Lib.hid h4'
    have HR3 := Lib.hid hR2
    clear hid hD hC h4 h4' e1 e2 a1 a2 HR2 hR2 hlr
    replace hC1 : C < 65536 := hC1
    replace hD1 : D < 65536 := hD1
    have x1 : IntKind.u64.wrap ((C : Int) * 100) = (C : Int) * 100 := by rw [IntKind.wrap_u64]; omega
    have x2 : IntKind.u64.wrap ((C : Int) * 100 + (D : Int)) = (C : Int) * 100 + (D : Int) := by rw [IntKind.wrap_u64]; omega
    have x3 : IntKind.i64.wrap ((C : Int) * 100 + (D : Int)) = (C : Int) * 100 + (D : Int) := IntWalk.i64_in _ (by omega)
    by_cases hd : 100 ≤ D
    · have hdi : (100 : Int) ≤ (D : Int) := by omega
      go_wp2_with fail
      refine bodyPost_ret (v := .tuple #[.agg #[.int .i64 0, .string ⟨#[]⟩, .string ⟨#[]⟩, .string ⟨#[]⟩, .string ⟨#[]⟩, .string ⟨#[]⟩, .int .i64 0, .int .i64 0, .int .u64 0, .bool false, .bool false, .slice none 0 0], .int .i64 503]) (by simp [results, Try.results64, go_sem, *]) rfl ?_
      refine ⟨?_, .inr (.inl ⟨rfl, H4.out, fun pl h => by have := h.2.1; rw [← HD.out] at this; omega⟩)⟩
      iterate 12 refine set_below ?_
      exact HB2.out
    · have hdi : ¬ (100 : Int) ≤ (D : Int) := by omega
      have hid2 : idOf b = (C : Int) * 100 + (D : Int) := by rw [HID.out]; omega
      have HI2 := Lib.hid hid2
      clear hid2
      go_wp2_with fail
      refine (parts_any ((C : Int) * 100 + (D : Int)) _).mono ?_
      rintro e w3 ⟨rfl, rfl⟩
      cases hp : partsOf ((C : Int) * 100 + (D : Int)) with
      | none =>
        have hs : partsStr ((C : Int) * 100 + (D : Int)) = ⟨#[45]⟩ := by unfold partsStr; rw [hp]
        have HP := Lib.hid hp
        rw [hs]
        clear hp hs
        go_wp2_with fail
        refine bodyPost_ret (v := .tuple #[.agg #[.int .i64 0, .string ⟨#[]⟩, .string ⟨#[]⟩, .string ⟨#[]⟩, .string ⟨#[]⟩, .string ⟨#[]⟩, .int .i64 0, .int .i64 0, .int .u64 0, .bool false, .bool false, .slice none 0 0], .int .i64 503]) (by simp [results, Try.results64, go_sem, *]) rfl ?_
        refine ⟨?_, .inr (.inl ⟨rfl, H4.out, fun pl h => by have := h.2.2; rw [HI2.out, HP.out] at this; cases this⟩)⟩
        iterate 12 refine set_below ?_
        exact HB2.out
      | some pl =>
        have hs : partsStr ((C : Int) * 100 + (D : Int)) = ltr pl := by unfold partsStr; rw [hp]
        have HP := Lib.hid hp
        obtain ⟨hd1, hd2⟩ := ltr_dash pl
        rw [hs]
        clear hp hs
        go_wp2_with fail
        clear hd1 hd2 c1
        refine (readP_any (B := B) (gr := w.heap.size + 1) HP.out HR3.out (by omega)).mono ?_
        rintro e w3 ⟨m, a3, cap3, bs3, l3, bad3, rfl, hst⟩
        have hres3 : MeAt w3 w.heap.size (Me.of 0) none 0 := HRES2.out.keep (hst.grew.block _ HRES2.out.lt (by simp))
        have hb3 : Below w.heap.size w w3 := HB2.out.grown hst.grew (by omega) (fun k e => by cases e; omega)
        have hz3 := hst.grew.size
        have hRl := HRES2.out.lt
        have HST := Lib.hid hst
        have HRES3 := Lib.hid hres3
        have HB3 := Lib.hid hb3
        have hhead : HeadOk b pl := ⟨H4.out, by rw [← HD.out]; omega, by rw [HI2.out]; exact HP.out⟩
        have HHD := Lib.hid hhead
        clear hst hres3 hb3 hhead d0 d1 d2 d3 d4 d5 d6 d7 d8 d9 d10 d11 f0 f1 f2 f3 f4 f5 f6 f7 f8 f9 f10 f11
        have hat3 := HST.out.at_
        have HMX := Lib.hid hat3
        clear hat3
        obtain ⟨vr3, hvr3, ar3, cr3, rfl, hl3, hm3, -⟩ := HST.out.rd
        have hlt3 : w.heap.size + 1 < w3.heap.size := HST.out.rd.lt
        have hv4 : (w3.alloc (.cells #[.int .i64 m.id, .string m.name, .string m.typ, .string m.ex, .string m.key, .string m.text, .int .i64 m.code, .int .i64 m.count, .int .u64 m.tag, .bool m.flag, .bool m.back, .slice a3 m.args.length cap3] 25)).heap[w.heap.size + 1]? = some (.cells #[.slice ar3 l3.length cr3, .bool bad3] 111 (0, 0)) := (Below.heap_alloc w3 _ _ hlt3).trans hvr3
        have e0 : (w3.alloc (.cells #[.int .i64 m.id, .string m.name, .string m.typ, .string m.ex, .string m.key, .string m.text, .int .i64 m.code, .int .i64 m.count, .int .u64 m.tag, .bool m.flag, .bool m.back, .slice a3 m.args.length cap3] 25)).cell? ⟨w.heap.size + 1, 0, none⟩ = some (.slice ar3 l3.length cr3) := by rw [cell_of_row _ _ _ _ _ _ hv4]; rfl
        have e1 : (w3.alloc (.cells #[.int .i64 m.id, .string m.name, .string m.typ, .string m.ex, .string m.key, .string m.text, .int .i64 m.code, .int .i64 m.count, .int .u64 m.tag, .bool m.flag, .bool m.back, .slice a3 m.args.length cap3] 25)).cell? ⟨w.heap.size + 1, 1, none⟩ = some (.bool bad3) := by rw [cell_of_row _ _ _ _ _ _ hv4]; rfl
        have hA : MeAt (w3.alloc (.cells #[.int .i64 m.id, .string m.name, .string m.typ, .string m.ex, .string m.key, .string m.text, .int .i64 m.code, .int .i64 m.count, .int .u64 m.tag, .bool m.flag, .bool m.back, .slice a3 m.args.length cap3] 25)) w.heap.size (Me.of 0) none 0 := HRES3.out.keep (Below.heap_alloc w3 _ _ HRES3.out.lt)
        obtain ⟨⟨d0, d1, d2, d3, d4, d5⟩, d6, d7, d8, d9, d10, d11⟩ := hA.cells
        have hf := hA.frozen
        have f0 := hf 0
        have f1 := hf 1
        have f2 := hf 2
        have f3 := hf 3
        have f4 := hf 4
        have f5 := hf 5
        have f6 := hf 6
        have f7 := hf 7
        have f8 := hf 8
        have f9 := hf 9
        have f10 := hf 10
        have f11 := hf 11
        have hM : MeAt (w3.alloc (.cells #[.int .i64 m.id, .string m.name, .string m.typ, .string m.ex, .string m.key, .string m.text, .int .i64 m.code, .int .i64 m.count, .int .u64 m.tag, .bool m.flag, .bool m.back, .slice a3 m.args.length cap3] 25)) w3.heap.size m a3 cap3 := heap_alloc_new w3 _
        obtain ⟨⟨g0, g1, g2, g3, g4, g5⟩, g6, g7, g8, g9, g10, g11⟩ := hM.cells
        have HLT := Lib.hid hlt3
        clear hf hvr3 hl3 hm3 hv4 hA hM hz2 hz3 hRl hzW hlc hcm hmr hdi hlt3
        have hno : (bad3 = true ∨ ¬ l3 = []) → ∀ m2, Good m2 → putM m2 = b → False := by
          intro hbad m2 hg2 hput
          obtain ⟨pl2, k1, k2, k3, k4⟩ := putM_head m2 hg2
          rw [hput] at k2 k3 k4
          have k5 := k2.2.2
          rw [HHD.out.2.2] at k5
          obtain rfl := Option.some.inj k5
          have k6 := (mayM_iff k1).1 hg2.may
          have k7 : bad3 = false := HST.out.app m2 [] k6.1 hg2.wf hg2.few (fun _ => rfl) (by rw [List.append_nil]; exact k4)
          obtain ⟨_, k8, k9, k10⟩ := HST.out.ok k7
          rw [List.take_length] at k8 k9
          rcases hbad with h | h
          · rw [k7] at h; cases h
          · have k11 := k4.symm.trans k8
            have k12 := encL_app (x := []) hg2.wf HST.out.wf hg2.few k10 k6.1 k9 (by rw [List.append_nil]; exact k11)
            exact h k12.2.symm
        have hyes : bad3 = false → l3 = [] → Good m ∧ putM m = b := by
          intro h1 h2
          obtain ⟨_, k8, k9, k10⟩ := HST.out.ok h1
          have hpm : partsOf m.id = some pl := by rw [HST.out.id_]; exact HP.out
          rw [List.take_length] at k8 k9
          refine ⟨⟨(mayM_iff hpm).2 ⟨k9, fun p hp => HST.out.no p (by rw [List.take_length]; exact hp)⟩, HST.out.wf, k10⟩, ?_⟩
          rw [putM_eq hpm, head_of HHD.out, HST.out.id_, HI2.out, k8, h2, List.append_nil]
        have HNO := Lib.hid hno
        have HYES := Lib.hid hyes
        clear hno hyes
        unfold meC
        cases bad3
        · cases l3 with
          | nil =>
            go_wp2_with fail
            have HB4 : Below w.heap.size w (w3.alloc (.cells #[.int .i64 m.id, .string m.name, .string m.typ, .string m.ex, .string m.key, .string m.text, .int .i64 m.code, .int .i64 m.count, .int .u64 m.tag, .bool m.flag, .bool m.back, .slice a3 m.args.length cap3] 25)) := HB3.out.alloc (by have := HLT.out; omega) _
            have hk4 : ∀ b, b < w3.heap.size → (w3.alloc (.cells #[.int .i64 m.id, .string m.name, .string m.typ, .string m.ex, .string m.key, .string m.text, .int .i64 m.code, .int .i64 m.count, .int .u64 m.tag, .bool m.flag, .bool m.back, .slice a3 m.args.length cap3] 25)).heap[b]? = w3.heap[b]? := fun b hb => Below.heap_alloc w3 _ b hb
            have hz4 : w3.heap.size ≤ (w3.alloc (.cells #[.int .i64 m.id, .string m.name, .string m.typ, .string m.ex, .string m.key, .string m.text, .int .i64 m.code, .int .i64 m.count, .int .u64 m.tag, .bool m.flag, .bool m.back, .slice a3 m.args.length cap3] 25)).heap.size := by simp
            clear g0 g1 g2 g3 g4 g5 g6 g7 g8 g9 g10 g11 e0 e1
            generalize (w3.alloc (.cells #[.int .i64 m.id, .string m.name, .string m.typ, .string m.ex, .string m.key, .string m.text, .int .i64 m.code, .int .i64 m.count, .int .u64 m.tag, .bool m.flag, .bool m.back, .slice a3 m.args.length cap3] 25)) = w4 at *
            have HB4' := Lib.hid HB4
            have HK4 := Lib.hid hk4
            have HZ4 := Lib.hid hz4
            clear HB4 hk4 hz4
            refine bodyPost_ret (v := .tuple #[.agg #[.int .i64 m.id, .string m.name, .string m.typ, .string m.ex, .string m.key, .string m.text, .int .i64 m.code, .int .i64 m.count, .int .u64 m.tag, .bool m.flag, .bool m.back, .slice a3 m.args.length cap3], .int .i64 0]) (by simp [results, Try.results64, go_sem, *]) rfl ?_
            obtain ⟨hg, hput⟩ := HYES.out (by trivial) (by trivial)
            have hbs : ∀ x ∈ bs3, w.heap.size < x ∧ x < w3.heap.size := fun x hx => by
              have h1 := HST.out.own.2 x hx
              have h2 := HB2.out.size
              exact ⟨by omega, h1.2.1⟩
            refine ⟨?_, .inr (.inr ⟨m, a3, cap3, bs3, hg, hput, rfl, HST.out.sl.keep fun x hx => ?_, (HST.out.own.mono (by have := HB2.out.size; omega)).keep (fun x hx => ?_) ?_⟩)⟩
            · iterate 12 refine set_below ?_
              exact HB4'.out
            · have h1 := hbs x hx
              iterate 12 rw [Below.heap_setCell _ _ _ _ (by show x ≠ w.heap.size; omega)]
              exact HK4.out x h1.2
            · have h1 := hbs x hx
              iterate 12 rw [Below.heap_setCell _ _ _ _ (by show x ≠ w.heap.size; omega)]
              exact HK4.out x h1.2
            · simp only [set_size]
              exact HZ4.out
          | cons x r =>
            have hx : (0 : Int) < ((x :: r).length : Int) := by rw [List.length_cons]; omega
            go_wp2_with fail
            have HB4 : Below w.heap.size w (w3.alloc (.cells #[.int .i64 m.id, .string m.name, .string m.typ, .string m.ex, .string m.key, .string m.text, .int .i64 m.code, .int .i64 m.count, .int .u64 m.tag, .bool m.flag, .bool m.back, .slice a3 m.args.length cap3] 25)) := HB3.out.alloc (by have := HLT.out; omega) _
            have hk4 : ∀ b, b < w3.heap.size → (w3.alloc (.cells #[.int .i64 m.id, .string m.name, .string m.typ, .string m.ex, .string m.key, .string m.text, .int .i64 m.code, .int .i64 m.count, .int .u64 m.tag, .bool m.flag, .bool m.back, .slice a3 m.args.length cap3] 25)).heap[b]? = w3.heap[b]? := fun b hb => Below.heap_alloc w3 _ b hb
            have hz4 : w3.heap.size ≤ (w3.alloc (.cells #[.int .i64 m.id, .string m.name, .string m.typ, .string m.ex, .string m.key, .string m.text, .int .i64 m.code, .int .i64 m.count, .int .u64 m.tag, .bool m.flag, .bool m.back, .slice a3 m.args.length cap3] 25)).heap.size := by simp
            clear g0 g1 g2 g3 g4 g5 g6 g7 g8 g9 g10 g11 e0 e1
            generalize (w3.alloc (.cells #[.int .i64 m.id, .string m.name, .string m.typ, .string m.ex, .string m.key, .string m.text, .int .i64 m.code, .int .i64 m.count, .int .u64 m.tag, .bool m.flag, .bool m.back, .slice a3 m.args.length cap3] 25)) = w4 at *
            have HB4' := Lib.hid HB4
            have HK4 := Lib.hid hk4
            have HZ4 := Lib.hid hz4
            clear HB4 hk4 hz4
            refine bodyPost_ret (v := .tuple #[.agg #[.int .i64 0, .string ⟨#[]⟩, .string ⟨#[]⟩, .string ⟨#[]⟩, .string ⟨#[]⟩, .string ⟨#[]⟩, .int .i64 0, .int .i64 0, .int .u64 0, .bool false, .bool false, .slice none 0 0], .int .i64 502]) (by simp [results, Try.results64, go_sem, *]) rfl ?_
            refine ⟨?_, .inl ⟨rfl, .inr ⟨pl, HHD.out⟩, HNO.out (.inr (by simp))⟩⟩
            iterate 12 refine set_below ?_
            exact HB4'.out
        · go_wp2_with fail
          have HB4 : Below w.heap.size w (w3.alloc (.cells #[.int .i64 m.id, .string m.name, .string m.typ, .string m.ex, .string m.key, .string m.text, .int .i64 m.code, .int .i64 m.count, .int .u64 m.tag, .bool m.flag, .bool m.back, .slice a3 m.args.length cap3] 25)) := HB3.out.alloc (by have := HLT.out; omega) _
          have hk4 : ∀ b, b < w3.heap.size → (w3.alloc (.cells #[.int .i64 m.id, .string m.name, .string m.typ, .string m.ex, .string m.key, .string m.text, .int .i64 m.code, .int .i64 m.count, .int .u64 m.tag, .bool m.flag, .bool m.back, .slice a3 m.args.length cap3] 25)).heap[b]? = w3.heap[b]? := fun b hb => Below.heap_alloc w3 _ b hb
          have hz4 : w3.heap.size ≤ (w3.alloc (.cells #[.int .i64 m.id, .string m.name, .string m.typ, .string m.ex, .string m.key, .string m.text, .int .i64 m.code, .int .i64 m.count, .int .u64 m.tag, .bool m.flag, .bool m.back, .slice a3 m.args.length cap3] 25)).heap.size := by simp
          clear g0 g1 g2 g3 g4 g5 g6 g7 g8 g9 g10 g11 e0 e1
          generalize (w3.alloc (.cells #[.int .i64 m.id, .string m.name, .string m.typ, .string m.ex, .string m.key, .string m.text, .int .i64 m.code, .int .i64 m.count, .int .u64 m.tag, .bool m.flag, .bool m.back, .slice a3 m.args.length cap3] 25)) = w4 at *
          have HB4' := Lib.hid HB4
          have HK4 := Lib.hid hk4
          have HZ4 := Lib.hid hz4
          clear HB4 hk4 hz4
          refine bodyPost_ret (v := .tuple #[.agg #[.int .i64 0, .string ⟨#[]⟩, .string ⟨#[]⟩, .string ⟨#[]⟩, .string ⟨#[]⟩, .string ⟨#[]⟩, .int .i64 0, .int .i64 0, .int .u64 0, .bool false, .bool false, .slice none 0 0], .int .i64 502]) (by simp [results, Try.results64, go_sem, *]) rfl ?_
          refine ⟨?_, .inl ⟨rfl, .inr ⟨pl, HHD.out⟩, HNO.out (.inl (by trivial))⟩⟩
          iterate 12 refine set_below ?_
          exact HB4'.out

end Go.Proofs.Ytjnnpgmgjdhfjaa

namespace Go.Proofs.Ytjnnpgmgjdhfjaa
open Go.RowKit
set_option linter.unusedVariables false

theorem putM_le {m : Me} (h : Good m) : (putM m).length ≤ 20000 := by
  obtain ⟨l, hl, _⟩ := h.may
  have h1 := (partsOf_some hl).1
  have h2 := encL_le h.few (l := l) (fun p _ => mayM_all h.may p)
  rw [putM_eq hl, List.length_append, headM_length]
  omega
/-- Put of a call that may be. -/
theorem put_good {m : Me} {w : World} {e : Ending} {w' : World} (hg : Good m) (h : PutMR m w e w') :
    Below w.heap.size w w' ∧ ∃ g cap, e = .returned (.tuple #[.slice (some ⟨g, 0, none⟩) (putM m).length cap, .int .i64 0]) ∧ w.heap.size ≤ g ∧ Bytes1 w' g cap (putM m) := by
  obtain ⟨hb, h⟩ := h
  refine ⟨hb, ?_⟩
  rcases h with ⟨h, _⟩ | ⟨_, h, _⟩ | ⟨_, v, h3, h4⟩
  · exact absurd hg.may h
  · have := hg.few; omega
  · obtain ⟨g, cap, rfl, hg2, hb1⟩ := h4.bytes1 (by have := putM_short m hg; omega)
    exact ⟨g, cap, h3, hg2, hb1⟩
/-- .. of one that may not. -/
theorem put_bad {m : Me} {w : World} {e : Ending} {w' : World} (hn : ¬ MayM m) (h : PutMR m w e w') : Below w.heap.size w w' ∧ e = .returned (.tuple #[.slice none 0 0, .int .i64 1]) := by
  obtain ⟨hb, h⟩ := h
  refine ⟨hb, ?_⟩
  rcases h with ⟨_, h⟩ | ⟨h, _⟩ | ⟨h, _⟩
  · exact h
  · exact absurd h hn
  · exact absurd h.may hn
/-- Put, in two. -/
theorem putM_two {m : Me} {w : World} {e : Ending} {w' : World} (h : PutMR m w e w') :
    Below w.heap.size w w' ∧ ((∃ c : Int, e = .returned (.tuple #[.slice none 0 0, .int .i64 c]) ∧ (c == 0) = false ∧ ¬ c = 0) ∨
      (Good m ∧ ∃ g cap, e = .returned (.tuple #[.slice (some ⟨g, 0, none⟩) (putM m).length cap, .int .i64 0]) ∧ w.heap.size ≤ g ∧ Bytes1 w' g cap (putM m))) := by
  have h0 := h
  obtain ⟨hb, h⟩ := h
  refine ⟨hb, ?_⟩
  rcases h with ⟨_, h⟩ | ⟨_, _, h⟩ | ⟨hg, _⟩
  · exact .inl ⟨1, h, by decide, by decide⟩
  · exact .inl ⟨502, h, by decide, by decide⟩
  · exact .inr ⟨hg, (put_good hg h0).2⟩
/-- Get of a call's bytes. -/
theorem get_good {m : Me} {w : World} {e : Ending} {w' : World} (hg : Good m) (h : GetMR (putM m) w e w') :
    Below w.heap.size w w' ∧ ∃ a cap bs, e = .returned (.tuple #[.agg (meC m a cap), .int .i64 0]) ∧ SlAt w' bs a cap m.args ∧ Own w' w.heap.size bs := by
  obtain ⟨hb, h⟩ := h
  refine ⟨hb, ?_⟩
  rcases h with ⟨_, _, h⟩ | ⟨_, _, h⟩ | ⟨m2, a, cap, bs, g1, g2, g3, g4, g5⟩
  · exact (h m hg rfl).elim
  · obtain ⟨pl, _, k, _⟩ := putM_head m hg
    exact (h pl k).elim
  · obtain rfl := putM_inj g1 hg g2
    exact ⟨a, cap, bs, g3, g4, g5⟩
/-- Get of what is no call's bytes, though its head is one's, or it is too short. -/
theorem get_syn {b : List UInt8} {w : World} {e : Ending} {w' : World} (hn : ∀ m, Good m → putM m = b → False) (hh : b.length < 4 ∨ ∃ pl, HeadOk b pl) (h : GetMR b w e w') :
    Below w.heap.size w w' ∧ e = .returned (.tuple #[.agg (meC (Me.of 0) none 0), .int .i64 502]) := by
  obtain ⟨hb, h⟩ := h
  refine ⟨hb, ?_⟩
  rcases h with ⟨h, _⟩ | ⟨_, h4, h⟩ | ⟨m2, a, cap, bs, g1, g2, g3, g4, g5⟩
  · exact h
  · rcases hh with hh | ⟨pl, hh⟩
    · omega
    · exact (h pl hh).elim
  · exact (hn m2 g1 g2).elim
/-- Get of four bytes that are no call's head. -/
theorem get_cmd {b : List UInt8} {w : World} {e : Ending} {w' : World} (h4 : 4 ≤ b.length) (hh : ∀ pl, ¬ HeadOk b pl) (h : GetMR b w e w') :
    Below w.heap.size w w' ∧ e = .returned (.tuple #[.agg (meC (Me.of 0) none 0), .int .i64 503]) := by
  obtain ⟨hb, h⟩ := h
  refine ⟨hb, ?_⟩
  rcases h with ⟨_, h, _⟩ | ⟨h, _⟩ | ⟨m2, a, cap, bs, g1, g2, g3, g4, g5⟩
  · rcases h with h | ⟨pl, h⟩
    · omega
    · exact (hh pl h).elim
  · exact h
  · obtain ⟨pl, _, k, _⟩ := putM_head m2 g1
    rw [g2] at k
    exact (hh pl k).elim

/-- bytes written out. -/
theorem lit_in {w : World} {g : Nat} {l : List UInt8} (h : w.heap[g]? = some (.cells (cellsOf l).toArray 5 (0, 0))) (hl : l.length ≤ 1000) : BytesIn w.heap.size w (.slice (some ⟨g, 0, none⟩) l.length l.length) l := by
  refine ⟨_, _, rfl, Nat.le_refl _, by unfold maxLen; omega, fun h0 => ⟨g, 0, rfl, (Array.getElem?_eq_some_iff.1 h).1, fun i hi => ?_⟩⟩
  rw [cell_of_row w _ _ _ _ _ h]
  simp [cellsOf, List.getElem?_eq_getElem hi]

end Go.Proofs.Ytjnnpgmgjdhfjaa
