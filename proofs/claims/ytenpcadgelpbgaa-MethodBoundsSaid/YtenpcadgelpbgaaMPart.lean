/-
  package method's reader: part, parts, walked.
-/
import Derived.Test.YtenpcadgelpbgaaMGet
import Derived.Test.YtenpcadgelpbgaaMParts
import Derived.Test.YtenpcadgelpbgaaMLtr
namespace Go.Proofs.Ytenpcadgelpbgaa
open Go.RowKit
set_option linter.unusedVariables false
variable {B : Nat}

theorem Me.set_wf {m : Me} (h : m.Wf) (p : Pt) {v : Nat} (hv : v < 18446744073709551616) : (m.set p v).Wf := by
  obtain ⟨h0, h1, h2, h3, h4, h5, h6, h7, h8, h9⟩ := h
  have s64 : -9223372036854775808 ≤ sgn64 v ∧ sgn64 v ≤ 9223372036854775807 := by unfold sgn64; split <;> omega
  cases p
  case c => exact ⟨h0, h1, h2, h3, h4, h5, s64, h7, h8, h9⟩
  case u => exact ⟨h0, h1, h2, h3, h4, h5, h6, s64, h8, h9⟩
  case t => exact ⟨h0, h1, h2, h3, h4, h5, h6, h7, hv, h9⟩
  all_goals exact ⟨h0, h1, h2, h3, h4, h5, h6, h7, h8, h9⟩
theorem Me.lay_wf {m : Me} (h : m.Wf) (p : Pt) {s : ByteArray} (hs : s.size ≤ maxLen) : (m.lay p s).Wf := by
  obtain ⟨h0, h1, h2, h3, h4, h5, h6, h7, h8, h9⟩ := h
  cases p
  case n => exact ⟨h0, hs, h2, h3, h4, h5, h6, h7, h8, h9⟩
  case y => exact ⟨h0, h1, hs, h3, h4, h5, h6, h7, h8, h9⟩
  case e => exact ⟨h0, h1, h2, hs, h4, h5, h6, h7, h8, h9⟩
  case k => exact ⟨h0, h1, h2, h3, hs, h5, h6, h7, h8, h9⟩
  case x => exact ⟨h0, h1, h2, h3, h4, hs, h6, h7, h8, h9⟩
  all_goals exact ⟨h0, h1, h2, h3, h4, h5, h6, h7, h8, h9⟩
theorem Me.set_put (m : Me) {p : Pt} (hp : p.isT = false) (ha : p ≠ .a) (v : Nat) : m.set p v = m.put p (m.set p v) := by
  cases p <;> first | rfl | exact absurd rfl ha | cases hp
theorem Me.lay_put (m : Me) {p : Pt} (hp : p.isT = true) (s : ByteArray) : m.lay p s = m.put p (m.lay p s) := by
  cases p <;> first | rfl | cases hp
theorem Me.set_args (m : Me) (p : Pt) (v : Nat) : (m.set p v).args = m.args := by cases p <;> rfl
theorem Me.lay_args (m : Me) (p : Pt) (s : ByteArray) : (m.lay p s).args = m.args := by cases p <;> rfl
theorem Me.lay_str (m : Me) {p : Pt} (hp : p.isT = true) (s : ByteArray) : (m.lay p s).str p = s := by cases p <;> first | rfl | cases hp

theorem Two.own {w w' : World} {gm gr base : Nat} {bs : List Nat} (h : Two w w' gm gr) (ho : Own w base bs) (hm : gm < base) (hr : gr < base) : ∀ b ∈ bs, w'.heap[b]? = w.heap[b]? := fun b hb => by
  have := ho.2 b hb
  exact h.block b this.2.1 (by omega) (by omega)

/-- what reading a part leaves. -/
def PartQ (T : TypeId) (B gm gr : Nat) (m : Me) (p : Pt) (l : List UInt8) (bad : Bool) (w : World) (e : Ending) (w' : World) : Prop :=
  e = .returned (.tuple #[]) ∧ ∃ (m' : Me) (a : Option Addr) (cap : Nat) (bs : List Nat) (l' : List UInt8) (bad' : Bool), MeAt w' gm m' a cap ∧ SlAt w' bs a cap m'.args ∧ Own w' (gm + 1) bs ∧ m'.Wf ∧ m' = m.put p m' ∧
    Rd T B w' gr l' bad' ∧ Two w w' gm gr ∧ l'.length ≤ l.length ∧
    (bad' = false → bad = false ∧ l = m'.enc p ++ l' ∧ m'.MayP p ∧ (p = .a → (putT m'.args).length ≤ 3000)) ∧
    (∀ (m2 : Me) (r : List UInt8), m2.MayP p → m2.Wf → (p = .a → r = [] ∧ (putT m2.args).length ≤ 3000) → l = m2.enc p ++ r → bad' = bad)

/-- a number's bytes, read. -/
theorem num_ok {m : Me} {p : Pt} {l : List UInt8} {bad : Bool} (hp : p.isT = false) (ha : p ≠ .a)
    (h : (bad || (numP p.size l).2.2 || !((m.set p (numP p.size l).1).num p == (numP p.size l).1)) = false) :
    bad = false ∧ l = (m.set p (numP p.size l).1).enc p ++ (numP p.size l).2.1 ∧ (m.set p (numP p.size l).1).MayP p := by
  simp only [Bool.or_eq_false_iff, Bool.not_eq_false', beq_iff_eq] at h
  obtain ⟨⟨h1, h2⟩, h3⟩ := h
  obtain ⟨h4, h5⟩ := numP_ok h2
  refine ⟨h1, ?_, ?_⟩
  · rw [Me.enc_num _ hp ha, h3]
    exact h4
  · have h6 := h3
    revert h5 h6
    generalize (numP p.size l).1 = v
    intro h5 h6
    cases p <;> first | exact absurd rfl ha | (cases hp; done) | exact trivial | skip
    all_goals
      simp only [Me.num] at h6
      simp only [Me.MayP, h6]
      simpa [Pt.size] using h5
theorem num_app {m m2 : Me} {p : Pt} {r : List UInt8} {bad : Bool} (hp : p.isT = false) (ha : p ≠ .a) (h : m2.MayP p) (hw : m2.Wf) :
    (bad || (numP p.size (m2.enc p ++ r)).2.2 || !((m.set p (numP p.size (m2.enc p ++ r)).1).num p == (numP p.size (m2.enc p ++ r)).1)) = bad := by
  have h1 := numP_app p.size (m2.num p) r
  rw [← Me.enc_num m2 hp ha] at h1
  have hv : m2.num p < 256 ^ p.size := by
    have b1 := bitN_le m2.flag
    have b2 := bitN_le m2.back
    cases p <;> first | exact absurd rfl ha | (cases hp; done) | skip
    all_goals
      simp only [Me.MayP] at h
      simp only [Me.num, Pt.size]
      omega
  rw [Nat.mod_eq_of_lt hv] at h1
  rw [h1]
  have h2 := Me.set_num (m := m) hp ha (Me.num_lt hw p)
  simp only [Bool.or_false]
  rw [h2]
  have b1 := bitN_le m2.flag
  have b2 := bitN_le m2.back
  cases p <;> first | exact absurd rfl ha | (cases hp; done) | skip
  · simp
  · simp
  · simp
  · have : m2.num .f = 0 ∨ m2.num .f = 1 := by simp only [Me.num]; omega
    rcases this with h | h <;> simp [h]
  · have : m2.num .b = 0 ∨ m2.num .b = 1 := by simp only [Me.num]; omega
    rcases this with h | h <;> simp [h]

set_option maxRecDepth 100000 in
set_option maxHeartbeats 4000000 in
theorem part_num {w : World} {gm gr : Nat} {m : Me} {a : Option Addr} {cap : Nat} {bs : List Nat} {l : List UInt8} {bad : Bool} (hm : MeAt w gm m a cap) (hs : SlAt w bs a cap m.args) (ho : Own w (gm + 1) bs) (wf : m.Wf) (hr : Rd 59 B w gr l bad)
    (hB : B ≤ gr) (hlt : gr < gm) (p : Pt) (hp : p.isT = false) (ha : p ≠ .a) (c : Int) (hc : c = p.byte.toNat) (hc97 : (c == 97) = false) :
    Calls Try.prog 48 #[.pointer (some ⟨gr, 0, none⟩), .pointer (some ⟨gm, 0, none⟩), .int .u8 c] w (PartQ 59 B gm gr m p l bad w) := by
  have HM := Lib.hid hm
  have HS := Lib.hid hs
  have HO := Lib.hid ho
  have HR := Lib.hid hr
  have HC := Lib.hid hc
  clear hm hs ho hr hc
  go_enter Try.func48, Try.ntmps48
  go_wp2_with fail
  rw [HC.out]
  refine (text_no gm p hp _).mono ?_
  rintro e w1 ⟨rfl, rfl⟩
  go_wp2_with fail
  try rw [HC.out]
  refine (nf_any HM.out HR.out (by omega) hB (by omega) p hp ha).mono ?_
  rintro e w1 ⟨rfl, hm1, ⟨bad', hr1, hbad⟩, htw⟩
  go_wp2_with fail
  go_returns
  have hk := htw.own HO.out (by omega) (by omega)
  have hv : (numP p.size l).1 < 18446744073709551616 := numP_lt64 _ (by cases p <;> decide) l
  refine ⟨rfl, m.set p (numP p.size l).1, a, cap, bs, _, bad', hm1, by rw [Me.set_args]; exact HS.out.keep hk, HO.out.keep hk htw.size, Me.set_wf wf p hv, Me.set_put m hp ha _, hr1, htw, numP_le _ _, fun h => ?_, fun m2 r h1 h2 h3 h4 => ?_⟩
  · rw [h] at hbad
    obtain ⟨q1, q2, q3⟩ := num_ok hp ha hbad.symm
    exact ⟨q1, q2, q3, fun e => absurd e ha⟩
  · rw [hbad, h4]
    exact num_app hp ha h1 h2

set_option maxRecDepth 100000 in
set_option maxHeartbeats 4000000 in
theorem part_str {w : World} {gm gr : Nat} {m : Me} {a : Option Addr} {cap : Nat} {bs : List Nat} {l : List UInt8} {bad : Bool} (hm : MeAt w gm m a cap) (hs : SlAt w bs a cap m.args) (ho : Own w (gm + 1) bs) (wf : m.Wf) (hr : Rd 59 B w gr l bad)
    (hB : B ≤ gr) (hlt : gr < gm) (p : Pt) (hp : p.isT = true) (c : Int) (hc : c = p.byte.toNat) (hc97 : (c == 97) = false) :
    Calls Try.prog 48 #[.pointer (some ⟨gr, 0, none⟩), .pointer (some ⟨gm, 0, none⟩), .int .u8 c] w (PartQ 59 B gm gr m p l bad w) := by
  have hgm := hm.lt
  have HM := Lib.hid hm
  have HS := Lib.hid hs
  have HO := Lib.hid ho
  have HR := Lib.hid hr
  have HC := Lib.hid hc
  clear hm hs ho hr hc
  go_enter Try.func48, Try.ntmps48
  go_wp2_with fail
  rw [HC.out]
  refine (text_yes gm p hp _).mono ?_
  rintro e w1 ⟨rfl, rfl⟩
  go_wp2_with fail
  refine (counted_any gr 1 (by decide) l bad _ HR.out).mono ?_
  rintro e w1 ⟨v1, rfl, ⟨a1, c1, rfl, hlc1, hcm1, hat1⟩, hr1, hg1⟩
  have hcv := conv_str c1 hat1
  have hm1 := HM.out.keep (hg1.block gm hgm (by simp; omega))
  have hcell : ∃ u, w1.cell? ⟨gm, p.off, none⟩ = some u := by
    obtain ⟨⟨x0, x1, x2, x3, x4, x5⟩, x6, x7, x8, x9, x10, x11⟩ := hm1.cells
    cases p <;> exact ⟨_, by assumption⟩
  obtain ⟨u, hu⟩ := hcell
  have hfr := hm1.frozen p.off
  have HM1 := Lib.hid hm1
  have HR1 := Lib.hid hr1
  have HG1 := Lib.hid hg1
  clear hm1 hr1 hg1 hat1
  go_wp2_with fail
  go_returns
  have htw := (Two.right HG1.out gm).trans (Two.left (set_grown w1 gm p.off (.string ⟨(cntP 1 l).1.toArray⟩)) gr)
  have hk := htw.own HO.out (by omega) (by omega)
  have hsz : (ByteArray.mk (cntP 1 l).1.toArray).size = (cntP 1 l).1.length := rfl
  have hml : (ByteArray.mk (cntP 1 l).1.toArray).size ≤ maxLen := by rw [hsz]; omega
  have hrl := HR1.out.lt
  refine ⟨rfl, m.lay p ⟨(cntP 1 l).1.toArray⟩, a, cap, bs, _, _, ?_, by rw [Me.lay_args]; exact HS.out.keep hk, HO.out.keep hk htw.size, Me.lay_wf wf p hml, Me.lay_put m hp _,
    HR1.out.frame (fun b hb => Below.heap_setCell _ _ _ _ (by simp; omega)) (Below.heap_setCell _ _ _ _ (by simp; omega)), htw, (cntP_le _ _).1, fun h => ?_, fun m2 r h1 h2 h3 h4 => ?_⟩
  · unfold MeAt
    rw [set_heap HM1.out]
    cases p <;> first | rfl | cases hp
  · simp only [Bool.or_eq_false_iff] at h
    obtain ⟨q1, q2⟩ := cntP_ok h.2
    refine ⟨h.1, ?_, ?_, fun e => by subst e; cases hp⟩
    · rw [Me.enc_str _ hp, Me.lay_str _ hp, hsz, List.append_assoc]
      exact q1
    · rw [Me.may_str _ hp, Me.lay_str _ hp, hsz]
      omega
  · rw [Me.may_str _ hp] at h1
    rw [Me.enc_str _ hp, List.append_assoc] at h4
    have h5 := cntP_app (k := 1) (c := (m2.str p).data.toList) r (by rw [size_toList]; omega)
    rw [size_toList, ← h4] at h5
    rw [h5]
    simp

set_option maxRecDepth 100000 in
set_option maxHeartbeats 4000000 in
theorem part_a {w : World} {gm gr : Nat} {m : Me} {a : Option Addr} {cap : Nat} {l : List UInt8} {bad : Bool} (hm : MeAt w gm m a cap) (wf : m.Wf) (hr : Rd 59 B w gr l bad)
    (hB : B ≤ gr) (hlt : gr < gm) :
    Calls Try.prog 48 #[.pointer (some ⟨gr, 0, none⟩), .pointer (some ⟨gm, 0, none⟩), .int .u8 97] w (PartQ 59 B gm gr m .a l bad w) := by
  have hgm := hm.lt
  have HM := Lib.hid hm
  have HR := Lib.hid hr
  clear hm hr
  go_enter Try.func48, Try.ntmps48
  go_wp2_with fail
  refine (tableM_any gr l bad _ (by omega) HR.out).mono ?_
  rintro e w1 ⟨its, a1, cap1, bs1, bad', rfl, hs1, ho1, hr1, hg1, hok, happ⟩
  have hm1 := HM.out.keep (hg1.block gm hgm (by simp; omega))
  have hu := hm1.cells.2.2.2.2.2.2
  have hfr := hm1.frozen 11
  have HM1 := Lib.hid hm1
  have HS1 := Lib.hid hs1
  have HO1 := Lib.hid ho1
  have HR1 := Lib.hid hr1
  have HG1 := Lib.hid hg1
  have HOK := Lib.hid hok
  have HAPP := Lib.hid happ
  clear hm1 hs1 ho1 hr1 hg1 hok happ
  go_wp2_with fail
  go_returns
  have htw := (Two.right HG1.out gm).trans (Two.left (set_grown w1 gm 11 (.slice a1 its.length cap1)) gr)
  have hk : ∀ b ∈ bs1, (w1.setCell ⟨gm, 11, none⟩ (.slice a1 its.length cap1)).heap[b]? = w1.heap[b]? := fun b hb => Below.heap_setCell _ _ _ _ (by have := (HO1.out.2 b hb).1; simp; omega)
  have hrl := HR1.out.lt
  refine ⟨rfl, { m with args := its }, a1, cap1, bs1, _, bad', ?_, HS1.out.keep hk, (HO1.out.mono (by omega)).keep hk (by simp [World.setCell]), ?_, rfl,
    HR1.out.frame (fun b hb => Below.heap_setCell _ _ _ _ (by simp; omega)) (Below.heap_setCell _ _ _ _ (by simp; omega)), htw, by simp, fun h => ?_, fun m2 r h1 h2 h3 h4 => ?_⟩
  · unfold MeAt
    rw [set_heap HM1.out]
    rfl
  · obtain ⟨h0, h1, h2, h3, h4, h5, h6, h7, h8, h9⟩ := wf
    exact ⟨h0, h1, h2, h3, h4, h5, h6, h7, h8, Tb.fits ⟨_, HS1.out⟩⟩
  · obtain ⟨q1, q2, q3, q4⟩ := HOK.out h
    exact ⟨q1, by rw [List.append_nil]; exact q3.symm, q2, fun _ => by rw [show putT ({ m with args := its } : Me).args = l from q3]; exact q4⟩
  · obtain ⟨rfl, h5⟩ := h3 rfl
    rw [List.append_nil] at h4
    exact HAPP.out m2.args h1 h2.fits h4.symm (by rw [h4]; exact h5)

theorem part_any {w : World} {gm gr : Nat} {m : Me} {a : Option Addr} {cap : Nat} {bs : List Nat} {l : List UInt8} {bad : Bool} (hm : MeAt w gm m a cap) (hs : SlAt w bs a cap m.args) (ho : Own w (gm + 1) bs) (wf : m.Wf) (hr : Rd 59 B w gr l bad)
    (hB : B ≤ gr) (hlt : gr < gm) (p : Pt) :
    Calls Try.prog 48 #[.pointer (some ⟨gr, 0, none⟩), .pointer (some ⟨gm, 0, none⟩), .int .u8 p.byte.toNat] w (PartQ 59 B gm gr m p l bad w) := by
  by_cases ha : p = .a
  · subst ha
    exact part_a hm wf hr hB hlt
  · have h97 : ((p.byte.toNat : Int) == 97) = false := by cases p <;> first | decide | exact absurd rfl ha
    by_cases hp : p.isT = true
    · exact part_str hm hs ho wf hr hB hlt p hp _ rfl h97
    · exact part_num hm hs ho wf hr hB hlt p (by simpa using hp) ha _ rfl h97

end Go.Proofs.Ytenpcadgelpbgaa
