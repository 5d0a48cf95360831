/-
  package method's reader: table, numberOrFlag, part, walked.
-/
import Derived.Test.YtenpcadgelpbgaaMLeaf
import Derived.Test.YtenpcadgelpbgaaGetT
import Derived.Handy
namespace Go.Proofs.Ytenpcadgelpbgaa
open Go.RowKit
set_option linter.unusedVariables false
variable {B : Nat}

/-- two blocks alone have turned. -/
structure Two (w w' : World) (g h : Nat) : Prop where
  os : w'.os = w.os
  tape : w'.tape = w.tape
  output : w'.output = w.output
  size : w.heap.size ≤ w'.heap.size
  block : ∀ k, k < w.heap.size → k ≠ g → k ≠ h → w'.heap[k]? = w.heap[k]?
theorem Two.refl (w : World) (g h : Nat) : Two w w g h := ⟨rfl, rfl, rfl, Nat.le_refl _, fun _ _ _ _ => rfl⟩
theorem Two.left {w w' : World} {g : Nat} (h : w.grownBy w' (some g)) (k : Nat) : Two w w' g k := ⟨h.os, h.tape, h.output, h.size, fun i hi h1 _ => h.block i hi (by simpa using h1)⟩
theorem Two.right {w w' : World} {g : Nat} (h : w.grownBy w' (some g)) (k : Nat) : Two w w' k g := ⟨h.os, h.tape, h.output, h.size, fun i hi _ h1 => h.block i hi (by simpa using h1)⟩
theorem Two.trans {a b c : World} {g h : Nat} (x : Two a b g h) (y : Two b c g h) : Two a c g h :=
  ⟨y.os.trans x.os, y.tape.trans x.tape, y.output.trans x.output, Nat.le_trans x.size y.size, fun k hk h1 h2 => (y.block k (Nat.lt_of_lt_of_le hk x.size) h1 h2).trans (x.block k hk h1 h2)⟩

/-- a table that was read. -/
def TabMP (T : TypeId) (B : Nat) (g : Nat) (l : List UInt8) (bad : Bool) (w : World) (e : Ending) (w' : World) : Prop :=
  ∃ (its : List It) (a : Option Addr) (cap : Nat) (bs : List Nat) (bad' : Bool), e = .returned (.slice a its.length cap) ∧ SlAt w' bs a cap its ∧ Own w' w.heap.size bs ∧ Rd T B w' g [] bad' ∧ w.grownBy w' (some g) ∧
    (bad' = false → bad = false ∧ MayT 1 its ∧ putT its = l ∧ l.length ≤ 3000) ∧ (∀ m, MayT 1 m → Fits m → putT m = l → l.length ≤ 3000 → bad' = bad)


set_option maxRecDepth 100000 in
set_option maxHeartbeats 4000000 in
theorem tableM_any (g : Nat) (l : List UInt8) (bad : Bool) (w : World) (hB : B ≤ w.heap.size) (hr : Rd 59 B w g l bad) :
    Calls Try.prog 57 #[.pointer (some ⟨g, 0, none⟩)] w (TabMP 59 B g l bad w) := by
  have hgl := hr.lt
  have hr0 := hr
  obtain ⟨v, hg, a, cap, rfl, hlc, hcm, hat⟩ := hr0
  have c0 : w.cell? ⟨g, 0, none⟩ = some (.slice a l.length cap) := by rw [cell_of_row w _ _ _ _ _ hg]; rfl
  have HAT := Lib.hid hat
  have HG := Lib.hid hg
  clear hat hg hr
  go_enter Try.func57, Try.ntmps57
  go_wp2_with fail
  refine (get_any (B := B) _ l w hB ⟨a, cap, rfl, hlc, hcm, HAT.out⟩).mono ?_
  rintro e w1 ⟨hb1, h⟩
  have hg1 := (hb1.block g hgl).trans HG.out
  have d0 : w1.cell? ⟨g, 0, none⟩ = some (.slice a l.length cap) := by rw [cell_of_row w1 _ _ _ _ _ hg1]; rfl
  have d1 : w1.cell? ⟨g, 1, none⟩ = some (.bool bad) := by rw [cell_of_row w1 _ _ _ _ _ hg1]; rfl
  have f0 : w1.frozen? ⟨g, 0, none⟩ = false := by simp [World.frozen?, hg1]
  have f1 : w1.frozen? ⟨g, 1, none⟩ = false := by simp [World.frozen?, hg1]
  have hend : ∀ b, Rd 59 B ((w1.setCell ⟨g, 0, none⟩ (.slice none 0 0)).setCell ⟨g, 1, none⟩ (.bool b)) g [] b := fun b => by
    refine ⟨.slice none 0 0, ?_, BytesIn.nil _⟩
    rw [set_heap (set_heap hg1 0 _) 1 _]
    rfl
  have hgr : ∀ b, w.grownBy ((w1.setCell ⟨g, 0, none⟩ (.slice none 0 0)).setCell ⟨g, 1, none⟩ (.bool b)) (some g) := fun b => by
    refine GrownBy.trans (b := w1) ⟨hb1.os, hb1.tape, hb1.output, hb1.size, fun k hk _ => hb1.block k hk⟩ (GrownBy.trans (set_grown _ _ _ _) (set_grown _ _ _ _))
  have HEND := Lib.hid hend
  have HGR := Lib.hid hgr
  clear hend hgr hb1 hg1 c0
  rcases h with ⟨rfl, h⟩ | ⟨its, a2, cap2, bs2, h1, h2, h3, rfl, h5, h6⟩
  · have HN := Lib.hid h
    clear h
    cases bad
    all_goals
      go_wp2_with fail
      go_ret
      exact ⟨[], none, 0, [], true, rfl, SlAt.nil _ _ (by decide), Own.nil _ _, HEND.out true, HGR.out true, (fun h => by cases h), fun m g1 g2 g3 g4 => by first | rfl | exact (HN.out m g1 g2 g3 g4).elim⟩
  · have HS := Lib.hid h5
    have HO := Lib.hid h6
    have H1 := Lib.hid (And.intro h1 (And.intro h2 h3))
    have hne : ∀ b ∈ bs2, b ≠ g := fun b hb => by have := (h6.2 b hb).1; omega
    have HNE := Lib.hid hne
    clear h1 h2 h3 h5 h6 hne
    have hk : ∀ x, ∀ b ∈ bs2, ((w1.setCell ⟨g, 0, none⟩ (.slice none 0 0)).setCell ⟨g, 1, none⟩ (.bool x)).heap[b]? = w1.heap[b]? := fun x b hb => by
      rw [Below.heap_setCell _ _ _ _ (HNE.out b hb), Below.heap_setCell _ _ _ _ (HNE.out b hb)]
    have HK := Lib.hid hk
    clear hk
    cases bad
    · go_wp2_with fail
      go_ret
      exact ⟨its, a2, cap2, bs2, false, rfl, HS.out.keep (HK.out _), HO.out.keep (HK.out _) (by simp [World.setCell]), HEND.out _, HGR.out _, (fun _ => ⟨rfl, H1.out⟩), fun _ _ _ _ _ => rfl⟩
    · go_wp2_with fail
      go_ret
      exact ⟨its, a2, cap2, bs2, true, rfl, HS.out.keep (HK.out _), HO.out.keep (HK.out _) (by simp [World.setCell]), HEND.out _, HGR.out _, (fun h => by cases h), fun _ _ _ _ _ => rfl⟩

theorem Me.set_num {m : Me} {p : Pt} (hp : p.isT = false) (ha : p ≠ .a) {v : Nat} (hv : v < 18446744073709551616) : (m.set p v).num p = (if p = .f ∨ p = .b then (if v = 1 then 1 else 0) else v) := by
  cases p <;> first | exact absurd rfl ha | (cases hp; done) | skip
  · simp [Me.set, Me.num, u64_sgn64 hv]
  · simp [Me.set, Me.num, u64_sgn64 hv]
  · simp [Me.set, Me.num]
  · by_cases h : v = 1 <;> simp [Me.set, Me.num, bitN, h]
  · by_cases h : v = 1 <;> simp [Me.set, Me.num, bitN, h]

def NfQ (T : TypeId) (B gm gr : Nat) (m : Me) (p : Pt) (l : List UInt8) (bad : Bool) (a : Option Addr) (cap : Nat) (w : World) (e : Ending) (w' : World) : Prop :=
  e = .returned (.tuple #[]) ∧ MeAt w' gm (m.set p (numP p.size l).1) a cap ∧ (∃ bad', Rd T B w' gr (numP p.size l).2.1 bad' ∧ bad' = (bad || (numP p.size l).2.2 || !((m.set p (numP p.size l).1).num p == (numP p.size l).1))) ∧ Two w w' gm gr

theorem Rd.set_bad {T : TypeId} {w : World} {g : Nat} {l : List UInt8} {bad : Bool} (h : Rd T B w g l bad) : Rd T B (w.setCell ⟨g, 1, none⟩ (.bool true)) g l true := by
  obtain ⟨v, hv, a, c, rfl, h1, h2, h3⟩ := h
  refine ⟨_, ?_, a, c, rfl, h1, h2, h3.other hv (rd_ne rfl _) (set_grown _ _ _ _)⟩
  rw [set_heap hv]
  rfl
set_option maxRecDepth 100000 in
set_option maxHeartbeats 4000000 in
theorem nf_any {w : World} {gm gr : Nat} {m : Me} {a : Option Addr} {cap : Nat} {l : List UInt8} {bad : Bool} (hm : MeAt w gm m a cap) (hr : Rd 59 B w gr l bad) (hB1 : B ≤ gm) (hB2 : B ≤ gr) (hne : gm ≠ gr) (p : Pt) (hp : p.isT = false) (ha : p ≠ .a) :
    Calls Try.prog 59 #[.pointer (some ⟨gr, 0, none⟩), .pointer (some ⟨gm, 0, none⟩), .int .u8 p.byte.toNat] w (NfQ 59 B gm gr m p l bad a cap w) := by
  have hs8 : p.size ≤ 8 := by cases p <;> decide
  have hgm := hm.lt
  have HM := Lib.hid hm
  have HR := Lib.hid hr
  clear hm hr
  go_enter Try.func59, Try.ntmps59
  go_wp2_with fail
  refine (num_any HM.out p hp ha).mono ?_
  rintro e w1 ⟨rfl, rfl⟩
  go_wp2_with fail
  refine (number_any gr p.size hs8 l bad _ HR.out).mono ?_
  rintro e w1 ⟨rfl, hr1, hg1⟩
  have HM1 := Lib.hid (HM.out.keep (hg1.block gm hgm (by simpa using hne)))
  have HR1 := Lib.hid hr1
  have HG1 := Lib.hid hg1
  have hv := numP_lt64 p.size hs8 l
  clear hr1 hg1
  go_wp2_with fail
  refine (setNum_any HM1.out p hp ha _ hv).mono ?_
  rintro e w2 ⟨rfl, hm2, hg2, hz2⟩
  have hr2 : Rd 59 B w2 gr (numP p.size l).2.1 (bad || (numP p.size l).2.2) := by
    have := HR1.out.lt
    exact HR1.out.frame (fun b hb => hg2.block b (by omega) (by simp; omega)) (hg2.block gr this (by simp; omega))
  have HM2 := Lib.hid hm2
  have HR2 := Lib.hid hr2
  have HTW := Lib.hid ((Two.right HG1.out gm).trans (Two.left hg2 gr))
  clear hm2 hr2 hg2 hz2
  go_wp2_with fail
  refine (num_any HM2.out p hp ha).mono ?_
  rintro e w3 ⟨rfl, rfl⟩
  obtain ⟨V, hV⟩ : ∃ V, V = (m.set p (numP p.size l).1).num p := ⟨_, rfl⟩
  obtain ⟨N, hN⟩ : ∃ N, N = (numP p.size l).1 := ⟨_, rfl⟩
  rw [← hV, ← hN]
  have HV := Lib.hid hV
  have HN := Lib.hid hN
  clear hV hN hv
  by_cases he : V = N
  · have hb : ((V : Int) == (N : Int)) = true := by rw [he]; simp
    have hi : (V : Int) = (N : Int) := by rw [he]
    have HE := Lib.hid he
    clear he
    go_wp2_with fail
    go_returns
    refine ⟨rfl, HM2.out, ⟨_, HR2.out, ?_⟩, HTW.out⟩
    rw [← HV.out, ← HN.out, HE.out]
    simp
  · have hb : ((V : Int) == (N : Int)) = false := by rw [beq_eq_false_iff_ne]; omega
    have hi : ¬ (V : Int) = (N : Int) := by omega
    have HE := Lib.hid he
    obtain ⟨vr, hvr, ar, cr, rfl, h1, h2, h3⟩ := HR2.out
    have f1 : w2.frozen? ⟨gr, 1, none⟩ = false := by simp [World.frozen?, hvr]
    have d1 : w2.cell? ⟨gr, 1, none⟩ = some (.bool (bad || (numP p.size l).2.2)) := by rw [cell_of_row w2 _ _ _ _ _ hvr]; rfl
    clear he hvr h3
    go_wp2_with fail
    go_returns
    refine ⟨rfl, HM2.out.keep (Below.heap_setCell _ _ _ _ hne), ⟨true, HR2.out.set_bad, ?_⟩, HTW.out.trans (Two.right (set_grown _ _ _ _) gm)⟩
    rw [← HV.out, ← HN.out, beq_eq_false_iff_ne.2 HE.out]
    simp

end Go.Proofs.Ytenpcadgelpbgaa
