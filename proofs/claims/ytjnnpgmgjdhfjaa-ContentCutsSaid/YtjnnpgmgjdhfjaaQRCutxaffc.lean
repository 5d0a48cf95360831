/-
  The document's own answer: carrefourref3's PutMethod, of a call without a table that may be.
  The document's own answer: which tables may be: carrefourref3's mayValue, mayTable, MayTable, walked.
  The document's own answer: which tables may be: carrefourref3's mayTable, MayTable, walked.
  The document's own answer: carrefourref3's Cut, walked.
-/
import Derived.Test.YtjnnpgmgjdhfjaaQRPutxfeff
import Derived.Test.YtjnnpgmgjdhfjaaQMPutxfbad
import Derived.Test.YtjnnpgmgjdhfjaaQMPartsxffdf
import Derived.Deep.LoopGhost
namespace Go.Proofs.Ytjnnpgmgjdhfjaa
open Go.RowKit
set_option linter.unusedVariables false

theorem encL_short {m : Me} : ∀ q : List Pt, (∀ p ∈ q, m.MayP p ∧ p ≠ .a) → (encL m q).length ≤ 256 * q.length
  | [], _ => by simp [encL]
  | p :: r, h => by
    have h3 := putTlen m p (h p (by simp)).1 (h p (by simp)).2
    have h4 := encL_short r fun z hz => h z (by simp [hz])
    rw [encL, List.length_append, List.length_cons]
    omega
def rputMRel (W : World) (m : Me) (a : Option Addr) (cap : Nat) (l : List Pt) (n : Nat) (v4 v6 : Value) (wr : World) : Prop :=
  ∃ i : Nat, i ≤ l.length ∧ n = l.length - i ∧ v4 = .string ⟨(headM m.id ++ encL m (l.take i)).toArray⟩ ∧ v6 = .int .i64 i ∧ Below W.heap.size W wr ∧ MeAt wr W.heap.size m a cap

set_option maxRecDepth 100000 in
set_option maxHeartbeats 16000000 in
theorem rputM_any {w : World} {m : Me} {a : Option Addr} {cap : Nat} (ht : Tb w a cap m.args) (wf : m.Wf) {l : List Pt} (hp : partsOf m.id = some l) (hna : .a ∉ l) (hmay : ∀ p ∈ l, m.MayP p)
    (hM : ∀ w1, Below w.heap.size w w1 → Calls Try.prog 25 #[.agg (meC m a cap)] w1 fun e w' => e = .returned (.bool true) ∧ Below w1.heap.size w1 w') :
    Calls Try.prog 28 #[.agg (meC m a cap)] w (fun e w' => e = .returned (.tuple #[.string ⟨(headM m.id ++ encL m l).toArray⟩, .int .i64 0]) ∧ Below w.heap.size w w') := by
  have hs := partsOf_some hp
  obtain ⟨hi1, hi2⟩ : 2010 ≤ m.id ∧ m.id ≤ 9031 := ⟨hs.2.2.2.1, hs.2.2.2.2⟩
  have hl5 := hs.1
  have hb0 : Below w.heap.size w (w.alloc (.cells (meC m a cap) 25)) := (Below.refl _ _).alloc (Nat.le_refl _) _
  have hat : MeAt (w.alloc (.cells (meC m a cap) 25)) w.heap.size m a cap := heap_alloc_new w _
  have HM := Lib.hid hM
  have HB := Lib.hid hb0
  have HAT := Lib.hid hat
  have HMAY := Lib.hid hmay
  have HNA := Lib.hid hna
  have HWF := Lib.hid wf
  obtain ⟨⟨c0, c1, c2, c3, c4, c5⟩, c6, c7, c8, c9, c10, c11⟩ := hat.cells
  have hps : partsStr m.id = ltr l := by unfold partsStr; rw [hp]
  have HP := Lib.hid hps
  clear ht wf hb0 hat hps hp hs hmay hna hM
  obtain ⟨mc, hmc⟩ : ∃ c, c = meC m a cap := ⟨_, rfl⟩
  have HMC := Lib.hid hmc
  rw [← hmc] at HB HAT c0 c1 c2 c3 c4 c5 c6 c7 c8 c9 c10 c11 ⊢
  clear hmc
  obtain ⟨C, hC⟩ : ∃ C : Nat, C = (m.id / 100).toNat := ⟨_, rfl⟩
  obtain ⟨D, hD⟩ : ∃ D : Nat, D = (m.id % 100).toNat := ⟨_, rfl⟩
  have hC1 : C ≤ 91 := by omega
  have hD1 : D ≤ 99 := by omega
  have e1 : m.id.tdiv 100 = (C : Int) := by rw [Int.tdiv_eq_ediv_of_nonneg (by omega)]; omega
  have e2 : m.id.tmod 100 = (D : Int) := by rw [Int.tmod_eq_emod_of_nonneg (by omega)]; omega
  have u1 : IntKind.u64.wrap (C : Int) = (C : Int) := by rw [IntKind.wrap_u64]; omega
  have u2 : IntKind.u64.wrap (D : Int) = (D : Int) := by rw [IntKind.wrap_u64]; omega
  have i1 : IntKind.i64.wrap (C : Int) = (C : Int) := IntWalk.i64_in _ (by omega)
  have i2 : IntKind.i64.wrap (D : Int) = (D : Int) := IntWalk.i64_in _ (by omega)
  have HCD := Lib.hid (And.intro hC hD)
  clear hC hD
  go_enter Try.func28, Try.ntmps28
  go_wp2_with fail
  refine (HM.out _ HB.out).mono ?_
  rintro e w1 ⟨rfl, hb1⟩
  have hat1 := HAT.out.keep (hb1.block _ HAT.out.lt)
  have hbw := HB.out.trans (hb1.mono HB.out.size)
  have c0' := hat1.cells.1.1
  have KS : ∀ wx, Below w1.heap.size w1 wx → wx.cell? ⟨w.heap.size, 0, none⟩ = some (.int .i64 m.id) ∧ Below w1.heap.size w1 wx := fun wx hx => ⟨(hx.cell (p := ⟨w.heap.size, 0, none⟩) hat1.lt).trans c0', hx⟩
  have KH := Lib.hid KS
  have HBW := Lib.hid hbw
  have HAT1 := Lib.hid hat1
  clear hb1 hat1 hbw c0' KS c0 c1 c2 c3 c4 c5 c6 c7 c8 c9 c10 c11
  go_wp2_with fail
  go_region_held3 (fun wx => wx.cell? ⟨w.heap.size, 0, none⟩ = some (.int .i64 m.id) ∧ Below w1.heap.size w1 wx)
    (first | exact KH.out _ (Below.refl _ _).drew | exact KH.out _ (by assumption))
    (first
      | (go_at_call_of 30 (Value.int .u64 (C : Int)); have hbx := (by assumption : _ ∧ Below _ _ _).2; refine (big2 C (by omega) _).mono ?_; rintro e w2 ⟨rfl, hb2⟩; have hbz := hbx.trans (hb2.mono hbx.size); clear hb2 hbx)
      | (go_at_call_of 30 (Value.int .u64 (D : Int)); have hbx := (by assumption : _ ∧ Below _ _ _).2; refine (big2 D (by omega) _).mono ?_; rintro e w2 ⟨rfl, hb2⟩; have hbz := hbx.trans (hb2.mono hbx.size); clear hb2 hbx))
  all_goals
    have hb2 := HBW.out.trans (hbz.mono HBW.out.size)
    have hat2 := HAT1.out.keep (hbz.block _ HAT1.out.lt)
    have HB2 := Lib.hid hb2
    have HAT2 := Lib.hid hat2
    have c0 := hat2.cells.1.1
    clear hbz hb2 hat2
    rw [cat_list, show be 2 C ++ be 2 D = headM m.id by unfold headM; rw [← HCD.out.1, ← HCD.out.2]]
    go_wp2_with fail
    refine (rparts_any m.id _).mono ?_
    rintro e w3 ⟨rfl, rfl⟩
    rw [HP.out]
    clear c0
    go_wp2_with fail
    go_loopg [4, 6] l.length (rputMRel w m a cap l)
    case atStart => exact ⟨0, Nat.zero_le _, rfl, by simp [encL], rfl, HB2.out, HAT2.out⟩
    case round =>
      obtain ⟨i, hi, hn, rfl, rfl, hb, hat⟩ := hrel
      have HB3 := Lib.hid hb
      have HAT3 := Lib.hid hat
      clear hb hat
      by_cases hlt : i < l.length
      · obtain ⟨p, hp⟩ : ∃ p, p = l[i] := ⟨_, rfl⟩
        have hix := ltr_index l i hlt wr
        have hmp : m.MayP p := by rw [hp]; exact HMAY.out _ (List.getElem_mem hlt)
        have hpa : p ≠ .a := fun e => HNA.out (by rw [← e, hp]; exact List.getElem_mem hlt)
        have hst : headM m.id ++ encL m (l.take (i + 1)) = headM m.id ++ encL m (l.take i) ++ m.enc p := by
          rw [List.take_succ_eq_append_getElem hlt, encL_append, ← hp, List.append_assoc]
          simp [encL]
        rw [← hp] at hix
        have hlti : (i : Int) < (l.length : Int) := by omega
        have h0i : (0 : Int) ≤ (i : Int) := by omega
        have hsi : IntKind.i64.wrap ((i : Int) + 1) = ((i + 1 : Nat) : Int) := by rw [IntWalk.i64_in _ (by omega)]; omega
        have HST := Lib.hid hst
        have HLT := Lib.hid (And.intro hlt hn)
        obtain ⟨L, hL⟩ : ∃ L, L = headM m.id ++ encL m (l.take i) := ⟨_, rfl⟩
        rw [← hL] at HST ⊢
        have hL9 : L.length ≤ 2000 := by
          have h1 := encL_short (m := m) (l.take i) (fun z hz => ⟨HMAY.out z (List.mem_of_mem_take hz), fun e => HNA.out (e ▸ List.mem_of_mem_take hz)⟩)
          have h2 : (l.take i).length ≤ 5 := by rw [List.length_take]; omega
          rw [hL, List.length_append, headM_length]
          omega
        clear hp hst hlt hn hi hL
        obtain ⟨⟨c0, c1, c2, c3, c4, c5⟩, c6, c7, c8, c9, c10, c11⟩ := HAT3.out.cells
        cases p
        case n =>
          replace hix : (Instr.index 9 (.string (ltr l)) (.int .i64 i)).run Try.prog wr = .ok (.int .u8 110) wr := hix
          have HMP := Lib.hid hmp
          clear hmp
          have hsz : m.name.size ≤ 255 := HMP.out
          go_wp2_with fail
          refine (rtext_any m.name (Nat.le_trans HMP.out (by decide)) _).mono ?_
          rintro e w4 ⟨rfl, hb4⟩
          have HB4 := Lib.hid (HB3.out.trans (hb4.mono HB3.out.size))
          have HAT4 := Lib.hid (HAT3.out.keep (hb4.block _ HAT3.out.lt))
          clear hb4 c0 c1 c2 c3 c4 c5 c6 c7 c8 c9 c10 c11
          go_wp2_with fail
          go_roundg (l.length - (i + 1))
          case measure => have h1 := HLT.out.1; have h2 := HLT.out.2; omega
          case rel => exact ⟨i + 1, HLT.out.1, rfl, by rw [cat_list, HST.out]; rfl, by simp, HB4.out, HAT4.out⟩
        case y =>
          replace hix : (Instr.index 9 (.string (ltr l)) (.int .i64 i)).run Try.prog wr = .ok (.int .u8 121) wr := hix
          have HMP := Lib.hid hmp
          clear hmp
          have hsz : m.typ.size ≤ 255 := HMP.out
          go_wp2_with fail
          refine (rtext_any m.typ (Nat.le_trans HMP.out (by decide)) _).mono ?_
          rintro e w4 ⟨rfl, hb4⟩
          have HB4 := Lib.hid (HB3.out.trans (hb4.mono HB3.out.size))
          have HAT4 := Lib.hid (HAT3.out.keep (hb4.block _ HAT3.out.lt))
          clear hb4 c0 c1 c2 c3 c4 c5 c6 c7 c8 c9 c10 c11
          go_wp2_with fail
          go_roundg (l.length - (i + 1))
          case measure => have h1 := HLT.out.1; have h2 := HLT.out.2; omega
          case rel => exact ⟨i + 1, HLT.out.1, rfl, by rw [cat_list, HST.out]; rfl, by simp, HB4.out, HAT4.out⟩
        case e =>
          replace hix : (Instr.index 9 (.string (ltr l)) (.int .i64 i)).run Try.prog wr = .ok (.int .u8 101) wr := hix
          have HMP := Lib.hid hmp
          clear hmp
          have hsz : m.ex.size ≤ 255 := HMP.out
          go_wp2_with fail
          refine (rtext_any m.ex (Nat.le_trans HMP.out (by decide)) _).mono ?_
          rintro e w4 ⟨rfl, hb4⟩
          have HB4 := Lib.hid (HB3.out.trans (hb4.mono HB3.out.size))
          have HAT4 := Lib.hid (HAT3.out.keep (hb4.block _ HAT3.out.lt))
          clear hb4 c0 c1 c2 c3 c4 c5 c6 c7 c8 c9 c10 c11
          go_wp2_with fail
          go_roundg (l.length - (i + 1))
          case measure => have h1 := HLT.out.1; have h2 := HLT.out.2; omega
          case rel => exact ⟨i + 1, HLT.out.1, rfl, by rw [cat_list, HST.out]; rfl, by simp, HB4.out, HAT4.out⟩
        case k =>
          replace hix : (Instr.index 9 (.string (ltr l)) (.int .i64 i)).run Try.prog wr = .ok (.int .u8 107) wr := hix
          have HMP := Lib.hid hmp
          clear hmp
          have hsz : m.key.size ≤ 255 := HMP.out
          go_wp2_with fail
          refine (rtext_any m.key (Nat.le_trans HMP.out (by decide)) _).mono ?_
          rintro e w4 ⟨rfl, hb4⟩
          have HB4 := Lib.hid (HB3.out.trans (hb4.mono HB3.out.size))
          have HAT4 := Lib.hid (HAT3.out.keep (hb4.block _ HAT3.out.lt))
          clear hb4 c0 c1 c2 c3 c4 c5 c6 c7 c8 c9 c10 c11
          go_wp2_with fail
          go_roundg (l.length - (i + 1))
          case measure => have h1 := HLT.out.1; have h2 := HLT.out.2; omega
          case rel => exact ⟨i + 1, HLT.out.1, rfl, by rw [cat_list, HST.out]; rfl, by simp, HB4.out, HAT4.out⟩
        case x =>
          replace hix : (Instr.index 9 (.string (ltr l)) (.int .i64 i)).run Try.prog wr = .ok (.int .u8 120) wr := hix
          have HMP := Lib.hid hmp
          clear hmp
          have hsz : m.text.size ≤ 255 := HMP.out
          go_wp2_with fail
          refine (rtext_any m.text (Nat.le_trans HMP.out (by decide)) _).mono ?_
          rintro e w4 ⟨rfl, hb4⟩
          have HB4 := Lib.hid (HB3.out.trans (hb4.mono HB3.out.size))
          have HAT4 := Lib.hid (HAT3.out.keep (hb4.block _ HAT3.out.lt))
          clear hb4 c0 c1 c2 c3 c4 c5 c6 c7 c8 c9 c10 c11
          go_wp2_with fail
          go_roundg (l.length - (i + 1))
          case measure => have h1 := HLT.out.1; have h2 := HLT.out.2; omega
          case rel => exact ⟨i + 1, HLT.out.1, rfl, by rw [cat_list, HST.out]; rfl, by simp, HB4.out, HAT4.out⟩
        case c =>
          replace hix : (Instr.index 9 (.string (ltr l)) (.int .i64 i)).run Try.prog wr = .ok (.int .u8 99) wr := hix
          have HMP := Lib.hid hmp
          clear hmp
          have hcw : IntKind.u64.wrap m.code = ((Go.Proofs.Ytjnnpgmgjdhfjaa.u64 m.code : Nat) : Int) := by rw [IntKind.wrap_u64]; unfold Go.Proofs.Ytjnnpgmgjdhfjaa.u64; omega
          go_wp2_with fail
          refine (big2 (Go.Proofs.Ytjnnpgmgjdhfjaa.u64 m.code) (u64_lt _) _).mono ?_
          rintro e w4 ⟨rfl, hb4⟩
          have HB4 := Lib.hid (HB3.out.trans (hb4.mono HB3.out.size))
          have HAT4 := Lib.hid (HAT3.out.keep (hb4.block _ HAT3.out.lt))
          clear hb4 c0 c1 c2 c3 c4 c5 c6 c7 c8 c9 c10 c11
          go_wp2_with fail
          go_roundg (l.length - (i + 1))
          case measure => have h1 := HLT.out.1; have h2 := HLT.out.2; omega
          case rel => exact ⟨i + 1, HLT.out.1, rfl, by rw [cat_list, HST.out]; rfl, by simp, HB4.out, HAT4.out⟩
        case u =>
          replace hix : (Instr.index 9 (.string (ltr l)) (.int .i64 i)).run Try.prog wr = .ok (.int .u8 117) wr := hix
          have HMP := Lib.hid hmp
          clear hmp
          have hcw : IntKind.u64.wrap m.count = ((Go.Proofs.Ytjnnpgmgjdhfjaa.u64 m.count : Nat) : Int) := by rw [IntKind.wrap_u64]; unfold Go.Proofs.Ytjnnpgmgjdhfjaa.u64; omega
          go_wp2_with fail
          refine (big4 (Go.Proofs.Ytjnnpgmgjdhfjaa.u64 m.count) (u64_lt _) _).mono ?_
          rintro e w4 ⟨rfl, hb4⟩
          have HB4 := Lib.hid (HB3.out.trans (hb4.mono HB3.out.size))
          have HAT4 := Lib.hid (HAT3.out.keep (hb4.block _ HAT3.out.lt))
          clear hb4 c0 c1 c2 c3 c4 c5 c6 c7 c8 c9 c10 c11
          go_wp2_with fail
          go_roundg (l.length - (i + 1))
          case measure => have h1 := HLT.out.1; have h2 := HLT.out.2; omega
          case rel => exact ⟨i + 1, HLT.out.1, rfl, by rw [cat_list, HST.out]; rfl, by simp, HB4.out, HAT4.out⟩
        case t =>
          replace hix : (Instr.index 9 (.string (ltr l)) (.int .i64 i)).run Try.prog wr = .ok (.int .u8 116) wr := hix
          have HMP := Lib.hid hmp
          clear hmp
          go_wp2_with fail
          refine (big8 m.tag HWF.out.tag _).mono ?_
          rintro e w4 ⟨rfl, hb4⟩
          have HB4 := Lib.hid (HB3.out.trans (hb4.mono HB3.out.size))
          have HAT4 := Lib.hid (HAT3.out.keep (hb4.block _ HAT3.out.lt))
          clear hb4 c0 c1 c2 c3 c4 c5 c6 c7 c8 c9 c10 c11
          go_wp2_with fail
          go_roundg (l.length - (i + 1))
          case measure => have h1 := HLT.out.1; have h2 := HLT.out.2; omega
          case rel => exact ⟨i + 1, HLT.out.1, rfl, by rw [cat_list, HST.out]; rfl, by simp, HB4.out, HAT4.out⟩
        case f =>
          replace hix : (Instr.index 9 (.string (ltr l)) (.int .i64 i)).run Try.prog wr = .ok (.int .u8 102) wr := hix
          have HMP := Lib.hid hmp
          clear hmp
          go_wp2_with fail
          refine (rflag_any m.flag _).mono ?_
          rintro e w4 ⟨rfl, rfl⟩
          have hb4 := Below.refl wr.heap.size wr
          have HB4 := Lib.hid (HB3.out.trans (hb4.mono HB3.out.size))
          have HAT4 := Lib.hid (HAT3.out.keep (hb4.block _ HAT3.out.lt))
          clear hb4 c0 c1 c2 c3 c4 c5 c6 c7 c8 c9 c10 c11
          go_wp2_with fail
          go_roundg (l.length - (i + 1))
          case measure => have h1 := HLT.out.1; have h2 := HLT.out.2; omega
          case rel => exact ⟨i + 1, HLT.out.1, rfl, by rw [cat_list, HST.out]; rfl, by simp, HB4.out, HAT4.out⟩
        case b =>
          replace hix : (Instr.index 9 (.string (ltr l)) (.int .i64 i)).run Try.prog wr = .ok (.int .u8 98) wr := hix
          have HMP := Lib.hid hmp
          clear hmp
          go_wp2_with fail
          refine (rflag_any m.back _).mono ?_
          rintro e w4 ⟨rfl, rfl⟩
          have hb4 := Below.refl wr.heap.size wr
          have HB4 := Lib.hid (HB3.out.trans (hb4.mono HB3.out.size))
          have HAT4 := Lib.hid (HAT3.out.keep (hb4.block _ HAT3.out.lt))
          clear hb4 c0 c1 c2 c3 c4 c5 c6 c7 c8 c9 c10 c11
          go_wp2_with fail
          go_roundg (l.length - (i + 1))
          case measure => have h1 := HLT.out.1; have h2 := HLT.out.2; omega
          case rel => exact ⟨i + 1, HLT.out.1, rfl, by rw [cat_list, HST.out]; rfl, by simp, HB4.out, HAT4.out⟩
        case a => exact (hpa rfl).elim
      · obtain rfl : i = l.length := by omega
        have hiN : ¬ ((l.length : Nat) : Int) < (l.length : Int) := by omega
        rw [List.take_length]
        go_wp2_with fail
        go_ret2
        exact ⟨rfl, HB3.out⟩

end Go.Proofs.Ytjnnpgmgjdhfjaa

namespace Go.Proofs.Ytjnnpgmgjdhfjaa
open Go.RowKit
set_option linter.unusedVariables false

set_option maxRecDepth 100000 in
set_option maxHeartbeats 4000000 in
theorem rmay0_any (d : Nat) (n : Int) (hn : -9223372036854775808 ≤ n ∧ n ≤ 9223372036854775807) (s : ByteArray) (a : Option Addr) (cap : Nat) (nm : ByteArray) (sub : List It) (hs : s.size ≤ maxLen) (hl : sub.length ≤ maxLen) (w : World) :
    Calls Try.prog 63 #[.agg #[.int .i64 0, .int .i64 n, .string s, .slice a sub.length cap], .int .i64 d] w (SaysB ((It.mk nm 0 n s sub).May (d + 1)) w) := by
  unfold maxLen at hs hl
  rw [may_0]
  have hbel : Below w.heap.size w (w.alloc (.cells #[.int .i64 0, .int .i64 n, .string s, .slice a sub.length cap] 72)) := (Below.refl _ _).alloc (Nat.le_refl _) _
  have HB := Lib.hid hbel
  clear hbel
  by_cases hse : s.size = 0
  case neg =>
    have h1 : ¬ s.toList = [] := fun h => hse ((toList_nil s).1 h)
    have HS := Lib.hid hse
    clear hse
    go_enter Try.func63, Try.ntmps63
    go_wp2_with fail
    go_ret
    exact ⟨false, by simp [HS.out], by first | rfl | (simp [*]; done), HB.out⟩
  have h1 : s.toList = [] := (toList_nil s).2 hse
  have HS := Lib.hid hse
  clear hse
  by_cases hz : sub.length = 0
  case neg =>
    have h0 : (0 : Int) < (sub.length : Int) := by omega
    have HZ := Lib.hid hz
    clear hz
    go_enter Try.func63, Try.ntmps63
    go_wp2_with fail
    go_ret
    exact ⟨false, by simp [HZ.out], by first | rfl | (simp [*]; done), HB.out⟩
  obtain rfl : sub = [] := List.eq_nil_of_length_eq_zero hz
  clear hz hl
  rw [List.length_nil] at HB ⊢
  by_cases hc : n = 0
  case neg =>
    have hnb : (n == 0) = false := by simpa using hc
    have HC := Lib.hid hc
    clear hc
    go_enter Try.func63, Try.ntmps63
    go_wp2_with fail
    go_ret
    exact ⟨false, by simp [HC.out], by first | rfl | (simp [*]; done), HB.out⟩
  subst hc
  go_enter Try.func63, Try.ntmps63
  go_wp2_with fail
  go_ret
  exact ⟨true, by simp [HS.out], by first | rfl | (simp [*]; done), HB.out⟩

set_option maxRecDepth 100000 in
set_option maxHeartbeats 4000000 in
theorem rmay1_any (d : Nat) (n : Int) (hn : -9223372036854775808 ≤ n ∧ n ≤ 9223372036854775807) (s : ByteArray) (a : Option Addr) (cap : Nat) (nm : ByteArray) (sub : List It) (hs : s.size ≤ maxLen) (hl : sub.length ≤ maxLen) (w : World) :
    Calls Try.prog 63 #[.agg #[.int .i64 1, .int .i64 n, .string s, .slice a sub.length cap], .int .i64 d] w (SaysB ((It.mk nm 1 n s sub).May (d + 1)) w) := by
  unfold maxLen at hs hl
  rw [may_1]
  have hbel : Below w.heap.size w (w.alloc (.cells #[.int .i64 1, .int .i64 n, .string s, .slice a sub.length cap] 72)) := (Below.refl _ _).alloc (Nat.le_refl _) _
  have HB := Lib.hid hbel
  clear hbel
  by_cases hse : s.size = 0
  case neg =>
    have h1 : ¬ s.toList = [] := fun h => hse ((toList_nil s).1 h)
    have HS := Lib.hid hse
    clear hse
    go_enter Try.func63, Try.ntmps63
    go_wp2_with fail
    go_ret
    exact ⟨false, by simp [HS.out], by first | rfl | (simp [*]; done), HB.out⟩
  have h1 : s.toList = [] := (toList_nil s).2 hse
  have HS := Lib.hid hse
  clear hse
  by_cases hz : sub.length = 0
  case neg =>
    have h0 : (0 : Int) < (sub.length : Int) := by omega
    have HZ := Lib.hid hz
    clear hz
    go_enter Try.func63, Try.ntmps63
    go_wp2_with fail
    go_ret
    exact ⟨false, by simp [HZ.out], by first | rfl | (simp [*]; done), HB.out⟩
  obtain rfl : sub = [] := List.eq_nil_of_length_eq_zero hz
  clear hz hl
  rw [List.length_nil] at HB ⊢
  by_cases hc : n = 0
  case pos =>
    subst hc
    go_enter Try.func63, Try.ntmps63
    go_wp2_with fail
    go_ret
    exact ⟨true, by simp [HS.out], by first | rfl | (simp [*]; done), HB.out⟩
  have hnb : (n == 0) = false := by simpa using hc
  by_cases hc1 : n = 1
  case pos =>
    subst hc1
    go_enter Try.func63, Try.ntmps63
    go_wp2_with fail
    go_ret
    exact ⟨true, by simp [HS.out], by first | rfl | (simp [*]; done), HB.out⟩
  have hnb1 : (n == 1) = false := by simpa using hc1
  have HC := Lib.hid (And.intro hc hc1)
  clear hc hc1
  go_enter Try.func63, Try.ntmps63
  go_wp2_with fail
  go_ret
  exact ⟨false, by simp [HC.out.1, HC.out.2], by first | rfl | (simp [*]; done), HB.out⟩

set_option maxRecDepth 100000 in
set_option maxHeartbeats 4000000 in
theorem rmay2_any (d : Nat) (n : Int) (hn : -9223372036854775808 ≤ n ∧ n ≤ 9223372036854775807) (s : ByteArray) (a : Option Addr) (cap : Nat) (nm : ByteArray) (sub : List It) (hs : s.size ≤ maxLen) (hl : sub.length ≤ maxLen) (w : World) :
    Calls Try.prog 63 #[.agg #[.int .i64 2, .int .i64 n, .string s, .slice a sub.length cap], .int .i64 d] w (SaysB ((It.mk nm 2 n s sub).May (d + 1)) w) := by
  unfold maxLen at hs hl
  rw [may_2]
  have hbel : Below w.heap.size w (w.alloc (.cells #[.int .i64 2, .int .i64 n, .string s, .slice a sub.length cap] 72)) := (Below.refl _ _).alloc (Nat.le_refl _) _
  have HB := Lib.hid hbel
  clear hbel
  by_cases hse : s.size = 0
  case neg =>
    have h1 : ¬ s.toList = [] := fun h => hse ((toList_nil s).1 h)
    have HS := Lib.hid hse
    clear hse
    go_enter Try.func63, Try.ntmps63
    go_wp2_with fail
    go_ret
    exact ⟨false, by simp [HS.out], by first | rfl | (simp [*]; done), HB.out⟩
  have h1 : s.toList = [] := (toList_nil s).2 hse
  have HS := Lib.hid hse
  clear hse
  by_cases hz : sub.length = 0
  case neg =>
    have h0 : (0 : Int) < (sub.length : Int) := by omega
    have HZ := Lib.hid hz
    clear hz
    go_enter Try.func63, Try.ntmps63
    go_wp2_with fail
    go_ret
    exact ⟨false, by simp [HZ.out], by first | rfl | (simp [*]; done), HB.out⟩
  obtain rfl : sub = [] := List.eq_nil_of_length_eq_zero hz
  clear hz hl
  rw [List.length_nil] at HB ⊢
  by_cases hc : -2147483648 ≤ n
  case neg =>
    have HC := Lib.hid hc
    go_enter Try.func63, Try.ntmps63
    go_wp2_with fail
    go_ret
    exact ⟨false, by have := HC.out; simp; intros; omega, by first | rfl | (simp [*]; done), HB.out⟩
  by_cases hc1 : n < 2147483648
  case neg =>
    have HC := Lib.hid hc1
    go_enter Try.func63, Try.ntmps63
    go_wp2_with fail
    go_ret
    exact ⟨false, by have := HC.out; simp; intros; omega, by first | rfl | (simp [*]; done), HB.out⟩
  have HC := Lib.hid (And.intro hc hc1)
  go_enter Try.func63, Try.ntmps63
  go_wp2_with fail
  go_ret
  exact ⟨true, by have := HC.out; simp [HS.out]; omega, by first | rfl | (simp [*]; done), HB.out⟩

set_option maxRecDepth 100000 in
set_option maxHeartbeats 4000000 in
theorem rmay3_any (d : Nat) (n : Int) (hn : -9223372036854775808 ≤ n ∧ n ≤ 9223372036854775807) (s : ByteArray) (a : Option Addr) (cap : Nat) (nm : ByteArray) (sub : List It) (hs : s.size ≤ maxLen) (hl : sub.length ≤ maxLen) (w : World) :
    Calls Try.prog 63 #[.agg #[.int .i64 3, .int .i64 n, .string s, .slice a sub.length cap], .int .i64 d] w (SaysB ((It.mk nm 3 n s sub).May (d + 1)) w) := by
  unfold maxLen at hs hl
  rw [may_3]
  have hbel : Below w.heap.size w (w.alloc (.cells #[.int .i64 3, .int .i64 n, .string s, .slice a sub.length cap] 72)) := (Below.refl _ _).alloc (Nat.le_refl _) _
  have HB := Lib.hid hbel
  clear hbel
  by_cases hse : s.size = 0
  case neg =>
    have h1 : ¬ s.toList = [] := fun h => hse ((toList_nil s).1 h)
    have HS := Lib.hid hse
    clear hse
    go_enter Try.func63, Try.ntmps63
    go_wp2_with fail
    go_ret
    exact ⟨false, by simp [HS.out], by first | rfl | (simp [*]; done), HB.out⟩
  have h1 : s.toList = [] := (toList_nil s).2 hse
  have HS := Lib.hid hse
  clear hse
  by_cases hz : sub.length = 0
  case neg =>
    have h0 : (0 : Int) < (sub.length : Int) := by omega
    have HZ := Lib.hid hz
    clear hz
    go_enter Try.func63, Try.ntmps63
    go_wp2_with fail
    go_ret
    exact ⟨false, by simp [HZ.out], by first | rfl | (simp [*]; done), HB.out⟩
  obtain rfl : sub = [] := List.eq_nil_of_length_eq_zero hz
  clear hz hl
  rw [List.length_nil] at HB ⊢
  go_enter Try.func63, Try.ntmps63
  go_wp2_with fail
  go_ret
  exact ⟨true, by simp [HS.out], by first | rfl | (simp [*]; done), HB.out⟩

set_option maxRecDepth 100000 in
set_option maxHeartbeats 4000000 in
theorem rmay4_any (d : Nat) (n : Int) (hn : -9223372036854775808 ≤ n ∧ n ≤ 9223372036854775807) (s : ByteArray) (a : Option Addr) (cap : Nat) (nm : ByteArray) (sub : List It) (hs : s.size ≤ maxLen) (hl : sub.length ≤ maxLen) (w : World) :
    Calls Try.prog 63 #[.agg #[.int .i64 4, .int .i64 n, .string s, .slice a sub.length cap], .int .i64 d] w (SaysB ((It.mk nm 4 n s sub).May (d + 1)) w) := by
  unfold maxLen at hs hl
  rw [may_4]
  have hbel : Below w.heap.size w (w.alloc (.cells #[.int .i64 4, .int .i64 n, .string s, .slice a sub.length cap] 72)) := (Below.refl _ _).alloc (Nat.le_refl _) _
  have HB := Lib.hid hbel
  clear hbel
  by_cases hz : sub.length = 0
  case neg =>
    have h0 : (0 : Int) < (sub.length : Int) := by omega
    have HZ := Lib.hid hz
    clear hz
    go_enter Try.func63, Try.ntmps63
    go_wp2_with fail
    go_ret
    exact ⟨false, by simp [HZ.out], by first | rfl | (simp [*]; done), HB.out⟩
  obtain rfl : sub = [] := List.eq_nil_of_length_eq_zero hz
  clear hz hl
  rw [List.length_nil] at HB ⊢
  by_cases hc : n = 0
  case neg =>
    have hnb : (n == 0) = false := by simpa using hc
    have HC := Lib.hid hc
    clear hc
    go_enter Try.func63, Try.ntmps63
    go_wp2_with fail
    go_ret
    exact ⟨false, by simp [HC.out], by first | rfl | (simp [*]; done), HB.out⟩
  subst hc
  by_cases hc : (s.size : Int) ≤ 200
  case neg =>
    have HC := Lib.hid hc
    go_enter Try.func63, Try.ntmps63
    go_wp2_with fail
    go_ret
    exact ⟨false, by have := HC.out; simp; omega, by first | rfl | (simp [*]; done), HB.out⟩
  have HC := Lib.hid hc
  go_enter Try.func63, Try.ntmps63
  go_wp2_with fail
  go_ret
  exact ⟨true, by have := HC.out; simp; omega, by first | rfl | (simp [*]; done), HB.out⟩

set_option maxRecDepth 100000 in
set_option maxHeartbeats 4000000 in
theorem rmayn_any (d : Nat) (k n : Int) (h0 : ¬ k = 0) (h1 : ¬ k = 1) (h2 : ¬ k = 2) (h3 : ¬ k = 3) (h4 : ¬ k = 4) (h5 : ¬ k = 5) (s : ByteArray) (a : Option Addr) (cap : Nat) (nm : ByteArray) (sub : List It) (hs : s.size ≤ maxLen) (hl : sub.length ≤ maxLen) (w : World) :
    Calls Try.prog 63 #[.agg #[.int .i64 k, .int .i64 n, .string s, .slice a sub.length cap], .int .i64 d] w (SaysB ((It.mk nm k n s sub).May (d + 1)) w) := by
  unfold maxLen at hs hl
  have b0 : (k == 0) = false := by simpa using h0
  have b1 : (k == 1) = false := by simpa using h1
  have b2 : (k == 2) = false := by simpa using h2
  have b3 : (k == 3) = false := by simpa using h3
  have b4 : (k == 4) = false := by simpa using h4
  have b5 : (k == 5) = false := by simpa using h5
  have HN := Lib.hid (may_n (d + 1) nm k n s sub h0 h1 h2 h3 h4 h5)
  go_enter Try.func63, Try.ntmps63
  go_wp2
  all_goals
    go_ret
    exact ⟨false, ⟨(fun h => by cases h), fun h => absurd h HN.out⟩, rfl, (Below.refl _ _).alloc (Nat.le_refl _) _⟩

set_option maxRecDepth 100000 in
set_option maxHeartbeats 4000000 in
theorem rmay5_any (d : Nat) (hd : d ≤ 4) (n : Int) (s : ByteArray) (a : Option Addr) (cap : Nat) (nm : ByteArray) (sub : List It) (hs : s.size ≤ maxLen) (hl : sub.length ≤ maxLen) (w : World)
    (ih : ∀ w1, Below w.heap.size w w1 → Calls Try.prog 43 #[.slice a sub.length cap, .int .i64 (d + 1 : Nat)] w1 (SaysB (MayT (d + 1) sub) w1)) :
    Calls Try.prog 63 #[.agg #[.int .i64 5, .int .i64 n, .string s, .slice a sub.length cap], .int .i64 d] w (SaysB ((It.mk nm 5 n s sub).May (d + 1)) w) := by
  unfold maxLen at hs hl
  have hs1 : IntKind.i64.wrap ((d : Int) + 1) = ((d + 1 : Nat) : Int) := by rw [IntWalk.i64_in _ (by omega)]; omega
  have hbel : Below w.heap.size w (w.alloc (.cells #[.int .i64 5, .int .i64 n, .string s, .slice a sub.length cap] 72)) := (Below.refl _ _).alloc (Nat.le_refl _) _
  have HB := Lib.hid hbel
  clear hbel
  by_cases hse : s.size = 0
  case neg =>
    have h1 : ¬ s.toList = [] := fun h => hse ((toList_nil s).1 h)
    have HS := Lib.hid hse
    clear hse hs1
    go_enter Try.func63, Try.ntmps63
    go_wp2_with fail
    go_ret
    exact ⟨false, ⟨(fun h => by cases h), fun h => by rw [may_5] at h; exact absurd h.2.1 HS.out⟩, rfl, HB.out⟩
  have h1 : s.toList = [] := (toList_nil s).2 hse
  have HS := Lib.hid hse
  clear hse
  by_cases hn : n = 0
  case neg =>
    have hnb : (n == 0) = false := by simpa using hn
    have HN := Lib.hid hn
    clear hn hs1
    go_enter Try.func63, Try.ntmps63
    go_wp2_with fail
    go_ret
    exact ⟨false, ⟨(fun h => by cases h), fun h => by rw [may_5] at h; exact absurd h.1 HN.out⟩, rfl, HB.out⟩
  subst hn
  go_enter Try.func63, Try.ntmps63
  go_wp2_with fail
  refine (ih _ HB.out).mono ?_
  rintro e w' ⟨r, hr, rfl, hb⟩
  have HB2 := Lib.hid (HB.out.trans (hb.mono HB.out.size))
  have HR := Lib.hid hr
  clear hr hb hs1
  go_wp2_with fail
  go_ret
  refine ⟨r, ?_, rfl, HB2.out⟩
  rw [may_5, HR.out]
  exact ⟨fun h => ⟨rfl, HS.out, h⟩, fun h => h.2.2⟩

theorem rmayV_any (d : Nat) (hd : d ≤ 4) (x : It) (hn : -9223372036854775808 ≤ x.n ∧ x.n ≤ 9223372036854775807) (a : Option Addr) (cap : Nat) (hs : x.s.size ≤ maxLen) (hl : x.sub.length ≤ maxLen) (w : World)
    (ih : ∀ w1, Below w.heap.size w w1 → Calls Try.prog 43 #[.slice a x.sub.length cap, .int .i64 (d + 1 : Nat)] w1 (SaysB (MayT (d + 1) x.sub) w1)) :
    Calls Try.prog 63 #[.agg #[.int .i64 x.kind, .int .i64 x.n, .string x.s, .slice a x.sub.length cap], .int .i64 d] w (SaysB (x.May (d + 1)) w) := by
  obtain ⟨nm, k, n, s, sub⟩ := x
  simp only [It.kind_mk, It.n_mk, It.s_mk, It.sub_mk] at *
  by_cases h0 : k = 0
  · subst h0; exact rmay0_any d n hn s a cap nm sub hs hl w
  by_cases h1 : k = 1
  · subst h1; exact rmay1_any d n hn s a cap nm sub hs hl w
  by_cases h2 : k = 2
  · subst h2; exact rmay2_any d n hn s a cap nm sub hs hl w
  by_cases h3 : k = 3
  · subst h3; exact rmay3_any d n hn s a cap nm sub hs hl w
  by_cases h4 : k = 4
  · subst h4; exact rmay4_any d n hn s a cap nm sub hs hl w
  by_cases h5 : k = 5
  · subst h5; exact rmay5_any d hd n s a cap nm sub hs hl w ih
  · exact rmayn_any d k n h0 h1 h2 h3 h4 h5 s a cap nm sub hs hl w

end Go.Proofs.Ytjnnpgmgjdhfjaa

namespace Go.Proofs.Ytjnnpgmgjdhfjaa
open Go.RowKit
set_option linter.unusedVariables false

def rmayRel (w : World) (l : List It) (d : Nat) (k : Nat) (v5 v6 : Value) (wr : World) : Prop :=
  Below w.heap.size w wr ∧ ∃ i : Nat, i ≤ l.length ∧ k = l.length - i ∧ v5 = .int .i64 i ∧ Upto (d + 1) i l
def rnamRel (w : World) (l : List It) (nm : ByteArray) (i : Nat) (k : Nat) (v6 : Value) (wr : World) : Prop :=
  Below w.heap.size w wr ∧ ∃ j : Nat, j ≤ i ∧ k = i - j ∧ v6 = .int .i64 j ∧ ∀ y ∈ l.take j, y.name ≠ nm

set_option maxRecDepth 100000 in
set_option maxHeartbeats 4000000 in
theorem rmayT_any : ∀ (n : Nat) {a : Option Addr} {cap : Nat} {l : List It} (_ : weigh l ≤ n) (d : Nat) (_ : d ≤ 5) (w : World) (_ : Tb w a cap l),
    Calls Try.prog 43 #[.slice a l.length cap, .int .i64 d] w (SaysB (MayT d l) w)
  | 0, a, cap, l, h, _, _, _, _ => by have := weigh_pos l; omega
  | n + 1, a, cap, l, hn, d, hd, w, hl => by
    have hlen := hl.len
    unfold maxLen at hlen
    by_cases h4 : 4 < (d : Int)
    · go_enter Try.func43, Try.ntmps43
      go_wp2_with fail
      go_ret
      exact ⟨false, ⟨(fun h => by cases h), fun h => absurd h.1 (by omega)⟩, rfl, Below.refl _ _⟩
    by_cases h32 : 32 < (l.length : Int)
    · go_enter Try.func43, Try.ntmps43
      go_wp2_with fail
      go_ret
      exact ⟨false, ⟨(fun h => by cases h), fun h => absurd h.2.1 (by omega)⟩, rfl, Below.refl _ _⟩
    go_enter Try.func43, Try.ntmps43
    go_wp2_with fail
    go_loopg [5, 6] l.length (rmayRel w l d)
    case atStart => exact ⟨Below.refl _ _, 0, Nat.zero_le _, rfl, rfl, upto_zero _ _⟩
    case round =>
      obtain ⟨hb, i, hi, rfl, rfl, hup⟩ := hrel
      have HB := Lib.hid hb
      have HUP := Lib.hid hup
      clear hb hup
      by_cases hlt : i < l.length
      · have hlti : (i : Int) < (l.length : Int) := by omega
        have h0i : (0 : Int) ≤ (i : Int) := by omega
        obtain ⟨b, o, a1, cap1, rfl, _, hx, ht⟩ := (hl.below HB.out).get hlt
        have c0 := hx.c0
        have c1 := hx.c1
        have c2 := hx.c2
        have c3 := hx.c3
        have c4 := hx.c4
        have m0 := hx.m0
        unfold maxLen at m0
        have HT := Lib.hid ht
        have HX := Lib.hid hx
        have HW := Lib.hid (weigh_mem (List.getElem_mem hlt))
        clear ht hx
        by_cases n1 : (l[i].name.size : Int) < 1
        · go_wp2_with fail
          go_ret
          refine ⟨false, ⟨(fun h => by cases h), fun h => ?_⟩, rfl, HB.out⟩
          rw [mayT_upto] at h
          exact absurd ((upto_succ hlt).1 (upto_mono h.2.2 (by omega))).2.1.1 (by omega)
        by_cases n40 : 40 < (l[i].name.size : Int)
        · go_wp2_with fail
          go_ret
          refine ⟨false, ⟨(fun h => by cases h), fun h => ?_⟩, rfl, HB.out⟩
          rw [mayT_upto] at h
          exact absurd ((upto_succ hlt).1 (upto_mono h.2.2 (by omega))).2.1.2.1 (by omega)
        go_wp2_with fail
        refine (rmayV_any d (by omega) l[i] HX.out.k2 a1 cap1 HX.out.m3 (Nat.le_trans (HT.out.len.1) HT.out.len.2) _ (fun w1 hw1 => rmayT_any n (by have := HW.out; omega) (d + 1) (by omega) w1 (HT.out.below hw1))).mono ?_
        rintro e w2 ⟨r, hr, rfl, hb2⟩
        have HB2 := Lib.hid (HB.out.trans (hb2.mono HB.out.size))
        have HR := Lib.hid hr
        clear hr hb2 c0 c1 c2 c3 c4
        cases r
        · go_wp2_with fail
          go_ret
          refine ⟨false, ⟨(fun h => by cases h), fun h => ?_⟩, rfl, HB2.out⟩
          rw [mayT_upto] at h
          exact absurd (HR.out.2 ((upto_succ hlt).1 (upto_mono h.2.2 (by omega))).2.2) (by simp)
        go_wp2_with fail
        obtain ⟨nm, hnm⟩ : ∃ nm, nm = l[i].name := ⟨_, rfl⟩
        have HNM := Lib.hid hnm
        clear hnm
        go_loopg [6] i (rnamRel w l nm i)
        case atStart => exact ⟨HB2.out, 0, Nat.zero_le _, rfl, rfl, by simp⟩
        case round =>
          obtain ⟨hb, j, hj, rfl, rfl, hne⟩ := hrel
          have HB := Lib.hid hb
          have HNE := Lib.hid hne
          clear hb hne
          by_cases hji : j < i
          · have hjii : (j : Int) < (i : Int) := by omega
            have hjl : (j : Int) < (l.length : Int) := by omega
            have h0j : (0 : Int) ≤ (j : Int) := by omega
            have hs1 : IntKind.i64.wrap ((j : Int) + 1) = ((j + 1 : Nat) : Int) := by rw [IntWalk.i64_in _ (by omega)]; omega
            obtain ⟨b1, o1, _, _, e1, _, hx1, _⟩ := (hl.below HB.out).get hlt
            obtain ⟨b2, o2, _, _, e2, _, hx2, _⟩ := (hl.below HB.out).get (show j < l.length by omega)
            obtain ⟨rfl, rfl⟩ : b = b1 ∧ o = o1 := by simpa using e1
            obtain ⟨rfl, rfl⟩ : b = b2 ∧ o = o2 := by simpa using e2
            have c0 := hx1.c0
            have d0 := hx2.c0
            rw [← HNM.out] at c0
            clear hx1 hx2 e1 e2
            by_cases he : l[j].name = nm
            · have hbs := beq_str he
              have HEQ := Lib.hid he
              clear he
              go_wp2_with fail
              go_quiet (fail)
              go_wp2_with fail
              go_ret
              refine ⟨false, ⟨(fun h => by cases h), fun h => ?_⟩, rfl, Below.drewN HB.out _⟩
              rw [mayT_upto] at h
              have hall := ((upto_succ hlt).1 (upto_mono h.2.2 (by omega))).2.1.2.2
              have hm : l[j] ∈ l.take i := by
                have := List.getElem_mem (l := l.take i) (n := j) (by simp; omega)
                rwa [List.getElem_take] at this
              exact absurd (HEQ.out.trans HNM.out) (hall _ hm)
            · have hbs := bne_str he
              have HEQ := Lib.hid he
              clear he
              go_wp2_with fail
              go_quiet (fail)
              go_wp2_with fail
              go_roundg (i - (j + 1))
              case measure => omega
              case rel => exact ⟨Below.drewN HB.out _, j + 1, by omega, rfl, by first | rfl | (rw [Int.natCast_add]; rfl), snoc_ne (by omega) HNE.out HEQ.out⟩
          · have hjii : ¬ (j : Int) < (i : Int) := by omega
            obtain rfl : j = i := by omega
            have hs1 : IntKind.i64.wrap ((j : Int) + 1) = ((j + 1 : Nat) : Int) := by rw [IntWalk.i64_in _ (by omega)]; omega
            go_wp2_with fail
            go_roundg (l.length - (j + 1))
            case measure => omega
            case rel =>
              have hne := HNE.out
              rw [HNM.out] at hne
              exact ⟨HB.out, j + 1, by omega, rfl, by first | rfl | (rw [Int.natCast_add]; rfl), (upto_succ hlt).2 ⟨HUP.out, ⟨by omega, by omega, hne⟩, HR.out.1 (by trivial)⟩⟩
      · have hlti : ¬ (i : Int) < (l.length : Int) := by omega
        obtain rfl : i = l.length := by omega
        go_wp2_with fail
        go_ret
        refine ⟨true, ⟨fun _ => ?_, fun _ => rfl⟩, rfl, HB.out⟩
        rw [mayT_upto]
        exact ⟨by omega, by omega, HUP.out⟩

set_option maxHeartbeats 1000000 in
theorem rmayTable_any {a : Option Addr} {cap : Nat} {l : List It} (w : World) (hl : Tb w a cap l) :
    Calls Try.prog 27 #[.slice a l.length cap] w (SaysB (MayT 1 l) w) := by
  go_enter Try.func27, Try.ntmps27
  go_wp2_with fail
  refine (rmayT_any _ (Nat.le_refl _) 1 (by omega) _ hl).mono ?_
  rintro e w' ⟨r, hr, rfl, hb⟩
  have HR := Lib.hid hr
  clear hr
  go_wp2_with fail
  go_ret
  exact ⟨r, HR.out, rfl, hb⟩

end Go.Proofs.Ytjnnpgmgjdhfjaa

namespace Go.Proofs.Ytjnnpgmgjdhfjaa
open Go.RowKit
set_option linter.unusedVariables false

set_option maxRecDepth 100000 in
theorem slice_list (l : List UInt8) (i j : Nat) (hij : i ≤ j) (hj : j ≤ l.length) (w : World) : (Instr.slice 9 (.string ⟨l.toArray⟩) (some (.int .i64 i)) (some (.int .i64 j)) none).run Try.prog w = .ok (.string ⟨((l.drop i).take (j - i)).toArray⟩) w := by
  have h := run_slice_string (P := Try.prog) (w := w) 9 ⟨l.toArray⟩ .i64 .i64 i j Try.underlying9 (by omega) (by omega) (by show (j : Int) ≤ (l.length : Int); omega)
  rw [h]
  congr 2
  have e : ((⟨l.toArray⟩ : ByteArray).extract (i : Int).toNat (j : Int).toNat).data.toList = (l.drop i).take (j - i) := by
    rw [ByteArray.data_extract, Array.toList_extract]
    simp [List.extract]
  generalize (⟨l.toArray⟩ : ByteArray).extract (i : Int).toNat (j : Int).toNat = x at e
  obtain ⟨⟨y⟩⟩ := x
  rw [show y = _ from e]

theorem extract_list (l : List UInt8) (i j : Nat) : (⟨l.toArray⟩ : ByteArray).extract i j = ⟨((l.drop i).take (j - i)).toArray⟩ := by
  have e : ((⟨l.toArray⟩ : ByteArray).extract i j).data.toList = (l.drop i).take (j - i) := by
    rw [ByteArray.data_extract, Array.toList_extract]
  generalize (⟨l.toArray⟩ : ByteArray).extract i j = x at e
  obtain ⟨⟨y⟩⟩ := x
  rw [show y = _ from e]

theorem cutF_step {ch : Int} {m : Me} {props : List It} {body : List UInt8} {q i : Nat} (h : i < (body.length + q - 1) / q) :
    (cutF ch m props body q).take (i + 1 + 2) = (cutF ch m props body q).take (i + 2) ++ [⟨3, ch, (body.drop (i * q)).take q⟩] := by
  unfold cutF
  show List.take ((i + 1) + 1 + 1) (_ :: _ :: _) = List.take (i + 1 + 1) (_ :: _ :: _) ++ _
  simp only [List.take_succ_cons, bodyF_step h, List.cons_append]

def rcutRel (W : World) (ch : Int) (m : Me) (props : List It) (body : List UInt8) (q : Nat) (n : Nat) (v15 v16 : Value) (wr : World) : Prop :=
  ∃ (i at_ : Nat) (zs : List FZ), at_ = i * q ∧ n = (body.length + q - 1) / q - i ∧ i ≤ (body.length + q - 1) / q ∧ v16 = .int .i64 at_ ∧ zs.map (·.1) = (cutF ch m props body q).take (i + 2) ∧ Below W.heap.size W wr ∧
    wr.ownsRow W.heap.size 36 3 v15 zs.length (zs.flatMap fzc) ∧ (∀ z ∈ zs, FZOk v15.ownBlock wr z)

set_option maxRecDepth 100000 in
set_option maxHeartbeats 16000000 in
theorem rcut_any {w : World} {m : Me} {a : Option Addr} {cap : Nat} (ht : Tb w a cap m.args) (wf : m.Wf) {props : List It} {pa : Option Addr} {pcap : Nat} (hp : Tb w pa pcap props) (hw : weigh props ≤ 200) (ch : Int) (body : List UInt8) (hl : body.length ≤ 600) (most : Int)
    (hM : ∀ w1, Below w.heap.size w w1 → Calls Try.prog 25 #[.agg (meC m a cap)] w1 fun e w' => ∃ r : Bool, e = .returned (.bool r) ∧ Below w1.heap.size w1 w' ∧ (Has m.id → (r = true ↔ MayM m))) :
    Calls Try.prog 10 #[.int .i64 ch, .agg (meC m a cap), .slice pa props.length pcap, .string ⟨body.toArray⟩, .int .i64 most] w (CutR ch m props body most w) := by
  have hat0 : MeAt (w.alloc (.cells (meC m a cap) 25)) w.heap.size m a cap := heap_alloc_new w _
  have hb0 : Below w.heap.size w (w.alloc (.cells (meC m a cap) 25)) := (Below.refl _ _).alloc (Nat.le_refl _) _
  obtain ⟨⟨c0, c1, c2, c3, c4, c5⟩, c6, c7, c8, c9, c10, c11⟩ := hat0.cells
  have HB0 := Lib.hid hb0
  have HAT := Lib.hid hat0
  have HT := Lib.hid ht
  have HPT := Lib.hid hp
  have HWF := Lib.hid wf
  have HM := Lib.hid hM
  have HW := Lib.hid hw
  obtain ⟨mc, hmc⟩ : ∃ c, c = meC m a cap := ⟨_, rfl⟩
  rw [← hmc] at c0 c1 c2 c3 c4 c5 c6 c7 c8 c9 c10 c11 HAT HB0 ⊢
  have hbs : (⟨body.toArray⟩ : ByteArray).size = body.length := rfl
  clear hat0 ht wf hb0 hmc hp hM hw
  go_enter Try.func10, Try.ntmps10
  go_wp2_with fail
  refine (HM.out _ HB0.out).mono ?_
  rintro e w1 ⟨r, rfl, hb1, hr⟩
  have HB1 := Lib.hid (HB0.out.trans (hb1.mono HB0.out.size))
  have HR := Lib.hid hr
  have HAT1 := Lib.hid (HAT.out.keep (hb1.block _ HAT.out.lt))
  clear hr hb1 c0 c1 c2 c3 c4 c5 c6 c7 c8 c9 c10 c11
  obtain ⟨⟨c0, c1, c2, c3, c4, c5⟩, c6, c7, c8, c9, c10, c11⟩ := HAT1.out.cells
  cases r
  · go_wp2_with fail
    go_ret2
    exact ⟨HB1.out, .inl ⟨rfl, .inl fun h => by have := (HR.out h.2.1).2 h.1; cases this⟩⟩
  go_wp2_with fail
  refine (bears_any m.id _).mono ?_
  rintro e w2 ⟨r, hr, rfl, rfl⟩
  have HR2 := Lib.hid hr
  clear hr
  cases r
  · go_wp2_with fail
    go_ret2
    exact ⟨HB1.out, .inl ⟨rfl, .inl fun h => by have := HR2.out.2 h.2.1; cases this⟩⟩
  have hhas : Has m.id := HR2.out.1 rfl
  have hmay : MayM m := (HR.out hhas).1 (by trivial)
  have HMM := Lib.hid (And.intro hmay hhas)
  clear hhas hmay
  by_cases h1 : ch < 1
  · have H1 := Lib.hid h1
    go_wp2_with fail
    go_ret2
    exact ⟨HB1.out, .inl ⟨rfl, .inl fun h => by have := h.2.2.1.1; have := H1.out; omega⟩⟩
  by_cases h2 : 65535 < ch
  · have H1 := Lib.hid h2
    go_wp2_with fail
    go_ret2
    exact ⟨HB1.out, .inl ⟨rfl, .inl fun h => by have := h.2.2.1.2; have := H1.out; omega⟩⟩
  by_cases h3 : most < 8
  · have H1 := Lib.hid h3
    go_wp2_with fail
    go_ret2
    exact ⟨HB1.out, .inl ⟨rfl, .inl fun h => by have := h.2.2.2.1.1; have := H1.out; omega⟩⟩
  by_cases h4 : 4096 < most
  · have H1 := Lib.hid h4
    go_wp2_with fail
    go_ret2
    exact ⟨HB1.out, .inl ⟨rfl, .inl fun h => by have := h.2.2.2.1.2; have := H1.out; omega⟩⟩
  obtain ⟨q, rfl⟩ : ∃ q : Nat, most = q := ⟨most.toNat, by omega⟩
  have h5 : ¬ (65536 : Int) < (body.length : Int) := by omega
  have HC := Lib.hid (show MayC ch m body.length q from ⟨HMM.out.1, HMM.out.2, by omega, by omega, by omega⟩)
  go_wp2_with fail
  refine (rmayTable_any _ (HPT.out.below HB1.out)).mono ?_
  rintro e w3 ⟨r, hr, rfl, hb3⟩
  have HB3 := Lib.hid (HB1.out.trans (hb3.mono HB1.out.size))
  have HAT3 := Lib.hid (HAT1.out.keep (hb3.block _ HAT1.out.lt))
  have HR3 := Lib.hid hr
  clear hr hb3 c0 c1 c2 c3 c4 c5 c6 c7 c8 c9 c10 c11
  cases r
  · go_wp2_with fail
    go_ret2
    exact ⟨HB3.out, .inl ⟨rfl, .inr fun h => by have := HR3.out.2 h; cases this⟩⟩
  have HMT := Lib.hid (show MayT 1 props from HR3.out.1 rfl)
  obtain ⟨⟨c0, c1, c2, c3, c4, c5⟩, c6, c7, c8, c9, c10, c11⟩ := HAT3.out.cells
  obtain ⟨l, hl0, hla, hl5⟩ := has_parts HMM.out.2
  obtain ⟨hgood, hargs, hml⟩ := has_good HMM.out.1 HMM.out.2 HWF.out
  have hput := rputM_any (w := w3) (HT.out.below HB3.out) HWF.out hl0 hla ((mayM_iff hl0).1 HMM.out.1).1 (fun w1 hw1 => by
    refine (HM.out w1 (HB3.out.trans (hw1.mono HB3.out.size))).mono ?_
    rintro e w' ⟨r, rfl, hb, hr⟩
    exact ⟨by rw [(hr HMM.out.2).2 HMM.out.1], hb⟩)
  rw [← putM_eq hl0] at hput
  have HPUT := Lib.hid hput
  have HML := Lib.hid hml
  clear hput hl0 hla hl5 hgood hargs hml
  go_wp2_with fail
  refine HPUT.out.mono ?_
  rintro e w4 ⟨rfl, hb4⟩
  have HB4 := Lib.hid (HB3.out.trans (hb4.mono HB3.out.size))
  clear hb4 c0 c1 c2 c3 c4 c5 c6 c7 c8 c9 c10 c11
  go_wp2_with fail
  refine (rputTable_any HMT.out (Nat.le_trans HW.out (by decide)) w4 (HPT.out.below HB4.out)).mono ?_
  rintro e w5 ⟨rfl, hb5⟩
  have HB5 := Lib.hid (HB4.out.trans (hb5.mono HB4.out.size))
  clear hb5
  by_cases h3000 : (3000 : Int) < ((putT props).length : Int)
  · have H3 := Lib.hid h3000
    go_wp2_with fail
    go_ret2
    exact ⟨HB5.out, .inr (.inl ⟨rfl, HC.out, HMT.out, by have := H3.out; omega⟩)⟩
  have HM3 := Lib.hid (show (putT props).length ≤ 3000 by omega)
  have hm1 : ¬ (4096 : Int) < ((putM m).length : Int) := by have := HML.out; omega
  have hm2 : IntKind.i64.wrap (((putT props).length : Int) + 8) = ((putT props).length : Int) + 8 := IntWalk.i64_in _ (by omega)
  have hm3 : ¬ (4096 : Int) < ((putT props).length : Int) + 8 := by omega
  obtain ⟨k6, w6, hcv6, hk6, hk6m, hat6, hb6, hz6⟩ := conv_bytes (putM m) (by have := HML.out; omega) w5
  have hu : IntKind.u64.wrap (body.length : Int) = (body.length : Int) := by rw [IntKind.wrap_u64]; omega
  have H6 := Lib.hid (And.intro hk6 (And.intro hk6m (And.intro hat6 (And.intro hb6 hz6))))
  obtain ⟨N2, hN2⟩ : ∃ N, N = (putM m).length := ⟨_, rfl⟩
  rw [← hN2] at hcv6
  have HN2 := Lib.hid hN2
  clear hk6 hk6m hat6 hb6 hz6 hN2
  go_wp2_with fail
  refine (big8 body.length (by omega) w6).mono ?_
  rintro e w7 ⟨rfl, hb7⟩
  obtain ⟨k8, w8, hcv8, hk8, hk8m, hat8, hb8, hz8⟩ := conv_bytes (be 8 body.length ++ putT props) (by rw [List.length_append, be_length]; have := HM3.out; omega) w7
  obtain ⟨N5, hN5⟩ : ∃ N, N = (be 8 body.length ++ putT props).length := ⟨_, rfl⟩
  rw [← hN5, ← cat_list] at hcv8
  have HN5 := Lib.hid hN5
  have H8 := Lib.hid (And.intro hk8 (And.intro hk8m (And.intro hat8 (And.intro hb8 hz8))))
  have HB7 := Lib.hid hb7
  clear hk8 hk8m hat8 hb8 hz8 hN5 hb7
  have hown9 : (w8.alloc (.cells #[.int .i64 1, .int .i64 ch, .slice (some ⟨w5.heap.size, 0, none⟩) N2 k6, .int .i64 2, .int .i64 ch, .slice (some ⟨w7.heap.size, 0, none⟩) N5 k8] 36)).ownsRow w.heap.size 36 3 (.slice (some ⟨w8.heap.size, 0, none⟩) 2 2) 2 [.int .i64 1, .int .i64 ch, .slice (some ⟨w5.heap.size, 0, none⟩) N2 k6, .int .i64 2, .int .i64 ch, .slice (some ⟨w7.heap.size, 0, none⟩) N5 k8] :=
    World.ownsRow_lit w8 _ 2 (by have h1 := HB5.out.size; have h2 := H6.out.2.2.2.1.size; have h3 := HB7.out.size; have h4 := H8.out.2.2.2.1.size; omega) (by decide) (by simp)
  have hb9 : Below w8.heap.size w8 (w8.alloc (.cells #[.int .i64 1, .int .i64 ch, .slice (some ⟨w5.heap.size, 0, none⟩) N2 k6, .int .i64 2, .int .i64 ch, .slice (some ⟨w7.heap.size, 0, none⟩) N5 k8] 36)) := (Below.refl _ _).alloc (Nat.le_refl _) _
  have HOWN9 := Lib.hid hown9
  have HB9 := Lib.hid hb9
  clear hown9 hb9
  go_wp2_with fail
  generalize w8.alloc (.cells #[.int .i64 1, .int .i64 ch, .slice (some ⟨w5.heap.size, 0, none⟩) N2 k6, .int .i64 2, .int .i64 ch, .slice (some ⟨w7.heap.size, 0, none⟩) N5 k8] 36) = w9 at *
  have h79 : Below w7.heap.size w7 w9 := H8.out.2.2.2.1.trans (HB9.out.mono (by have := H8.out.2.2.2.2; omega))
  have h69 : Below w6.heap.size w6 w9 := HB7.out.trans (h79.mono (by have := HB7.out.size; omega))
  have h59 : Below w5.heap.size w5 w9 := H6.out.2.2.2.1.trans (h69.mono (by have := H6.out.2.2.2.2; omega))
  have H09 := Lib.hid (HB5.out.trans (h59.mono HB5.out.size))
  have hsz5 := HB5.out.size
  have hsz6 := H6.out.2.2.2.2
  have hsz7 := HB7.out.size
  have hsz8 := H8.out.2.2.2.2
  have hsz9 := HB9.out.size
  have h89 : Below w8.heap.size w8 w9 := HB9.out
  obtain ⟨zs0, hzs0⟩ : ∃ zs0 : List FZ, zs0 = [(⟨1, ch, putM m⟩, (some ⟨w5.heap.size, 0, none⟩, k6)), (⟨2, ch, be 8 body.length ++ putT props⟩, (some ⟨w7.heap.size, 0, none⟩, k8))] := ⟨_, rfl⟩
  have hown : w9.ownsRow w.heap.size 36 3 (.slice (some ⟨w8.heap.size, 0, none⟩) 2 2) zs0.length (zs0.flatMap fzc) := by
    have h := HOWN9.out
    rw [HN2.out, HN5.out] at h
    rw [hzs0]
    exact h
  have hzok : ∀ z ∈ zs0, FZOk (Value.slice (some ⟨w8.heap.size, 0, none⟩) 2 2).ownBlock w9 z := by
    intro z hz
    rw [hzs0] at hz
    simp only [List.mem_cons, List.not_mem_nil, or_false] at hz
    rcases hz with rfl | rfl
    · refine ⟨fun h0 => ?_, H6.out.1, H6.out.2.1⟩
      obtain ⟨b, o, he2, hlt2, hcc⟩ := (H6.out.2.2.1.under h69) h0
      cases he2
      refine ⟨w5.heap.size, 0, rfl, by omega, fun e => ?_, hcc⟩
      have : w8.heap.size = w5.heap.size := by simpa [Value.ownBlock] using e
      omega
    · refine ⟨fun h0 => ?_, H8.out.1, H8.out.2.1⟩
      obtain ⟨b, o, he2, hlt2, hcc⟩ := (H8.out.2.2.1.under h89) h0
      cases he2
      refine ⟨w7.heap.size, 0, rfl, by omega, fun e => ?_, hcc⟩
      have : w8.heap.size = w7.heap.size := by simpa [Value.ownBlock] using e
      omega
  have hmap0 : zs0.map (·.1) = (cutF ch m props body q).take 2 := by rw [hzs0]; rfl
  have HZ0 := Lib.hid (And.intro hown (And.intro hzok hmap0))
  clear h79 h69 h59 hsz5 hsz6 hsz7 hsz8 hsz9 h89 hzs0 hown hzok hmap0 HOWN9 HB9 HB7 H8 H6 HN2 HN5 HB5 HB4 HPUT HML hm1 hm2 hm3 hu hcv6 hcv8 HAT HAT1 HAT3 HT HPT HWF HM HW HB0 HB1 HB3 HR HR2 HR3
  go_loopg [15, 16] ((body.length + q - 1) / q) (rcutRel w ch m props body q)
  case atStart => exact ⟨0, 0, zs0, by simp, by simp, Nat.zero_le _, rfl, HZ0.out.2.2, H09.out, HZ0.out.1, HZ0.out.2.1⟩
  case round =>
    obtain ⟨i, at_, zs, hat, hn, hik, rfl, hzs, hbel, hown, hz⟩ := hrel
    have hmayc := HC.out.2.2.2.1
    by_cases hlt : at_ < body.length
    · have hil : i < (body.length + q - 1) / q := pcs_lt (by omega) (by rw [← hat]; exact hlt)
      obtain ⟨la, lc, rfl⟩ := own_form hown
      have hlen : zs.length = i + 2 := by
        have := congrArg List.length hzs
        rw [List.length_map, List.length_take, cutF_length] at this
        omega
      have hi5 : i ≤ 600 := by
        have h1 : i * 1 ≤ i * q := Nat.mul_le_mul_left _ (by omega)
        omega
      obtain ⟨d, hd⟩ : ∃ d, d = (body.drop at_).take q := ⟨_, rfl⟩
      have hw1 : IntKind.i64.wrap ((at_ : Int) + (q : Int)) = ((at_ + q : Nat) : Int) := by rw [IntWalk.i64_in _ (by omega)]; omega
      have h0a : (0 : Int) ≤ (at_ : Int) := by omega
      have hlti : (at_ : Int) < (body.length : Int) := by omega
      obtain ⟨kd, w1, hcv, hkd, hkdm, hatd, hbd, hzd⟩ := conv_bytes d (by rw [hd, List.length_take, List.length_drop]; omega) wr
      obtain ⟨D, hD⟩ : ∃ D, d.length = D := ⟨_, rfl⟩
      have hbw1 : Below w.heap.size w w1 := hbel.trans (hbd.mono hbel.size)
      have hown1 := World.ownsRow.below1 hown hbd
      have hz1 : ∀ z ∈ zs, FZOk (Value.slice la zs.length lc).ownBlock w1 z := fun z hzz => ⟨(hz z hzz).dat.below hbd, (hz z hzz).len, (hz z hzz).max⟩
      have hlb := hown.lt
      have hzn : FZOk (Value.slice la zs.length lc).ownBlock w1 (⟨3, ch, d⟩, (some ⟨wr.heap.size, 0, none⟩, kd)) := by
        refine ⟨fun h0 => ?_, hkd, hkdm⟩
        obtain ⟨b, o, he2, hlt2, hcc⟩ := hatd h0
        cases he2
        exact ⟨wr.heap.size, 0, rfl, hlt2, fun e => (by have := hlb _ e; omega), hcc⟩
      have hbs1 : w.heap.size ≤ w1.heap.size := hbw1.size
      have hzl : zs.length ≤ 1000000000 := by omega
      have HS := Lib.hid (And.intro hat (And.intro hzs (And.intro hd (And.intro hil hn))))
      have HDL := Lib.hid hD
      have HOWN1 := Lib.hid hown1
      have HBW1 := Lib.hid hbw1
      have HZ1 := Lib.hid (And.intro hz1 hzn)
      rw [hD] at hcv
      clear hat hn hik hzs hbel hown hz hlen hkd hkdm hatd hbd hzd hbw1 hown1 hz1 hlb hzn hD HZ0 H09
      by_cases hmm : at_ + q < body.length
      case pos =>
        have hs := extract_list body at_ (at_ + q)
        rw [show at_ + q - at_ = q by omega, ← hd] at hs
        have hmi : ((at_ + q : Nat) : Int) < (body.length : Int) := by omega
        clear hd hmm
        go_wp2_with (at_builtin; refine put_frame (⟨3, ch, d⟩, (some ⟨wr.heap.size, 0, none⟩, kd)) rfl (.tmp 95) (.tmp 108) rfl HOWN1.out hbs1 hzl (by rw [← HDL.out]; rfl) rfl _ rfl rfl ?_; intro g4 cap4 w4 hown4 hg4 hat4; have HOWN4 := Lib.hid hown4; have HG4 := Lib.hid hg4; have HAT4 := Lib.hid hat4; clear hown4 hg4 hat4)
        go_roundg ((body.length + q - 1) / q - (i + 1))
        case measure => have := HS.out.2.2.2.1; have := HS.out.2.2.2.2; omega
        case rel =>
          refine ⟨i + 1, at_ + q, zs ++ [(⟨3, ch, d⟩, (some ⟨wr.heap.size, 0, none⟩, kd))], by rw [Nat.succ_mul, ← HS.out.1], rfl, HS.out.2.2.2.1, rfl, ?_, HBW1.out.grown HG4.out hbs1 (fun k e => (World.ownsRow.lt HOWN1.out k e).1), HOWN4.out, ?_⟩
          · rw [List.map_append, HS.out.2.1, cutF_step HS.out.2.2.2.1, ← HS.out.1, ← HS.out.2.2.1]
            rfl
          · intro z hz
            have hk : ∀ z, FZOk (Value.slice la zs.length lc).ownBlock w1 z → FZOk (Value.slice (some ⟨g4, 0, none⟩) (zs.length + 1) cap4).ownBlock w4 z := fun z h =>
              ⟨h.dat.grown HG4.out (fun g e => by
                have eg : g4 = g := by simpa [Value.ownBlock] using e
                rcases HAT4.out with h1 | h1
                · exact .inl (by rw [h1, eg])
                · exact .inr (by omega)), h.len, h.max⟩
            rcases List.mem_append.1 hz with hz | hz
            · exact hk z (HZ1.out.1 z hz)
            · obtain rfl := List.mem_singleton.1 hz
              exact hk _ HZ1.out.2
      case neg =>
        have hs := slice_list body at_ body.length (by omega) (Nat.le_refl _) wr
        rw [show (body.drop at_).take (body.length - at_) = d by rw [hd, List.take_of_length_le (by simp), List.take_of_length_le (by simp; omega)]] at hs
        have hmi : ¬ ((at_ + q : Nat) : Int) < (body.length : Int) := by omega
        clear hd hmm
        go_wp2_with (at_builtin; refine put_frame (⟨3, ch, d⟩, (some ⟨wr.heap.size, 0, none⟩, kd)) rfl (.tmp 95) (.tmp 108) rfl HOWN1.out hbs1 hzl (by rw [← HDL.out]; rfl) rfl _ rfl rfl ?_; intro g4 cap4 w4 hown4 hg4 hat4; have HOWN4 := Lib.hid hown4; have HG4 := Lib.hid hg4; have HAT4 := Lib.hid hat4; clear hown4 hg4 hat4)
        go_roundg ((body.length + q - 1) / q - (i + 1))
        case measure => have := HS.out.2.2.2.1; have := HS.out.2.2.2.2; omega
        case rel =>
          refine ⟨i + 1, at_ + q, zs ++ [(⟨3, ch, d⟩, (some ⟨wr.heap.size, 0, none⟩, kd))], by rw [Nat.succ_mul, ← HS.out.1], rfl, HS.out.2.2.2.1, rfl, ?_, HBW1.out.grown HG4.out hbs1 (fun k e => (World.ownsRow.lt HOWN1.out k e).1), HOWN4.out, ?_⟩
          · rw [List.map_append, HS.out.2.1, cutF_step HS.out.2.2.2.1, ← HS.out.1, ← HS.out.2.2.1]
            rfl
          · intro z hz
            have hk : ∀ z, FZOk (Value.slice la zs.length lc).ownBlock w1 z → FZOk (Value.slice (some ⟨g4, 0, none⟩) (zs.length + 1) cap4).ownBlock w4 z := fun z h =>
              ⟨h.dat.grown HG4.out (fun g e => by
                have eg : g4 = g := by simpa [Value.ownBlock] using e
                rcases HAT4.out with h1 | h1
                · exact .inl (by rw [h1, eg])
                · exact .inr (by omega)), h.len, h.max⟩
            rcases List.mem_append.1 hz with hz | hz
            · exact hk z (HZ1.out.1 z hz)
            · obtain rfl := List.mem_singleton.1 hz
              exact hk _ HZ1.out.2
    · have hlti : ¬ (at_ : Int) < (body.length : Int) := by omega
      have hend : (body.length + q - 1) / q ≤ i := pcs_end (by omega) (by rw [← hat]; omega)
      have hcut : zs.map (·.1) = cutF ch m props body q := by rw [hzs, List.take_of_length_le (by rw [cutF_length]; omega)]
      obtain ⟨a7, c7, rfl, hfr⟩ := frsAt_row hown hz
      rw [hcut] at hfr ⊢
      have HFR := Lib.hid hfr
      have HBL := Lib.hid hbel
      obtain ⟨N7, hN7⟩ : ∃ N, N = (cutF ch m props body q).length := ⟨_, rfl⟩
      rw [← hN7]
      have HN7 := Lib.hid hN7
      clear hfr hbel hcut hzs hown hz hN7 hat hn hik hend HZ0 H09
      go_wp2_with fail
      go_ret2
      refine ⟨HBL.out, .inr (.inr ⟨HC.out, HMT.out, HM3.out, a7, c7, ?_, HFR.out⟩)⟩
      rw [HN7.out]
      rfl

end Go.Proofs.Ytjnnpgmgjdhfjaa
