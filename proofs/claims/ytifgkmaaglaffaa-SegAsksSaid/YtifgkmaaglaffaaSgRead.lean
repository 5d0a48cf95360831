/-
  Read of package seg, walked.
-/
import Derived.Test.YtifgkmaaglaffaaSgRows
import Derived.Test.YtifgkmaaglaffaaSgFirst
import Derived.Test.YtifgkmaaglaffaaScope
namespace Go.Proofs.Ytifgkmaaglaffaa.Sg
open Go.RowKit
set_option linter.unusedVariables false
variable {B : Nat}

/-- how many bytes the records at b's beginning have. -/
def rdN (b : List UInt8) : Nat := (catR (rdL b)).length
def ReadR (l : List UInt8) (w : World) (e : Ending) (w' : World) : Prop :=
  ∃ a c, e = .returned (.tuple #[.slice a (rdL l).length c, .int .i64 (rdN l)]) ∧ BbsAt w'.heap.size w' a c (rdL l) ∧ Below w.heap.size w w'
structure RdIn (W w' : World) (l : List UInt8) (r : Nat) (zs : List BZ) (v : Value) : Prop where
  le : r ≤ l.length
  got : zs.map (·.1) ++ rdL (l.drop r) = rdL l
  num : r + rdN (l.drop r) = rdN l
  few : zs.length ≤ r
  row : OwnBB w' W.heap.size v zs
  bel : Below W.heap.size W w'
def readRel (a : Option Addr) (cap : Nat) (l : List UInt8) (W : World) (m : Nat) (a' : Act) (w' : World) : Prop :=
  ∃ (r : Nat) (zs : List BZ) (v : Value) (u6 u7 u8 u9 u10 u11 u12 u13 u14 u15 u16 u17 u18 u19 u20 u21 u22 u23 u24 u25 : Value), a' = { tmps := #[.slice a l.length cap, undef, .slice none 0 0, .int .i64 0, v, .int .i64 r, u6, u7, u8, u9, u10, u11, u12, u13, u14, u15, u16, u17, u18, u19, u20, u21, u22, u23, u24, u25], defers := [] } ∧ m = l.length - r ∧ RdIn W w' l r zs v

set_option maxRecDepth 100000 in
set_option maxHeartbeats 1000000 in
theorem read_any (a : Option Addr) (cap : Nat) (l : List UInt8) (hl : l.length ≤ cap) (hcap : cap ≤ maxLen) (hn : a = none → cap = 0) (w : World) (hat : BytesAt B w a l) (hl9 : l.length ≤ 1000000) (hB : B ≤ w.heap.size) :
    Calls Try.prog 14 #[.slice a l.length cap] w (ReadR l w) := by
  have HAT := Lib.hid hat
  have HN := Lib.hid hn
  have HCAP := Lib.hid hcap
  have hcap2 : cap ≤ 9223372036854775807 := by unfold maxLen at hcap; omega
  clear hat hn hcap
  go_enter Try.func14, Try.ntmps14
  go_wp2
  refine wp_scope_ghost 0 (readRel a cap l w) rfl ?_ ?_
  · intro H hb'
    have HBK := Lib.hid hb'
    clear hb'
    go_wp2
    go_step3
    rename_i hK
    refine hK _ _ (HBK.out l.length _ _ ⟨0, [], .slice none 0 0, ?_⟩)
    repeat apply Exists.intro
    exact ⟨rfl, rfl, ⟨Nat.zero_le _, by simp, by simp, by simp, OwnBB.nil _ _, Below.refl _ _⟩⟩
  · rintro m a' w' ⟨r, zs, v, u6, u7, u8, u9, u10, u11, u12, u13, u14, u15, u16, u17, u18, u19, u20, u21, u22, u23, u24, u25, rfl, rfl, hin⟩ H hH
    have HIN := Lib.hid hin
    have hle := hin.le
    obtain ⟨a2, hat2, hn2, hrun⟩ := back_bytes (HAT.out.under (hin.bel.mono hB)) hl HCAP.out HN.out r hin.le
    obtain ⟨n2, hn2e⟩ : ∃ n2, n2 = (l.drop r).length := ⟨_, rfl⟩
    have hn2l : n2 = l.length - r := by rw [hn2e, List.length_drop]
    have HN2L := Lib.hid hn2l
    have HN2 := Lib.hid hn2e
    rw [← hn2e] at hrun
    have HFI := Lib.hid (first_any (B := B) a2 (cap - r) (l.drop r) (by rw [← hn2e]; omega) (by have := HCAP.out; omega) w' hat2)
    rw [← hn2e] at HFI
    clear hin hat2 hn2 hn2e hn2l
    have hrc : (r : Int) ≤ (cap : Int) := by omega
    go_wp2_with fail
    refine HFI.out.mono ?_
    rintro e w1 ⟨v1, rfl, ⟨a1, c1, rfl, hl1, hm1, hat1⟩, hb1⟩
    have HL1 := Lib.hid hl1
    have HM1 := Lib.hid hm1
    have HA1 := Lib.hid hat1
    have HB1 := Lib.hid hb1
    clear hl1 hm1 hat1 hb1
    by_cases h0 : firstF (l.drop r) = []
    · have HZ : Hid (rdL (l.drop r) = []) := Lib.hid (rdL_nil h0)
      rw [h0]
      have hlen0 : ((([] : List UInt8).length : Nat) : Int) = 0 := rfl
      obtain ⟨av, cv, hav, hbb⟩ := (HIN.out.row.below HB1.out).at
      have hg : zs.map (·.1) = rdL l := by
        have := HIN.out.got
        rwa [HZ.out, List.append_nil] at this
      rw [hg] at hav hbb
      have hr : r = rdN l := by
        have := HIN.out.num
        unfold rdN at this ⊢
        rw [HZ.out] at this
        simpa [catR] using this
      have HBB := Lib.hid hbb
      have HR := Lib.hid hr
      subst hav
      clear h0 hg hbb hr
      go_wp2_with fail
      go_ret2
      exact ⟨_, _, by rw [← HR.out]; rfl, HBB.out, HIN.out.bel.trans (HB1.out.mono HIN.out.bel.size)⟩
    · obtain ⟨d, hd⟩ : ∃ d, d = firstF (l.drop r) := ⟨_, rfl⟩
      have hle2 := first_le h0
      have hok := first_ok h0
      have HC : Hid (rdL (l.drop r) = d :: rdL (l.drop (r + (d.length + 6)))) := Lib.hid (by rw [rdL_cons h0, ← hd, List.drop_drop])
      rw [← hd] at hle2 hok HL1 HA1 ⊢
      rw [← HN2.out, HN2L.out] at hle2
      have hd1 := hok.2.1
      have hd2 := hok.2.2
      have hdne : ((d.length : Int) == 0) = false := by rw [beq_eq_false_iff_ne]; omega
      have HCL := Lib.hid (bclone_any (B := B) a1 c1 d HL1.out HM1.out (by omega) w1 HA1.out)
      have HROW := Lib.hid (HIN.out.row.below HB1.out)
      have hfew := HIN.out.few
      have hzl : zs.length ≤ 1000000000 := by omega
      clear hok h0 hd
      go_wp2_with fail
      refine HCL.out.mono ?_
      rintro e w2 ⟨v2, rfl, hbf2, hb2⟩
      have hrow2 := HROW.out.below hb2
      obtain ⟨a3, c3, rfl, hz⟩ := off_new hbf2 (row := v.ownBlock) (fun k e => (World.ownsRow.lt HROW.out.row k e).2)
      have HZ := Lib.hid hz
      have HROW2 := Lib.hid hrow2
      have HB2 := Lib.hid (HIN.out.bel.trans ((HB1.out.trans (hb2.mono HB1.out.size)).mono HIN.out.bel.size))
      clear hbf2 hb2 hrow2 hz
      go_wp2_with (at_builtin; refine put_bz (w := w2) (zs := zs) d rfl (.tmp 16) (.tmp 19) rfl HROW2.out HZ.out HB2.out.size hzl rfl rfl _ rfl rfl ?_; intro v4 w4 hrow4 hg4; have HROW4 := Lib.hid hrow4; have HB4 := Lib.hid (HB2.out.grown hg4 HB2.out.size (fun k e => (World.ownsRow.lt HROW2.out.row k e).1)); clear hrow4 hg4)
      go_step3
      refine ⟨rfl, hH (l.length - (r + (d.length + 6))) _ _ (by omega) ⟨r + (d.length + 6), zs ++ [(d, a3, c3)], v4, ?_⟩⟩
      repeat apply Exists.intro
      refine ⟨?_, rfl, ⟨by omega, ?_, ?_, by simp; omega, HROW4.out, HB4.out⟩⟩
      · rw [show ((r + (d.length + 6) : Nat) : Int) = (r : Int) + (6 + (d.length : Int)) by omega]
      · have := HIN.out.got
        rw [HC.out] at this
        rw [← this]
        simp
      · have := HIN.out.num
        unfold rdN at this ⊢
        rw [HC.out, catR_cons, List.length_append, recF_length] at this
        omega

end Go.Proofs.Ytifgkmaaglaffaa.Sg
