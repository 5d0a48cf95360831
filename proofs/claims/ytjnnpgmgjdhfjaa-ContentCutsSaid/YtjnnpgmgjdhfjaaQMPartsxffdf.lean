/-
  mayTable, MayTable, May.
  putValue, walked.
  putTable and Put, walked.
  A call in memory; package method's text, number, setNumber, walked.
  package method's Parts, walked.
-/
import Derived.Test.YtjnnpgmgjdhfjaaQMayxfabf
import Derived.Deep.RegionHeld3
import Derived.Deep.QuietTactic
import Derived.BigQuiet
import Derived.IntWalk
import Derived.Test.YtjnnpgmgjdhfjaaQCLeafxefbf
import Derived.Test.YtjnnpgmgjdhfjaaQMDatxdcef
import Derived.Handy
namespace Go.Proofs.Ytjnnpgmgjdhfjaa
open Go.RowKit
set_option linter.unusedVariables false

theorem name_yes {a : Option Addr} {cap : Nat} {l : List It} {k : Nat} (hk : k ≤ l.length) (nm : ByteArray) (hs : nm.size ≤ maxLen) (w : World) (hl : Tb w a cap l) (hy : NameOk (l.take k) nm) :
    Calls Try.prog 71 #[.string nm, .slice a k cap] w fun e w' => e = .returned (.bool true) ∧ w = w' := by
  have h := name_any nm hs w (hl.take hk)
  rw [List.length_take, Nat.min_eq_left hk] at h
  refine h.mono ?_
  rintro e w' ⟨r, hr, rfl, rfl⟩
  exact ⟨by rw [hr.2 hy], rfl⟩
theorem name_no {a : Option Addr} {cap : Nat} {l : List It} {k : Nat} (hk : k ≤ l.length) (nm : ByteArray) (hs : nm.size ≤ maxLen) (w : World) (hl : Tb w a cap l) (hy : ¬ NameOk (l.take k) nm) :
    Calls Try.prog 71 #[.string nm, .slice a k cap] w fun e w' => e = .returned (.bool false) ∧ w' = w := by
  have h := name_any nm hs w (hl.take hk)
  rw [List.length_take, Nat.min_eq_left hk] at h
  refine h.mono ?_
  rintro e w' ⟨r, hr, rfl, rfl⟩
  cases r
  · exact ⟨rfl, rfl⟩
  · exact absurd (hr.1 rfl) hy

theorem Below.drewN {B : Nat} {a w : World} (h : Below B a w) (n : Nat) : Below B a (w.drewN n) := ⟨h.os, h.tape, h.output, h.size, h.block⟩

def mayRel (a : Option Addr) (cap : Nat) (l : List It) (d : Nat) (w : World) (n : Nat) (a' : Act) (w' : World) : Prop :=
  Below w.heap.size w w' ∧ ∃ (k : Nat) (u6 u7 u8 u9 u10 u11 u12 u13 u14 u15 u16 u17 u18 u19 u20 u21 u22 u23 u24 u25 u26 u27 u28 u29 u30 u31 u32 u33 u34 u35 u36 u37 u38 u39 : Value), a' = { tmps := #[.slice a l.length cap, .int .i64 d, undef, undef, .bool false, .int .i64 k, u6, u7, u8, u9, u10, u11, u12, u13, u14, u15, u16, u17, u18, u19, u20, u21, u22, u23, u24, u25, u26, u27, u28, u29, u30, u31, u32, u33, u34, u35, u36, u37, u38, u39], defers := [] } ∧ k ≤ l.length ∧ n = l.length - k ∧ Upto (d + 1) k l

set_option maxRecDepth 100000 in
set_option maxHeartbeats 4000000 in
theorem mayTab_any : ∀ (n : Nat) {a : Option Addr} {cap : Nat} {l : List It} (_ : weigh l ≤ n) (d : Nat) (_ : d ≤ 5) (w : World) (_ : Tb w a cap l),
    Calls Try.prog 58 #[.slice a l.length cap, .int .i64 d] w (SaysB (MayT d l) w)
  | 0, a, cap, l, h, _, _, _, _ => by have := weigh_pos l; omega
  | n + 1, a, cap, l, hn, d, hd, w, hl => by
    have hlen := hl.len
    unfold maxLen at hlen
    by_cases h4 : 4 < d
    · go_enter Try.func58, Try.ntmps58
      go_wp2
      go_step3
      go_wp2
      go_ret
      exact ⟨false, ⟨(fun h => by cases h), fun h => absurd h.1 (by omega)⟩, rfl, Below.refl _ _⟩
    by_cases h32 : 32 < (l.length : Int)
    · go_enter Try.func58, Try.ntmps58
      go_wp2
      go_step3
      go_wp2
      go_ret
      exact ⟨false, ⟨(fun h => by cases h), fun h => absurd h.2.1 (by omega)⟩, rfl, Below.refl _ _⟩
    go_enter Try.func58, Try.ntmps58
    go_wp2
    refine wp_scope_ghost 0 (mayRel a cap l d w) rfl ?_ ?_
    · intro H hb
      go_wp2
      go_step3
      rename_i hK
      refine hK _ _ (hb l.length _ _ ⟨Below.refl _ _, 0, ?_⟩)
      repeat apply Exists.intro
      exact ⟨rfl, Nat.zero_le _, rfl, upto_zero _ _⟩
    · rintro m a' w' ⟨hbel, k, u6, u7, u8, u9, u10, u11, u12, u13, u14, u15, u16, u17, u18, u19, u20, u21, u22, u23, u24, u25, u26, u27, u28, u29, u30, u31, u32, u33, u34, u35, u36, u37, u38, u39, rfl, hk, rfl, hup⟩ H hH
      by_cases hlt : k < l.length
      · obtain ⟨b, o, a1, cap1, rfl, _, hi, ht⟩ := (hl.below hbel).get hlt
        have hb := hi.c0
        have hc1 := hi.c1
        have hc2 := hi.c2
        have hc3 := hi.c3
        have hc4 := hi.c4
        have k0 : (0 : Int) ≤ (k : Int) := by omega
        have k1 : (k : Int) < (l.length : Int) := by omega
        have k2 : (k : Int) ≤ (cap : Int) := by omega
        by_cases hno : NameOk (l.take k) l[k].name
        · have HN := Lib.hid hno
          clear hno
          have HT := Lib.hid ht
          have HW := Lib.hid (weigh_mem (List.getElem_mem hlt))
          have hs1 : IntKind.i64.wrap ((d : Int) + 1) = ((d + 1 : Nat) : Int) := by rw [IntWalk.i64_in _ (by omega)]; omega
          clear ht
          have KS : ∀ wx, Below w'.heap.size w' wx → wx.cell? ⟨b, o + k * 5, none⟩ = some (.string l[k].name) ∧ wx.cell? ⟨b, o + k * 5 + 1, none⟩ = some (.int .i64 l[k].kind) ∧ wx.cell? ⟨b, o + k * 5 + 2, none⟩ = some (.int .i64 l[k].n) ∧ wx.cell? ⟨b, o + k * 5 + 3, none⟩ = some (.string l[k].s) ∧ wx.cell? ⟨b, o + k * 5 + 4, none⟩ = some (.slice a1 l[k].sub.length cap1) ∧ Below w'.heap.size w' wx := by
            intro wx hx
            have hbk := lt_of_cell hb
            exact ⟨(hx.cell hbk).trans hb, (hx.cell hbk).trans hc1, (hx.cell hbk).trans hc2, (hx.cell hbk).trans hc3, (hx.cell hbk).trans hc4, hx⟩
          have KH := Lib.hid KS
          have HI := Lib.hid hi
          have HL := Lib.hid (hl.below hbel)
          clear KS hi
          go_wp2_with fail
          go_region_held3 (fun wx => wx.cell? ⟨b, o + k * 5, none⟩ = some (.string l[k].name) ∧ wx.cell? ⟨b, o + k * 5 + 1, none⟩ = some (.int .i64 l[k].kind) ∧ wx.cell? ⟨b, o + k * 5 + 2, none⟩ = some (.int .i64 l[k].n) ∧ wx.cell? ⟨b, o + k * 5 + 3, none⟩ = some (.string l[k].s) ∧ wx.cell? ⟨b, o + k * 5 + 4, none⟩ = some (.slice a1 l[k].sub.length cap1) ∧ Below w'.heap.size w' wx)
            (first | exact KH.out _ (Below.refl _ _).drew | exact KH.out _ (by assumption))
            (first
              | (go_at_call 71; have hbx := (by assumption : _ ∧ _ ∧ _ ∧ _ ∧ _ ∧ Below _ _ _).2.2.2.2.2; refine (name_yes (by omega) _ HI.out.m0 _ (HL.out.below hbx) HN.out).mono ?_; rintro e w2 ⟨rfl, rfl⟩)
              | (go_at_call 72; have hbx := (by assumption : _ ∧ _ ∧ _ ∧ _ ∧ _ ∧ Below _ _ _).2.2.2.2.2; refine (may_any (d + 1) l[k] HI.out.k2 a1 cap1 HI.out.m3 (Nat.le_trans (HT.out.len.1) HT.out.len.2) _ (fun w1 hw1 => mayTab_any n (by have := HW.out; omega) (d + 1) (by omega) w1 ((HT.out.below hbx).below hw1))).mono ?_; rintro e w2 ⟨r, hr, rfl, hb2⟩; have hbz := hbx.trans (hb2.mono hbx.size); clear hb2 hbx))
          clear hs1
          have HM := Lib.hid (hbel.trans (hbz.mono hbel.size))
          rename_i hHeld
          clear hHeld hbz hbx
          cases r
          · replace hr : ¬ It.May (d + 1) l[k] := by simpa using hr
            go_wp2_with fail
            simp only [Exit.jump]
            go_ret
            refine ⟨false, ⟨(fun h => by cases h), fun h => ?_⟩, rfl, HM.out⟩
            rw [mayT_upto] at h
            exact absurd ((upto_succ hlt).1 (upto_mono h.2.2 (by omega))).2.2 hr
          · replace hr : It.May (d + 1) l[k] := by simpa using hr
            have HR := Lib.hid hr
            clear hr
            go_wp2_with fail
            go_step3
            refine ⟨rfl, hH (l.length - (k + 1)) _ _ (by omega) ⟨HM.out, k + 1, ?_⟩⟩
            repeat apply Exists.intro
            exact ⟨rfl, by omega, rfl, (upto_succ hlt).2 ⟨hup, HN.out, HR.out⟩⟩
        · have HN := Lib.hid hno
          clear hno
          go_wp2_with fail
          go_quiet ((go_at_call 71; exact Calls.quiet_of_same (name_no (by omega) _ hi.m0 _ ((hl.below hbel).drewN _) HN.out)))
          go_wp2_with fail
          simp only [Exit.jump]
          go_ret
          refine ⟨false, ⟨(fun h => by cases h), fun h => ?_⟩, rfl, ?_⟩
          · rw [mayT_upto] at h
            exact absurd ((upto_succ hlt).1 (upto_mono h.2.2 (by omega))).2.1 HN.out
          · exact hbel.trans (Below.drewN (Below.refl _ _) _)
      · have hke : k = l.length := by omega
        go_wp2
        simp only [Exit.jump]
        go_ret
        refine ⟨true, ⟨fun _ => ?_, fun _ => rfl⟩, rfl, hbel⟩
        rw [mayT_upto, ← hke]
        exact ⟨by omega, by omega, hup⟩

set_option maxHeartbeats 1000000 in
theorem mayTable_any {a : Option Addr} {cap : Nat} {l : List It} (w : World) (hl : Tb w a cap l) :
    Calls Try.prog 37 #[.slice a l.length cap] w (SaysB (MayT 1 l) w) := by
  go_enter Try.func37, Try.ntmps37
  go_wp2_with fail
  refine (mayTab_any _ (Nat.le_refl _) 1 (by omega) _ hl).mono ?_
  rintro e w' ⟨r, hr, rfl, hb⟩
  have HR := Lib.hid hr
  clear hr
  go_wp2_with fail
  go_ret
  exact ⟨r, HR.out, rfl, hb⟩

end Go.Proofs.Ytjnnpgmgjdhfjaa

namespace Go.Proofs.Ytjnnpgmgjdhfjaa
open Go.RowKit
set_option linter.unusedVariables false

/-- E was put behind L, or more than is let. -/
def Grew (L E R : List UInt8) : Prop := (R.length ≤ 3000 → R = L ++ E) ∧ (3000 < R.length → 3000 < (L ++ E).length)
theorem Grew.exact (L E : List UInt8) : Grew L E (L ++ E) := ⟨fun _ => rfl, fun h => h⟩
def PutP (base : Nat) (v : Value) (L E : List UInt8) (N : Nat) (w : World) (e : Ending) (w' : World) : Prop :=
  ∃ (v' : Value) (R : List UInt8), e = .returned v' ∧ Buf w' base v' R ∧ Onto w v w' v' ∧ L.length < R.length ∧ R.length ≤ N ∧ Grew L E R

theorem wrap_u64_of (n : Int) : IntKind.u64.wrap n = ((u64 n : Nat) : Int) := by
  rw [IntKind.wrap_u64]; unfold u64; omega
theorem u64_lt (n : Int) : u64 n < 18446744073709551616 := by unfold u64; omega

/-- the box in which a value lies, behind an append: as it was. -/
theorem box_keep {w w2 : World} {v v2 : Value} {base : Nat} {L : List UInt8} {cs : Array Value} {t : TypeId} (hb : Buf w base v L) (ho : Onto (w.alloc (.cells cs t)) v w2 v2) : w2.heap[w.heap.size]? = some (.cells cs t (0, 0)) := by
  refine (ho.block (by simp) (fun e => ?_)).trans (heap_alloc_new w _)
  have := (World.ownsRow.lt hb _ e).2
  omega

theorem Onto.undrew {w w' : World} {v v' : Value} (h : Onto w.drew v w' v') : Onto w v w' v' := ⟨⟨h.grew.os, h.grew.tape, h.grew.output, h.grew.size, h.grew.block⟩, h.own⟩
/-- the box is not the buffer's block. -/
theorem box_ne {w w2 : World} {v v2 : Value} {base : Nat} {L : List UInt8} {o : Obj} (hb : Buf w base v L) (ho : Onto (w.alloc o) v w2 v2) : v2.ownBlock ≠ some w.heap.size := by
  intro e
  rcases ho.own with h | ⟨g, h, hg⟩
  · have := (World.ownsRow.lt hb _ (h.symm.trans e)).2
    omega
  · rw [h] at e
    cases e
    simp at hg
    omega
theorem box_lt {w w2 : World} {v v2 : Value} {o : Obj} (ho : Onto (w.alloc o) v w2 v2) : w.heap.size < w2.heap.size := by
  have := ho.grew.size
  simp at this
  omega
theorem box_cells {w : World} {g : Nat} {k n : Int} {s : ByteArray} {v : Value} {t : TypeId} (h : w.heap[g]? = some (.cells #[.int .i64 k, .int .i64 n, .string s, v] t (0, 0))) :
    w.cell? ⟨g, 0, none⟩ = some (.int .i64 k) ∧ w.cell? ⟨g, 1, none⟩ = some (.int .i64 n) ∧ w.cell? ⟨g, 2, none⟩ = some (.string s) ∧ w.cell? ⟨g, 3, none⟩ = some v := by
  refine ⟨?_, ?_, ?_, ?_⟩ <;> (rw [cell_of_row w _ _ _ _ _ h]; rfl)

set_option maxRecDepth 100000 in
set_option maxHeartbeats 4000000 in
theorem putV0_any (base : Nat) (v : Value) (L : List UInt8) (nm s : ByteArray) (n : Int) (a : Option Addr) (cap : Nat) (sub : List It) (w : World) (hb : Buf w base v L) (hbase : base ≤ w.heap.size) (hL : L.length ≤ 3050) (N : Nat) (hN : L.length + 205 ≤ N) :
    Calls Try.prog 59 #[v, .agg #[.int .i64 0, .int .i64 n, .string s, .slice a sub.length cap]] w (PutP base v L (It.mk nm 0 n s sub).putV N w) := by
  have hle : L.length ≤ 1000000 := by omega
  have HB := Lib.hid hb
  have hb1 : Buf (w.alloc (.cells #[.int .i64 0, .int .i64 n, .string s, .slice a sub.length cap] 72)) base v L := World.ownsRow.alloc HB.out _
  have HB1 := Lib.hid hb1
  clear hb hb1
  go_enter Try.func59, Try.ntmps59
  go_wp2_with (at_builtin; refine put_one rfl (.tmp 5) (.tmp 9) rfl HB1.out (Nat.le_trans hbase (by simp)) hle 86 (by rfl) rfl (w.heap.size + 1) (by simp) rfl ?_; intro v2 w2 hb2 hon2; have HB2 := Lib.hid hb2; have HO2 := Lib.hid hon2; obtain ⟨c0, c1, c2, c3⟩ := box_cells (box_keep HB.out hon2); have hz2 := hon2.alloc.grew.size; clear hb2 hon2)
  go_ret
  exact ⟨_, _, rfl, HB2.out, HO2.out.alloc, by simp, by simp; omega, Grew.exact _ _⟩

set_option maxRecDepth 100000 in
set_option maxHeartbeats 4000000 in
theorem putV1_any (base : Nat) (v : Value) (L : List UInt8) (nm s : ByteArray) (n : Int) (a : Option Addr) (cap : Nat) (sub : List It) (w : World) (hb : Buf w base v L) (hbase : base ≤ w.heap.size) (hL : L.length ≤ 3050) (N : Nat) (hN : L.length + 205 ≤ N) :
    Calls Try.prog 59 #[v, .agg #[.int .i64 1, .int .i64 n, .string s, .slice a sub.length cap]] w (PutP base v L (It.mk nm 1 n s sub).putV N w) := by
  have hle : L.length ≤ 1000000 := by omega
  have HB := Lib.hid hb
  have hb1 : Buf (w.alloc (.cells #[.int .i64 1, .int .i64 n, .string s, .slice a sub.length cap] 72)) base v L := World.ownsRow.alloc HB.out _
  have HB1 := Lib.hid hb1
  clear hb hb1
  have hw := wrap_u64_of n
  go_enter Try.func59, Try.ntmps59
  go_wp2_with (at_builtin; refine put_one rfl (.tmp 5) (.tmp 9) rfl HB1.out (Nat.le_trans hbase (by simp)) hle 116 (by rfl) rfl (w.heap.size + 1) (by simp) rfl ?_; intro v2 w2 hb2 hon2; have HB2 := Lib.hid hb2; have HO2 := Lib.hid hon2; obtain ⟨c0, c1, c2, c3⟩ := box_cells (box_keep HB.out hon2); have hz2 := hon2.alloc.grew.size; clear hb2 hon2)
  refine (putNum_any base v2 _ (u64 n) 1 (u64_lt n) (by omega) _ HB2.out (Nat.le_trans hbase hz2) (by simp; omega)).mono ?_
  rintro e w3 ⟨v3, rfl, hb3, hon3⟩
  have HB3 := Lib.hid hb3
  have HO3 := Lib.hid (HO2.out.trans hon3)
  clear hb3 hon3
  go_wp2_with fail
  go_ret
  have hb3 := HB3.out
  rw [List.append_assoc] at hb3
  exact ⟨_, _, rfl, hb3, HO3.out.alloc, by simp, by simp; omega, Grew.exact _ _⟩

set_option maxRecDepth 100000 in
set_option maxHeartbeats 4000000 in
theorem putV2_any (base : Nat) (v : Value) (L : List UInt8) (nm s : ByteArray) (n : Int) (a : Option Addr) (cap : Nat) (sub : List It) (w : World) (hb : Buf w base v L) (hbase : base ≤ w.heap.size) (hL : L.length ≤ 3050) (N : Nat) (hN : L.length + 205 ≤ N) :
    Calls Try.prog 59 #[v, .agg #[.int .i64 2, .int .i64 n, .string s, .slice a sub.length cap]] w (PutP base v L (It.mk nm 2 n s sub).putV N w) := by
  have hle : L.length ≤ 1000000 := by omega
  have HB := Lib.hid hb
  have hb1 : Buf (w.alloc (.cells #[.int .i64 2, .int .i64 n, .string s, .slice a sub.length cap] 72)) base v L := World.ownsRow.alloc HB.out _
  have HB1 := Lib.hid hb1
  clear hb hb1
  have hw := wrap_u64_of n
  go_enter Try.func59, Try.ntmps59
  go_wp2_with (at_builtin; refine put_one rfl (.tmp 5) (.tmp 9) rfl HB1.out (Nat.le_trans hbase (by simp)) hle 73 (by rfl) rfl (w.heap.size + 1) (by simp) rfl ?_; intro v2 w2 hb2 hon2; have HB2 := Lib.hid hb2; have HO2 := Lib.hid hon2; obtain ⟨c0, c1, c2, c3⟩ := box_cells (box_keep HB.out hon2); have hz2 := hon2.alloc.grew.size; clear hb2 hon2)
  refine (putNum_any base v2 _ (u64 n) 4 (u64_lt n) (by omega) _ HB2.out (Nat.le_trans hbase hz2) (by simp; omega)).mono ?_
  rintro e w3 ⟨v3, rfl, hb3, hon3⟩
  have HB3 := Lib.hid hb3
  have HO3 := Lib.hid (HO2.out.trans hon3)
  clear hb3 hon3
  go_wp2_with fail
  go_ret
  have hb3 := HB3.out
  rw [List.append_assoc] at hb3
  exact ⟨_, _, rfl, hb3, HO3.out.alloc, by simp, by simp; omega, Grew.exact _ _⟩

set_option maxRecDepth 100000 in
set_option maxHeartbeats 4000000 in
theorem putV3_any (base : Nat) (v : Value) (L : List UInt8) (nm s : ByteArray) (n : Int) (a : Option Addr) (cap : Nat) (sub : List It) (w : World) (hb : Buf w base v L) (hbase : base ≤ w.heap.size) (hL : L.length ≤ 3050) (N : Nat) (hN : L.length + 205 ≤ N) :
    Calls Try.prog 59 #[v, .agg #[.int .i64 3, .int .i64 n, .string s, .slice a sub.length cap]] w (PutP base v L (It.mk nm 3 n s sub).putV N w) := by
  have hle : L.length ≤ 1000000 := by omega
  have HB := Lib.hid hb
  have hb1 : Buf (w.alloc (.cells #[.int .i64 3, .int .i64 n, .string s, .slice a sub.length cap] 72)) base v L := World.ownsRow.alloc HB.out _
  have HB1 := Lib.hid hb1
  clear hb hb1
  have hw := wrap_u64_of n
  go_enter Try.func59, Try.ntmps59
  go_wp2_with (at_builtin; refine put_one rfl (.tmp 5) (.tmp 9) rfl HB1.out (Nat.le_trans hbase (by simp)) hle 108 (by rfl) rfl (w.heap.size + 1) (by simp) rfl ?_; intro v2 w2 hb2 hon2; have HB2 := Lib.hid hb2; have HO2 := Lib.hid hon2; obtain ⟨c0, c1, c2, c3⟩ := box_cells (box_keep HB.out hon2); have hz2 := hon2.alloc.grew.size; clear hb2 hon2)
  refine (putNum_any base v2 _ (u64 n) 8 (u64_lt n) (by omega) _ HB2.out (Nat.le_trans hbase hz2) (by simp; omega)).mono ?_
  rintro e w3 ⟨v3, rfl, hb3, hon3⟩
  have HB3 := Lib.hid hb3
  have HO3 := Lib.hid (HO2.out.trans hon3)
  clear hb3 hon3
  go_wp2_with fail
  go_ret
  have hb3 := HB3.out
  rw [List.append_assoc] at hb3
  exact ⟨_, _, rfl, hb3, HO3.out.alloc, by simp, by simp; omega, Grew.exact _ _⟩

set_option maxRecDepth 100000 in
set_option maxHeartbeats 4000000 in
theorem putV4_any (base : Nat) (v : Value) (L : List UInt8) (nm s : ByteArray) (n : Int) (a : Option Addr) (cap : Nat) (sub : List It) (w : World) (hb : Buf w base v L) (hbase : base ≤ w.heap.size) (hL : L.length ≤ 3050) (N : Nat) (hs : s.size ≤ 200) (hN : L.length + 205 ≤ N) :
    Calls Try.prog 59 #[v, .agg #[.int .i64 4, .int .i64 n, .string s, .slice a sub.length cap]] w (PutP base v L (It.mk nm 4 n s sub).putV N w) := by
  have hle : L.length ≤ 1000000 := by omega
  have HB := Lib.hid hb
  have hb1 : Buf (w.alloc (.cells #[.int .i64 4, .int .i64 n, .string s, .slice a sub.length cap] 72)) base v L := World.ownsRow.alloc HB.out _
  have HB1 := Lib.hid hb1
  clear hb hb1
  have hs2 : IntKind.u64.wrap (s.size : Int) = ((s.size : Nat) : Int) := by rw [IntKind.wrap_u64]; omega
  go_enter Try.func59, Try.ntmps59
  go_wp2_with (at_builtin; refine put_one rfl (.tmp 5) (.tmp 9) rfl HB1.out (Nat.le_trans hbase (by simp)) hle 83 (by rfl) rfl (w.heap.size + 1) (by simp) rfl ?_; intro v2 w2 hb2 hon2; have HB2 := Lib.hid hb2; have HO2 := Lib.hid hon2; obtain ⟨c0, c1, c2, c3⟩ := box_cells (box_keep HB.out hon2); have hz2 := hon2.alloc.grew.size; clear hb2 hon2)
  refine (putText_any base v2 _ s 4 (by decide) (by decide) _ HB2.out (Nat.le_trans hbase hz2) (by simp; omega) (by omega)).mono ?_
  rintro e w3 ⟨v3, rfl, hb3, hon3⟩
  have HB3 := Lib.hid hb3
  have HO3 := Lib.hid (HO2.out.trans hon3)
  clear hb3 hon3
  go_wp2_with fail
  go_ret
  have hb3 := HB3.out
  rw [List.append_assoc] at hb3
  exact ⟨_, _, rfl, hb3, HO3.out.alloc, by simp, by simp; omega, Grew.exact _ _⟩

set_option maxRecDepth 100000 in
set_option maxHeartbeats 4000000 in
theorem putV5_any (d base : Nat) (v : Value) (L : List UInt8) (nm s : ByteArray) (n : Int) (a : Option Addr) (cap : Nat) (sub : List It) (w : World) (hb : Buf w base v L) (hbase : base ≤ w.heap.size) (hL : L.length ≤ 3050) (N : Nat) (hN : max (L.length + 1) 3000 + 300 * (5 - d) ≤ N) (hT : TbU w base a cap sub)
    (ih : ∀ v1 L1 w1, Buf w1 base v1 L1 → base ≤ w1.heap.size → TbU w1 base a cap sub → L1.length ≤ 3100 → Calls Try.prog 38 #[v1, .slice a sub.length cap] w1 (PutP base v1 L1 (putT sub) (max L1.length 3000 + 300 * (5 - d)) w1)) :
    Calls Try.prog 59 #[v, .agg #[.int .i64 5, .int .i64 n, .string s, .slice a sub.length cap]] w (PutP base v L (It.mk nm 5 n s sub).putV N w) := by
  have hle : L.length ≤ 1000000 := by omega
  have HB := Lib.hid hb
  have hb1 : Buf (w.alloc (.cells #[.int .i64 5, .int .i64 n, .string s, .slice a sub.length cap] 72)) base v L := World.ownsRow.alloc HB.out _
  have HB1 := Lib.hid hb1
  clear hb hb1
  go_enter Try.func59, Try.ntmps59
  go_wp2_with (at_builtin; refine put_one rfl (.tmp 5) (.tmp 9) rfl HB1.out (Nat.le_trans hbase (by simp)) hle 70 (by rfl) rfl (w.heap.size + 1) (by simp) rfl ?_; intro v2 w2 hb2 hon2; have HB2 := Lib.hid hb2; have HO2 := Lib.hid hon2; obtain ⟨c0, c1, c2, c3⟩ := box_cells (box_keep HB.out hon2); have hz2 := hon2.alloc.grew.size; clear hb2 hon2)
  refine (ih v2 _ w2 HB2.out (Nat.le_trans hbase hz2) (hT.below (HO2.out.alloc.below HB.out hbase)) (by simp; omega)).mono ?_
  rintro e w3 ⟨v3, R, rfl, hb3, hon3, hlt, hN3, hg3⟩
  have HB3 := Lib.hid hb3
  have HO3 := Lib.hid (HO2.out.trans hon3)
  have HG3 := Lib.hid hg3
  have hlt3 : L.length < R.length := by simp at hlt; omega
  have hN4 : R.length ≤ N := by simp at hN3; omega
  clear hb3 hon3 hg3 hlt hN3
  go_wp2_with fail
  go_ret
  have hg3 := HG3.out
  unfold Grew at hg3
  simp only [List.append_assoc] at hg3
  exact ⟨_, _, rfl, HB3.out, HO3.out.alloc, hlt3, hN4, hg3⟩

end Go.Proofs.Ytjnnpgmgjdhfjaa

namespace Go.Proofs.Ytjnnpgmgjdhfjaa
open Go.RowKit
set_option linter.unusedVariables false

theorem TbU.keep {w w' : World} {B : Nat} {a : Option Addr} {cap : Nat} {l : List It} (h : TbU w B a cap l) (hk : ∀ b, b < B → w'.heap[b]? = w.heap[b]?) : TbU w' B a cap l := by
  obtain ⟨bs, h, hl⟩ := h
  exact ⟨bs, h.keep fun b hb => hk b (hl b hb), hl⟩
theorem PutP.mono {base : Nat} {v : Value} {L E : List UInt8} {N N' : Nat} {w : World} {e : Ending} {w' : World} (h : PutP base v L E N w e w') (hN : N ≤ N') : PutP base v L E N' w e w' := by
  obtain ⟨v', R, h1, h2, h3, h4, h5, h6⟩ := h
  exact ⟨v', R, h1, h2, h3, h4, by omega, h6⟩

theorem putV_any (d : Nat) (x : It) (hm : x.May d) (base : Nat) (v : Value) (L : List UInt8) (a : Option Addr) (cap : Nat) (w : World) (hb : Buf w base v L) (hbase : base ≤ w.heap.size) (hL : L.length ≤ 3050)
    (hT : TbU w base a cap x.sub)
    (ih : MayT d x.sub → ∀ v1 L1 w1, Buf w1 base v1 L1 → base ≤ w1.heap.size → TbU w1 base a cap x.sub → L1.length ≤ 3100 → Calls Try.prog 38 #[v1, .slice a x.sub.length cap] w1 (PutP base v1 L1 (putT x.sub) (max L1.length 3000 + 300 * (5 - d)) w1)) :
    Calls Try.prog 59 #[v, .agg #[.int .i64 x.kind, .int .i64 x.n, .string x.s, .slice a x.sub.length cap]] w (PutP base v L x.putV (max L.length 3000 + 210 + 300 * (5 - d)) w) := by
  obtain ⟨nm, k, n, s, sub⟩ := x
  have hm' := hm
  rw [may_iff] at hm'
  simp only [It.kind_mk, It.n_mk, It.s_mk, It.sub_mk] at *
  rcases hm' with ⟨rfl, h⟩ | ⟨rfl, h⟩ | ⟨rfl, h⟩ | ⟨rfl, h⟩ | ⟨rfl, _, hs, _⟩ | ⟨rfl, _, _, hsub⟩
  · exact putV0_any base v L nm s n a cap sub w hb hbase hL _ (by omega)
  · exact putV1_any base v L nm s n a cap sub w hb hbase hL _ (by omega)
  · exact putV2_any base v L nm s n a cap sub w hb hbase hL _ (by omega)
  · exact putV3_any base v L nm s n a cap sub w hb hbase hL _ (by omega)
  · exact putV4_any base v L nm s n a cap sub w hb hbase hL _ hs (by omega)
  · exact putV5_any d base v L nm s n a cap sub w hb hbase hL _ (by omega) hT (fun v1 L1 w1 h1 h2 h3 h4 => ih hsub v1 L1 w1 h1 h2 h3 h4)

/-- the buffer, with some of its bytes laid anew. -/
theorem Buf.laid {w w' : World} {base g cap start : Nat} {R bs : List UInt8} {cur : Array Value} (h : Buf w base (.slice (some ⟨g, 0, none⟩) R.length cap) R) (hg : w.heap[g]? = some (.cells cur 5 (0, 0)))
    (hfit : start + bs.length ≤ R.length) (hr : Row8 w' g (cur.toList.take start ++ cellsOf bs ++ cur.toList.drop (start + bs.length))) :
    Buf w' base (.slice (some ⟨g, 0, none⟩) R.length cap) (R.take start ++ bs ++ R.drop (start + bs.length)) := by
  rcases h.2 with ⟨h0, _⟩ | ⟨g', cap', cur', hv, hbg, hg', hnc, hcm, hcs, htake⟩
  · cases h0
  · cases hv
    rw [hg] at hg'
    cases hg'
    have hlen : (R.take start ++ bs ++ R.drop (start + bs.length)).length = R.length := by simp; omega
    rw [Nat.mul_one] at hcs htake
    refine ⟨by simp [cellsOf], .inr ⟨g, cap, _, by rw [hlen], hbg, hr, by omega, hcm, ?_, ?_⟩⟩
    · have : cur.toList.length = cap := by simpa using hcs
      simp; omega
    · rw [hlen, Nat.mul_one]
      have hc : cellsOf (R.take start ++ bs ++ R.drop (start + bs.length)) = (cellsOf R).take start ++ cellsOf bs ++ (cellsOf R).drop (start + bs.length) := by
        simp [cellsOf, List.map_take, List.map_drop]
      rw [hc, ← htake]
      have hl1 : (cur.toList.take start ++ cellsOf bs).length = start + bs.length := by
        have : cur.toList.length = cap := by simpa using hcs
        simp; omega
      show (cur.toList.take start ++ cellsOf bs ++ cur.toList.drop (start + bs.length)).take R.length = _
      rw [List.take_append, hl1, List.take_of_length_le (by omega), List.take_take, Nat.min_eq_left (by omega), List.take_drop, show start + bs.length + (R.length - (start + bs.length)) = R.length by omega]

theorem patch_eq {L E R : List UInt8} (h : R = L ++ be 4 0 ++ E) : R.take L.length ++ be 4 (R.length - L.length - 4) ++ R.drop (L.length + 4) = L ++ (be 4 E.length ++ E) := by
  have hl : R.length - L.length - 4 = E.length := by
    have := congrArg List.length h
    simp at this
    omega
  rw [hl]
  subst h
  have h1 : (L ++ be 4 0 ++ E).take L.length = L := by rw [List.append_assoc]; exact List.take_left' rfl
  have h2 : (L ++ be 4 0 ++ E).drop (L.length + 4) = E := List.drop_left' (by simp)
  rw [h1, h2, List.append_assoc]

def putTRel (W : World) (v0 : Value) (base N : Nat) (L : List UInt8) (a : Option Addr) (cap : Nat) (l : List It) (n : Nat) (a' : Act) (w' : World) : Prop :=
  ∃ (k : Nat) (a1 : Option Addr) (c1 : Nat) (R : List UInt8) (u7 u8 u9 u10 u11 u12 u13 u14 u15 u16 u17 u18 u19 u20 u21 u22 u23 u24 u25 u26 u27 u28 u29 u30 u31 u32 u33 u34 u35 u36 u37 u38 u39 u40 u41 u42 u43 u44 u45 u46 : Value), Onto W v0 w' (.slice a1 R.length c1) ∧ Buf w' base (.slice a1 R.length c1) R ∧
    a' = { tmps := #[.slice a1 R.length c1, .slice a l.length cap, undef, undef, .slice none 0 0, .int .i64 L.length, .int .i64 k, u7, u8, u9, u10, u11, u12, u13, u14, u15, u16, u17, u18, u19, u20, u21, u22, u23, u24, u25, u26, u27, u28, u29, u30, u31, u32, u33, u34, u35, u36, u37, u38, u39, u40, u41, u42, u43, u44, u45, u46], defers := [] } ∧ k ≤ l.length ∧ n = l.length - k ∧
    L.length + 4 ≤ R.length ∧ R.length ≤ N ∧ (R.length ≤ 3000 → R = L ++ be 4 0 ++ putAll (l.take k)) ∧ (3000 < R.length → 3000 < (L ++ putT l).length)

set_option maxRecDepth 100000 in
set_option maxHeartbeats 8000000 in
theorem putTab_any : ∀ (n : Nat) {a : Option Addr} {cap : Nat} {l : List It} (_ : weigh l ≤ n) (d : Nat) (_ : MayT d l) (base : Nat) (v : Value) (L : List UInt8) (w : World) (_ : Buf w base v L) (_ : base ≤ w.heap.size) (_ : TbU w base a cap l) (_ : L.length ≤ 3100),
    Calls Try.prog 38 #[v, .slice a l.length cap] w (PutP base v L (putT l) (max L.length 3000 + 300 * (5 - d)) w)
  | 0, a, cap, l, h, _, _, _, _, _, _, _, _, _, _ => by have := weigh_pos l; omega
  | n + 1, a, cap, l, hn, d, hm, base, v, L, w, hb, hbase, hT, hL => by
    obtain ⟨a0, c0, rfl, hlc, hcm⟩ := hb.form
    have hlen := hT.tb.len
    unfold maxLen at hlen hcm
    have hd4 : d ≤ 4 := hm.1
    have HB := Lib.hid hb
    have HM := Lib.hid hm
    clear hb hm
    go_enter Try.func38, Try.ntmps38
    go_wp2
    refine wp_scope_ghost 0 (putTRel w (.slice a0 L.length c0) base (max L.length 3000 + 300 * (5 - d)) L a cap l) rfl ?_ ?_
    · intro H hbk
      have HBK := Lib.hid hbk
      clear hbk
      go_wp2_with fail
      refine (putNum_any base (.slice a0 L.length c0) L 0 4 (by omega) (by omega) _ HB.out hbase (by omega)).mono ?_
      rintro e w2 ⟨v2, rfl, hb2, hon2⟩
      obtain ⟨R2, hR2⟩ : ∃ R2, R2 = L ++ be 4 0 := ⟨_, rfl⟩
      rw [← hR2] at hb2
      obtain ⟨a2, c2, rfl, hlc2, hcm2⟩ := hb2.form
      have HR2 := Lib.hid hR2
      clear hR2
      have HB2 := Lib.hid hb2
      have HO2 := Lib.hid hon2
      clear hb2 hon2
      go_wp2_with fail
      go_step3
      rename_i hK
      refine hK _ _ (HBK.out l.length _ _ ⟨0, a2, c2, R2, ?_⟩)
      repeat apply Exists.intro
      have hR2 := HR2.out
      have hl2 : R2.length = L.length + 4 := by rw [hR2]; simp
      refine ⟨HO2.out, HB2.out, rfl, Nat.zero_le _, rfl, by omega, by omega, fun _ => by rw [hR2]; simp [putAll], fun h => by rw [List.length_append, putT_length]; omega⟩
    · rintro m a' w' ⟨k, a1, c1, R, u7, u8, u9, u10, u11, u12, u13, u14, u15, u16, u17, u18, u19, u20, u21, u22, u23, u24, u25, u26, u27, u28, u29, u30, u31, u32, u33, u34, u35, u36, u37, u38, u39, u40, u41, u42, u43, u44, u45, u46, hon, hb, rfl, hk, rfl, hR4, hRN, hR1, hR2⟩ H hH
      obtain ⟨_, _, hv1, hlc1, hcm1⟩ := hb.form
      cases hv1
      unfold maxLen at hcm1
      have hbel := hon.below HB.out hbase
      have HB1 := Lib.hid hb
      have HO1 := Lib.hid hon
      have HR1 := Lib.hid hR1
      have HR2 := Lib.hid hR2
      clear hb hon hR1 hR2
      by_cases hgo : k < l.length ∧ R.length ≤ 3000
      · obtain ⟨hlt, hR3⟩ := hgo
        obtain ⟨b, o, a2, cap2, rfl, hbB, _, hi, hT2⟩ := (hT.below hbel).get hlt
        have hnm := HM.out.2.2.1 k hlt
        have hn1 : l[k].name.size ≤ 40 := hnm.2.1
        have hmay : l[k].May (d + 1) := (mayAll_iff _ _).1 HM.out.2.2.2 _ (List.getElem_mem hlt)
        have HMY := Lib.hid hmay
        have HI := Lib.hid hi
        have HT2 := Lib.hid hT2
        have HW := Lib.hid (weigh_mem (List.getElem_mem hlt))
        have hc0 := hi.c0
        clear hnm hmay hi hT2
        have hRl : R.length ≤ 1000000 := by omega
        have hb1 := Nat.le_trans hbase hbel.size
        go_wp2_with fail
        refine (putText_any base _ R l[k].name 1 (by decide) (by decide) _ HB1.out hb1 (by omega) (by omega)).mono ?_
        rintro e w3 ⟨v3, rfl, hb3, hon3⟩
        have HB3 := Lib.hid hb3
        have HO3 := Lib.hid (HO1.out.trans hon3)
        have hbl3 := HO3.out.below HB.out hbase
        have hi3 := HI.out.keep ((hbl3.block b hbB).trans (hbel.block b hbB).symm)
        have d0 := hi3.c0
        have d1 := hi3.c1
        have d2 := hi3.c2
        have d3 := hi3.c3
        have d4 := hi3.c4
        clear hb3 hon3 hi3
        go_wp2_with fail
        obtain ⟨R3, hE3⟩ : ∃ R3, R3 = R ++ (be 1 l[k].name.size ++ l[k].name.data.toList) := ⟨_, rfl⟩
        rw [← hE3] at HB3
        have hl3 : R3.length = R.length + 1 + l[k].name.size := by rw [hE3]; simp; omega
        have HE3 := Lib.hid hE3
        have HL3 := Lib.hid hl3
        clear hE3 hl3
        refine (putV_any (d + 1) l[k] HMY.out base v3 R3 a2 cap2 _ HB3.out (Nat.le_trans hbase hbl3.size) (by have := HL3.out; omega) (HT2.out.keep fun i hi => (hbl3.block i hi).trans (hbel.block i hi).symm)
          (fun hsub v1 L1 w1 q1 q2 q3 q4 => putTab_any n (by have := HW.out; omega) (d + 1) hsub base v1 L1 w1 q1 q2 q3 q4)).mono ?_
        rintro e w4 ⟨v4, R4, rfl, hb4, hon4, hlt4, hN4, hg4⟩
        obtain ⟨a4, c4, rfl, hlc4, hcm4⟩ := hb4.form
        have HB4 := Lib.hid hb4
        have HO4 := Lib.hid (HO3.out.trans hon4)
        have HG4 := Lib.hid hg4
        have HN4 := Lib.hid hN4
        have HT4 := Lib.hid hlt4
        clear hb4 hon4 hg4 hN4 hlt4
        go_wp2_with fail
        go_step3
        refine ⟨rfl, hH (l.length - (k + 1)) _ _ (by omega) ⟨k + 1, a4, c4, R4, ?_⟩⟩
        repeat apply Exists.intro
        have e3 := HE3.out
        have l3 := HL3.out
        have g4 := HG4.out
        have n4 := HN4.out
        have t4 := HT4.out
        have r1 := HR1.out hR3
        have hput : R ++ l[k].put = R3 ++ l[k].putV := by rw [e3, put_eq, be_one]; simp
        refine ⟨HO4.out, HB4.out, rfl, by omega, rfl, by omega, by omega, fun h => ?_, fun h => ?_⟩
        · rw [g4.1 h, ← hput, r1, List.take_succ_eq_append_getElem hlt, putAll_append]
          simp [putAll]
        · have := g4.2 h
          rw [← hput, r1] at this
          have hp : (putAll (l.take k)).length + l[k].put.length ≤ (putAll l).length := by
            have h1 := putAll_append (l.take (k + 1)) (l.drop (k + 1))
            rw [List.take_append_drop, List.take_succ_eq_append_getElem hlt, putAll_append] at h1
            rw [h1]
            simp [putAll]
          rw [List.length_append, putT_length]
          simp at this
          omega
      · rcases HB1.out.2 with ⟨_, h0⟩ | ⟨g, cap', cur, hv, hbg, hg, hnc, hcm', hcs, htake⟩
        · omega
        cases hv
        rw [Nat.mul_one] at hcs
        have hrow : Row8 w' g cur.toList := by unfold Row8; simpa using hg
        have i0 : (0 : Int) ≤ (L.length : Int) := by omega
        have i1 : (L.length : Int) ≤ (c1 : Int) := by omega
        have hw : IntKind.u64.wrap ((R.length : Int) - (L.length : Int) - 4) = ((R.length - L.length - 4 : Nat) : Int) := by rw [IntKind.wrap_u64]; omega
        have HROW := Lib.hid hrow
        have HG := Lib.hid hg
        have HCS := Lib.hid hcs
        have HGO := Lib.hid hgo
        have HCM := Lib.hid hcm'
        have hways : ¬ k < l.length ∨ (k < l.length ∧ 3000 < R.length) := by omega
        clear hrow hg hcs htake hgo hcm'
        rcases hways with hlt | ⟨hlt, hgt⟩
        all_goals
          go_wp2_with fail
          refine (putNum_in g c1 L.length cur.toList (R.length - L.length - 4) 4 (by omega) (by omega) _ HROW.out (by have := HCS.out; simpa using this.symm) (by omega) HCM.out).mono ?_
          rintro e w5 ⟨v5, rfl, hr5, hg5⟩
          have HR5 := Lib.hid hr5
          have HG5 := Lib.hid hg5
          clear hr5 hg5
          go_wp2_with fail
          simp only [Exit.jump]
          go_ret
          have hr5 := HR5.out
          have hbl : (be 4 (R.length - L.length - 4)).length = 4 := be_length _ _
          have hb5 := Buf.laid (start := L.length) (bs := be 4 (R.length - L.length - 4)) HB1.out HG.out (by rw [hbl]; omega) (by rw [hbl]; exact hr5)
          rw [hbl] at hb5
          have ho5 : Onto w' (.slice (some ⟨g, 0, none⟩) R.length c1) w5 (.slice (some ⟨g, 0, none⟩) R.length c1) := ⟨HG5.out, .inl rfl⟩
          have hlen5 : (R.take L.length ++ be 4 (R.length - L.length - 4) ++ R.drop (L.length + 4)).length = R.length := by simp; omega
          refine ⟨_, _, rfl, hb5, HO1.out.trans ho5, by rw [hlen5]; omega, by rw [hlen5]; exact hRN, ?_, ?_⟩
          · rw [hlen5]
            intro h3
            have hke : k = l.length := by omega
            have hr1 := HR1.out h3
            rw [hke, List.take_length] at hr1
            exact patch_eq hr1
          · rw [hlen5]
            exact HR2.out

/-- the code, and the bytes, that Put answers. -/
def PutR (l : List It) (w : World) (e : Ending) (w' : World) : Prop :=
  Below w.heap.size w w' ∧ ((¬ MayT 1 l ∧ e = .returned (.tuple #[.slice none 0 0, .int .i64 1])) ∨ (MayT 1 l ∧ 3000 < (putT l).length ∧ e = .returned (.tuple #[.slice none 0 0, .int .i64 502])) ∨
    (MayT 1 l ∧ (putT l).length ≤ 3000 ∧ ∃ v, e = .returned (.tuple #[v, .int .i64 0]) ∧ Buf w' w.heap.size v (putT l)))

set_option maxHeartbeats 1000000 in
theorem put_any {a : Option Addr} {cap : Nat} {l : List It} (w : World) (hl : Tb w a cap l) :
    Calls Try.prog 20 #[.slice a l.length cap] w (PutR l w) := by
  go_enter Try.func20, Try.ntmps20
  go_wp2_with fail
  refine (mayTable_any _ hl).mono ?_
  rintro e w1 ⟨r, hr, rfl, hb1⟩
  have HB1 := Lib.hid hb1
  clear hb1
  cases r
  · replace hr : ¬ MayT 1 l := by simpa using hr
    have HR := Lib.hid hr
    clear hr
    go_wp2_with fail
    go_ret2
    exact ⟨HB1.out, .inl ⟨HR.out, rfl⟩⟩
  · replace hr : MayT 1 l := by simpa using hr
    have HR := Lib.hid hr
    clear hr
    go_wp2_with fail
    refine (putTab_any _ (Nat.le_refl _) 1 HR.out w.heap.size (.slice none 0 0) [] _ (Buf.nil _ _) HB1.out.size (hl.up.below HB1.out) (by simp)).mono ?_
    rintro e w2 ⟨v2, R, rfl, hb2, hon2, hlt, hN, hg⟩
    have hbel : Below w.heap.size w w2 := HB1.out.trans (hon2.below (Buf.nil _ _) HB1.out.size)
    obtain ⟨a2, c2, rfl, hlc2, hcm2⟩ := hb2.form
    have HB2 := Lib.hid hb2
    have HG := Lib.hid hg
    have HBL := Lib.hid hbel
    simp only [List.length_nil] at hN
    clear hb2 hg hon2 hbel hlt
    unfold maxLen at hcm2
    by_cases h3 : (R.length : Int) ≤ 3000
    · go_wp2_with fail
      go_ret2
      have hR := HG.out.1 (by omega)
      rw [List.nil_append] at hR
      subst hR
      exact ⟨HBL.out, .inr (.inr ⟨HR.out, by omega, _, rfl, HB2.out⟩)⟩
    · go_wp2_with fail
      go_ret2
      have hR := HG.out.2 (by omega)
      rw [List.nil_append] at hR
      exact ⟨HBL.out, .inr (.inl ⟨HR.out, hR, rfl⟩)⟩

end Go.Proofs.Ytjnnpgmgjdhfjaa

namespace Go.Proofs.Ytjnnpgmgjdhfjaa
open Go.RowKit
set_option linter.unusedVariables false

/-- a call's twelve cells. -/
def meC (m : Me) (a : Option Addr) (cap : Nat) : Array Value :=
  #[.int .i64 m.id, .string m.name, .string m.typ, .string m.ex, .string m.key, .string m.text, .int .i64 m.code, .int .i64 m.count, .int .u64 m.tag, .bool m.flag, .bool m.back, .slice a m.args.length cap]
/-- block g is this call, its table's slice at a. -/
def MeAt (w : World) (g : Nat) (m : Me) (a : Option Addr) (cap : Nat) : Prop := w.heap[g]? = some (.cells (meC m a cap) 25 (0, 0))

theorem MeAt.cells {w : World} {g : Nat} {m : Me} {a : Option Addr} {cap : Nat} (h : MeAt w g m a cap) :
    (w.cell? ⟨g, 0, none⟩ = some (.int .i64 m.id) ∧ w.cell? ⟨g, 1, none⟩ = some (.string m.name) ∧ w.cell? ⟨g, 2, none⟩ = some (.string m.typ) ∧ w.cell? ⟨g, 3, none⟩ = some (.string m.ex) ∧ w.cell? ⟨g, 4, none⟩ = some (.string m.key) ∧ w.cell? ⟨g, 5, none⟩ = some (.string m.text)) ∧
    (w.cell? ⟨g, 6, none⟩ = some (.int .i64 m.code) ∧ w.cell? ⟨g, 7, none⟩ = some (.int .i64 m.count) ∧ w.cell? ⟨g, 8, none⟩ = some (.int .u64 m.tag) ∧ w.cell? ⟨g, 9, none⟩ = some (.bool m.flag) ∧ w.cell? ⟨g, 10, none⟩ = some (.bool m.back) ∧ w.cell? ⟨g, 11, none⟩ = some (.slice a m.args.length cap)) := by
  refine ⟨⟨?_, ?_, ?_, ?_, ?_, ?_⟩, ?_, ?_, ?_, ?_, ?_, ?_⟩ <;> (rw [cell_of_row w _ _ _ _ _ h]; rfl)
theorem MeAt.frozen {w : World} {g : Nat} {m : Me} {a : Option Addr} {cap : Nat} (h : MeAt w g m a cap) (i : Nat) : w.frozen? ⟨g, i, none⟩ = false := by
  unfold MeAt at h
  simp [World.frozen?, h]
theorem MeAt.lt {w : World} {g : Nat} {m : Me} {a : Option Addr} {cap : Nat} (h : MeAt w g m a cap) : g < w.heap.size := (Array.getElem?_eq_some_iff.1 h).1
theorem MeAt.keep {w w' : World} {g : Nat} {m : Me} {a : Option Addr} {cap : Nat} (h : MeAt w g m a cap) (hk : w'.heap[g]? = w.heap[g]?) : MeAt w' g m a cap := hk.trans h

/-- which letters are texts'. -/
theorem text_yes (g : Nat) (p : Pt) (hp : p.isT = true) (w : World) :
    Calls Try.prog 55 #[.pointer (some ⟨g, 0, none⟩), .int .u8 p.byte.toNat] w fun e w' => e = .returned (.pointer (some ⟨g, p.off, none⟩)) ∧ w = w' := by
  cases p <;> first | (cases hp; done) | skip
  all_goals
    go_enter Try.func55, Try.ntmps55
    go_wp2_with fail
    go_ret
    exact ⟨rfl, rfl⟩
theorem text_no (g : Nat) (p : Pt) (hp : p.isT = false) (w : World) :
    Calls Try.prog 55 #[.pointer (some ⟨g, 0, none⟩), .int .u8 p.byte.toNat] w fun e w' => e = .returned (.pointer none) ∧ w = w' := by
  cases p <;> first | (cases hp; done) | skip
  all_goals
    go_enter Try.func55, Try.ntmps55
    go_wp2_with fail
    go_ret
    exact ⟨rfl, rfl⟩

theorem bit_any (b : Bool) (w : World) : Calls Try.prog 70 #[.bool b] w fun e w' => e = .returned (.int .u64 (bitN b : Nat)) ∧ w = w' := by
  cases b
  all_goals
    go_enter Try.func70, Try.ntmps70
    go_wp2_with fail
    go_ret
    exact ⟨rfl, rfl⟩

def NumP (m : Me) (p : Pt) (w : World) (e : Ending) (w' : World) : Prop := e = .returned (.tuple #[.int .u64 (m.num p : Nat), .int .i64 (p.size : Nat)]) ∧ w = w'
set_option maxHeartbeats 1000000 in
theorem number_c {w : World} {g : Nat} {m : Me} {a : Option Addr} {cap : Nat} (h : MeAt w g m a cap) :
    Calls Try.prog 56 #[.pointer (some ⟨g, 0, none⟩), .int .u8 99] w (NumP m .c w) := by
  have c := h.cells.2.1
  have hw := wrap_u64_of m.code
  clear h
  go_enter Try.func56, Try.ntmps56
  go_wp2_with fail
  go_ret2
  exact ⟨rfl, rfl⟩
set_option maxHeartbeats 1000000 in
theorem number_u {w : World} {g : Nat} {m : Me} {a : Option Addr} {cap : Nat} (h : MeAt w g m a cap) :
    Calls Try.prog 56 #[.pointer (some ⟨g, 0, none⟩), .int .u8 117] w (NumP m .u w) := by
  have c := h.cells.2.2.1
  have hw := wrap_u64_of m.count
  clear h
  go_enter Try.func56, Try.ntmps56
  go_wp2_with fail
  go_ret2
  exact ⟨rfl, rfl⟩
set_option maxHeartbeats 1000000 in
theorem number_t {w : World} {g : Nat} {m : Me} {a : Option Addr} {cap : Nat} (h : MeAt w g m a cap) :
    Calls Try.prog 56 #[.pointer (some ⟨g, 0, none⟩), .int .u8 116] w (NumP m .t w) := by
  have c := h.cells.2.2.2.1
  clear h
  go_enter Try.func56, Try.ntmps56
  go_wp2_with fail
  go_ret2
  exact ⟨rfl, rfl⟩
set_option maxHeartbeats 1000000 in
theorem number_f {w : World} {g : Nat} {m : Me} {a : Option Addr} {cap : Nat} (h : MeAt w g m a cap) :
    Calls Try.prog 56 #[.pointer (some ⟨g, 0, none⟩), .int .u8 102] w (NumP m .f w) := by
  have c := h.cells.2.2.2.2.1
  clear h
  go_enter Try.func56, Try.ntmps56
  go_wp2_with fail
  refine (bit_any m.flag _).mono ?_
  rintro e w1 ⟨rfl, rfl⟩
  go_wp2_with fail
  go_ret2
  exact ⟨rfl, rfl⟩
set_option maxHeartbeats 1000000 in
theorem number_b {w : World} {g : Nat} {m : Me} {a : Option Addr} {cap : Nat} (h : MeAt w g m a cap) :
    Calls Try.prog 56 #[.pointer (some ⟨g, 0, none⟩), .int .u8 98] w (NumP m .b w) := by
  have c := h.cells.2.2.2.2.2.1
  clear h
  go_enter Try.func56, Try.ntmps56
  go_wp2_with fail
  refine (bit_any m.back _).mono ?_
  rintro e w1 ⟨rfl, rfl⟩
  go_wp2_with fail
  go_ret2
  exact ⟨rfl, rfl⟩
/-- a part's number, and how many bytes it has. -/
theorem num_any {w : World} {g : Nat} {m : Me} {a : Option Addr} {cap : Nat} (h : MeAt w g m a cap) (p : Pt) (hp : p.isT = false) (ha : p ≠ .a) :
    Calls Try.prog 56 #[.pointer (some ⟨g, 0, none⟩), .int .u8 p.byte.toNat] w (NumP m p w) := by
  cases p
  case c => exact number_c h
  case u => exact number_u h
  case t => exact number_t h
  case f => exact number_f h
  case b => exact number_b h
  case a => exact absurd rfl ha
  all_goals cases hp

/-- behind a number's store. -/
def SetP (g : Nat) (m : Me) (p : Pt) (v : Nat) (a : Option Addr) (cap : Nat) (w : World) (e : Ending) (w' : World) : Prop :=
  e = .returned (.tuple #[]) ∧ MeAt w' g (m.set p v) a cap ∧ w.grownBy w' (some g) ∧ w'.heap.size = w.heap.size

theorem wrap_i64_of (v : Nat) (h : v < 18446744073709551616) : IntKind.i64.wrap (v : Int) = sgn64 v := by rw [IntKind.wrap_i64]; unfold sgn64; split <;> omega
set_option maxHeartbeats 1000000 in
theorem setNum_any {w : World} {g : Nat} {m : Me} {a : Option Addr} {cap : Nat} (h : MeAt w g m a cap) (p : Pt) (hp : p.isT = false) (ha : p ≠ .a) (v : Nat) (hv : v < 18446744073709551616) :
    Calls Try.prog 68 #[.pointer (some ⟨g, 0, none⟩), .int .u8 p.byte.toNat, .int .u64 v] w (SetP g m p v a cap w) := by
  have hf := h.frozen
  have hw := wrap_i64_of v hv
  have c := h.cells.2
  obtain ⟨c6, c7, c8, c9, c10, c11⟩ := c
  have H := Lib.hid h
  have f6 := hf 6
  have f7 := hf 7
  have f8 := hf 8
  have f9 := hf 9
  have f10 := hf 10
  clear h hf hv
  cases p
  case a => exact absurd rfl ha
  case n => cases hp
  case y => cases hp
  case e => cases hp
  case k => cases hp
  case x => cases hp
  all_goals
    go_enter Try.func68, Try.ntmps68
    go_wp2_with fail
    go_returns
    refine ⟨rfl, ?_, set_grown _ _ _ _, by simp [World.setCell]⟩
    unfold MeAt
    rw [set_heap H.out]
    have hvb : ((v : Int) == 1) = (v == 1) := by
      by_cases e : v = 1
      · subst e; rfl
      · rw [beq_eq_false_iff_ne.2 e, beq_eq_false_iff_ne.2 (by omega)]
    first | rfl | (simp [meC, Me.set]; done) | (simp [meC, Me.set, hvb]; done)

end Go.Proofs.Ytjnnpgmgjdhfjaa

namespace Go.Proofs.Ytjnnpgmgjdhfjaa
open Go.RowKit
set_option linter.unusedVariables false

def PartsP (id : Int) (w : World) (e : Ending) (w' : World) : Prop := e = .returned (.string (partsStr id)) ∧ w = w'

set_option maxHeartbeats 1000000 in
theorem parts_2010 (w : World) : Calls Try.prog 51 #[.int .i64 2010] w (PartsP 2010 w) := by
  go_enter Try.func51, Try.ntmps51
  go_wp2_with fail
  go_ret
  exact ⟨rfl, rfl⟩
set_option maxHeartbeats 1000000 in
theorem parts_2011 (w : World) : Calls Try.prog 51 #[.int .i64 2011] w (PartsP 2011 w) := by
  go_enter Try.func51, Try.ntmps51
  go_wp2_with fail
  go_ret
  exact ⟨rfl, rfl⟩
set_option maxHeartbeats 1000000 in
theorem parts_2041 (w : World) : Calls Try.prog 51 #[.int .i64 2041] w (PartsP 2041 w) := by
  go_enter Try.func51, Try.ntmps51
  go_wp2_with fail
  go_ret
  exact ⟨rfl, rfl⟩
set_option maxHeartbeats 1000000 in
theorem parts_4011 (w : World) : Calls Try.prog 51 #[.int .i64 4011] w (PartsP 4011 w) := by
  go_enter Try.func51, Try.ntmps51
  go_wp2_with fail
  go_ret
  exact ⟨rfl, rfl⟩
set_option maxHeartbeats 1000000 in
theorem parts_5021 (w : World) : Calls Try.prog 51 #[.int .i64 5021] w (PartsP 5021 w) := by
  go_enter Try.func51, Try.ntmps51
  go_wp2_with fail
  go_ret
  exact ⟨rfl, rfl⟩
set_option maxHeartbeats 1000000 in
theorem parts_6011 (w : World) : Calls Try.prog 51 #[.int .i64 6011] w (PartsP 6011 w) := by
  go_enter Try.func51, Try.ntmps51
  go_wp2_with fail
  go_ret
  exact ⟨rfl, rfl⟩
set_option maxHeartbeats 1000000 in
theorem parts_6072 (w : World) : Calls Try.prog 51 #[.int .i64 6072] w (PartsP 6072 w) := by
  go_enter Try.func51, Try.ntmps51
  go_wp2_with fail
  go_ret
  exact ⟨rfl, rfl⟩
set_option maxHeartbeats 1000000 in
theorem parts_8510 (w : World) : Calls Try.prog 51 #[.int .i64 8510] w (PartsP 8510 w) := by
  go_enter Try.func51, Try.ntmps51
  go_wp2_with fail
  go_ret
  exact ⟨rfl, rfl⟩
set_option maxHeartbeats 1000000 in
theorem parts_8511 (w : World) : Calls Try.prog 51 #[.int .i64 8511] w (PartsP 8511 w) := by
  go_enter Try.func51, Try.ntmps51
  go_wp2_with fail
  go_ret
  exact ⟨rfl, rfl⟩
set_option maxHeartbeats 1000000 in
theorem parts_9010 (w : World) : Calls Try.prog 51 #[.int .i64 9010] w (PartsP 9010 w) := by
  go_enter Try.func51, Try.ntmps51
  go_wp2_with fail
  go_ret
  exact ⟨rfl, rfl⟩
set_option maxHeartbeats 1000000 in
theorem parts_9011 (w : World) : Calls Try.prog 51 #[.int .i64 9011] w (PartsP 9011 w) := by
  go_enter Try.func51, Try.ntmps51
  go_wp2_with fail
  go_ret
  exact ⟨rfl, rfl⟩
set_option maxHeartbeats 1000000 in
theorem parts_9020 (w : World) : Calls Try.prog 51 #[.int .i64 9020] w (PartsP 9020 w) := by
  go_enter Try.func51, Try.ntmps51
  go_wp2_with fail
  go_ret
  exact ⟨rfl, rfl⟩
set_option maxHeartbeats 1000000 in
theorem parts_9021 (w : World) : Calls Try.prog 51 #[.int .i64 9021] w (PartsP 9021 w) := by
  go_enter Try.func51, Try.ntmps51
  go_wp2_with fail
  go_ret
  exact ⟨rfl, rfl⟩
set_option maxHeartbeats 1000000 in
theorem parts_9030 (w : World) : Calls Try.prog 51 #[.int .i64 9030] w (PartsP 9030 w) := by
  go_enter Try.func51, Try.ntmps51
  go_wp2_with fail
  go_ret
  exact ⟨rfl, rfl⟩
set_option maxHeartbeats 1000000 in
theorem parts_9031 (w : World) : Calls Try.prog 51 #[.int .i64 9031] w (PartsP 9031 w) := by
  go_enter Try.func51, Try.ntmps51
  go_wp2_with fail
  go_ret
  exact ⟨rfl, rfl⟩
set_option maxHeartbeats 1000000 in
theorem parts_2040 (w : World) : Calls Try.prog 51 #[.int .i64 2040] w (PartsP 2040 w) := by
  go_enter Try.func51, Try.ntmps51
  go_wp2_with fail
  go_ret
  exact ⟨rfl, rfl⟩
set_option maxHeartbeats 1000000 in
theorem parts_4010 (w : World) : Calls Try.prog 51 #[.int .i64 4010] w (PartsP 4010 w) := by
  go_enter Try.func51, Try.ntmps51
  go_wp2_with fail
  go_ret
  exact ⟨rfl, rfl⟩
set_option maxHeartbeats 1000000 in
theorem parts_5010 (w : World) : Calls Try.prog 51 #[.int .i64 5010] w (PartsP 5010 w) := by
  go_enter Try.func51, Try.ntmps51
  go_wp2_with fail
  go_ret
  exact ⟨rfl, rfl⟩
set_option maxHeartbeats 1000000 in
theorem parts_6070 (w : World) : Calls Try.prog 51 #[.int .i64 6070] w (PartsP 6070 w) := by
  go_enter Try.func51, Try.ntmps51
  go_wp2_with fail
  go_ret
  exact ⟨rfl, rfl⟩
set_option maxHeartbeats 1000000 in
theorem parts_5011 (w : World) : Calls Try.prog 51 #[.int .i64 5011] w (PartsP 5011 w) := by
  go_enter Try.func51, Try.ntmps51
  go_wp2_with fail
  go_ret
  exact ⟨rfl, rfl⟩
set_option maxHeartbeats 1000000 in
theorem parts_5020 (w : World) : Calls Try.prog 51 #[.int .i64 5020] w (PartsP 5020 w) := by
  go_enter Try.func51, Try.ntmps51
  go_wp2_with fail
  go_ret
  exact ⟨rfl, rfl⟩
set_option maxHeartbeats 1000000 in
theorem parts_6010 (w : World) : Calls Try.prog 51 #[.int .i64 6010] w (PartsP 6010 w) := by
  go_enter Try.func51, Try.ntmps51
  go_wp2_with fail
  go_ret
  exact ⟨rfl, rfl⟩
set_option maxHeartbeats 1000000 in
theorem parts_6020 (w : World) : Calls Try.prog 51 #[.int .i64 6020] w (PartsP 6020 w) := by
  go_enter Try.func51, Try.ntmps51
  go_wp2_with fail
  go_ret
  exact ⟨rfl, rfl⟩
set_option maxHeartbeats 1000000 in
theorem parts_6021 (w : World) : Calls Try.prog 51 #[.int .i64 6021] w (PartsP 6021 w) := by
  go_enter Try.func51, Try.ntmps51
  go_wp2_with fail
  go_ret
  exact ⟨rfl, rfl⟩
set_option maxHeartbeats 1000000 in
theorem parts_6040 (w : World) : Calls Try.prog 51 #[.int .i64 6040] w (PartsP 6040 w) := by
  go_enter Try.func51, Try.ntmps51
  go_wp2_with fail
  go_ret
  exact ⟨rfl, rfl⟩
set_option maxHeartbeats 1000000 in
theorem parts_6050 (w : World) : Calls Try.prog 51 #[.int .i64 6050] w (PartsP 6050 w) := by
  go_enter Try.func51, Try.ntmps51
  go_wp2_with fail
  go_ret
  exact ⟨rfl, rfl⟩
set_option maxHeartbeats 1000000 in
theorem parts_6060 (w : World) : Calls Try.prog 51 #[.int .i64 6060] w (PartsP 6060 w) := by
  go_enter Try.func51, Try.ntmps51
  go_wp2_with fail
  go_ret
  exact ⟨rfl, rfl⟩
set_option maxHeartbeats 1000000 in
theorem parts_6071 (w : World) : Calls Try.prog 51 #[.int .i64 6071] w (PartsP 6071 w) := by
  go_enter Try.func51, Try.ntmps51
  go_wp2_with fail
  go_ret
  exact ⟨rfl, rfl⟩
set_option maxHeartbeats 1000000 in
theorem parts_6080 (w : World) : Calls Try.prog 51 #[.int .i64 6080] w (PartsP 6080 w) := by
  go_enter Try.func51, Try.ntmps51
  go_wp2_with fail
  go_ret
  exact ⟨rfl, rfl⟩
set_option maxHeartbeats 1000000 in
theorem parts_6090 (w : World) : Calls Try.prog 51 #[.int .i64 6090] w (PartsP 6090 w) := by
  go_enter Try.func51, Try.ntmps51
  go_wp2_with fail
  go_ret
  exact ⟨rfl, rfl⟩
set_option maxHeartbeats 1000000 in
theorem parts_6120 (w : World) : Calls Try.prog 51 #[.int .i64 6120] w (PartsP 6120 w) := by
  go_enter Try.func51, Try.ntmps51
  go_wp2_with fail
  go_ret
  exact ⟨rfl, rfl⟩

set_option maxHeartbeats 4000000 in
theorem parts_not (id : Int) (h : ∀ e ∈ partsTab, ¬ id = e.1) (w : World) : Calls Try.prog 51 #[.int .i64 id] w (PartsP id w) := by
  have hp := partsOf_none h
  have n2010 : ¬ id = 2010 := fun e => by subst e; revert hp; decide
  have n2011 : ¬ id = 2011 := fun e => by subst e; revert hp; decide
  have n2041 : ¬ id = 2041 := fun e => by subst e; revert hp; decide
  have n4011 : ¬ id = 4011 := fun e => by subst e; revert hp; decide
  have n5021 : ¬ id = 5021 := fun e => by subst e; revert hp; decide
  have n6011 : ¬ id = 6011 := fun e => by subst e; revert hp; decide
  have n6072 : ¬ id = 6072 := fun e => by subst e; revert hp; decide
  have n8510 : ¬ id = 8510 := fun e => by subst e; revert hp; decide
  have n8511 : ¬ id = 8511 := fun e => by subst e; revert hp; decide
  have n9010 : ¬ id = 9010 := fun e => by subst e; revert hp; decide
  have n9011 : ¬ id = 9011 := fun e => by subst e; revert hp; decide
  have n9020 : ¬ id = 9020 := fun e => by subst e; revert hp; decide
  have n9021 : ¬ id = 9021 := fun e => by subst e; revert hp; decide
  have n9030 : ¬ id = 9030 := fun e => by subst e; revert hp; decide
  have n9031 : ¬ id = 9031 := fun e => by subst e; revert hp; decide
  have n2040 : ¬ id = 2040 := fun e => by subst e; revert hp; decide
  have n4010 : ¬ id = 4010 := fun e => by subst e; revert hp; decide
  have n5010 : ¬ id = 5010 := fun e => by subst e; revert hp; decide
  have n6070 : ¬ id = 6070 := fun e => by subst e; revert hp; decide
  have n5011 : ¬ id = 5011 := fun e => by subst e; revert hp; decide
  have n5020 : ¬ id = 5020 := fun e => by subst e; revert hp; decide
  have n6010 : ¬ id = 6010 := fun e => by subst e; revert hp; decide
  have n6020 : ¬ id = 6020 := fun e => by subst e; revert hp; decide
  have n6021 : ¬ id = 6021 := fun e => by subst e; revert hp; decide
  have n6040 : ¬ id = 6040 := fun e => by subst e; revert hp; decide
  have n6050 : ¬ id = 6050 := fun e => by subst e; revert hp; decide
  have n6060 : ¬ id = 6060 := fun e => by subst e; revert hp; decide
  have n6071 : ¬ id = 6071 := fun e => by subst e; revert hp; decide
  have n6080 : ¬ id = 6080 := fun e => by subst e; revert hp; decide
  have n6090 : ¬ id = 6090 := fun e => by subst e; revert hp; decide
  have n6120 : ¬ id = 6120 := fun e => by subst e; revert hp; decide
  have HP := Lib.hid hp
  clear hp h
  go_enter Try.func51, Try.ntmps51
  go_wp2_with fail
  go_ret
  refine ⟨?_, rfl⟩
  unfold partsStr
  rw [HP.out]
  rfl

theorem parts_any (id : Int) (w : World) : Calls Try.prog 51 #[.int .i64 id] w fun e w' => e = .returned (.string (partsStr id)) ∧ w = w' := by
  by_cases h : ∀ e ∈ partsTab, ¬ id = e.1
  · exact parts_not id h w
  · have h0 := h
    clear h
    by_cases e2010 : id = 2010
    · subst e2010; exact parts_2010 w
    by_cases e2011 : id = 2011
    · subst e2011; exact parts_2011 w
    by_cases e2041 : id = 2041
    · subst e2041; exact parts_2041 w
    by_cases e4011 : id = 4011
    · subst e4011; exact parts_4011 w
    by_cases e5021 : id = 5021
    · subst e5021; exact parts_5021 w
    by_cases e6011 : id = 6011
    · subst e6011; exact parts_6011 w
    by_cases e6072 : id = 6072
    · subst e6072; exact parts_6072 w
    by_cases e8510 : id = 8510
    · subst e8510; exact parts_8510 w
    by_cases e8511 : id = 8511
    · subst e8511; exact parts_8511 w
    by_cases e9010 : id = 9010
    · subst e9010; exact parts_9010 w
    by_cases e9011 : id = 9011
    · subst e9011; exact parts_9011 w
    by_cases e9020 : id = 9020
    · subst e9020; exact parts_9020 w
    by_cases e9021 : id = 9021
    · subst e9021; exact parts_9021 w
    by_cases e9030 : id = 9030
    · subst e9030; exact parts_9030 w
    by_cases e9031 : id = 9031
    · subst e9031; exact parts_9031 w
    by_cases e2040 : id = 2040
    · subst e2040; exact parts_2040 w
    by_cases e4010 : id = 4010
    · subst e4010; exact parts_4010 w
    by_cases e5010 : id = 5010
    · subst e5010; exact parts_5010 w
    by_cases e6070 : id = 6070
    · subst e6070; exact parts_6070 w
    by_cases e5011 : id = 5011
    · subst e5011; exact parts_5011 w
    by_cases e5020 : id = 5020
    · subst e5020; exact parts_5020 w
    by_cases e6010 : id = 6010
    · subst e6010; exact parts_6010 w
    by_cases e6020 : id = 6020
    · subst e6020; exact parts_6020 w
    by_cases e6021 : id = 6021
    · subst e6021; exact parts_6021 w
    by_cases e6040 : id = 6040
    · subst e6040; exact parts_6040 w
    by_cases e6050 : id = 6050
    · subst e6050; exact parts_6050 w
    by_cases e6060 : id = 6060
    · subst e6060; exact parts_6060 w
    by_cases e6071 : id = 6071
    · subst e6071; exact parts_6071 w
    by_cases e6080 : id = 6080
    · subst e6080; exact parts_6080 w
    by_cases e6090 : id = 6090
    · subst e6090; exact parts_6090 w
    by_cases e6120 : id = 6120
    · subst e6120; exact parts_6120 w
    exact absurd (fun e he => by simp [partsTab] at he; rcases he with rfl | rfl | rfl | rfl | rfl | rfl | rfl | rfl | rfl | rfl | rfl | rfl | rfl | rfl | rfl | rfl | rfl | rfl | rfl | rfl | rfl | rfl | rfl | rfl | rfl | rfl | rfl | rfl | rfl | rfl | rfl <;> assumption) h0

end Go.Proofs.Ytjnnpgmgjdhfjaa
