/-
  The document's own answers: which frames may be, numbers as bytes, a frame's bytes, sameness: walked.
-/
import Derived.Test.YtpibbgencojbgaaSame4
import Derived.Deep.LoopGhost
import Derived.Deep.RegionHeld3
namespace Go.Proofs.Ytpibbgencojbgaa
open Go.RowKit
set_option linter.unusedVariables false

theorem ref_may_nat {k c : Int} {n : Nat} : MayN k c n ↔ (k = 8 ∧ c = 0 ∧ n = 0) ∨ (¬ k = 8 ∧ 1 ≤ k ∧ k ≤ 3 ∧ 0 ≤ c ∧ c ≤ 65535 ∧ n ≤ 4096) := by
  unfold MayN KindOk FitsN
  omega
set_option maxRecDepth 100000 in
set_option maxHeartbeats 4000000 in
theorem rmay_any (k c : Int) (a : Option Addr) (n cap : Nat) (w : World) : Calls Try.prog 29 #[.agg #[.int .i64 k, .int .i64 c, .slice a n cap]] w (SaysB (MayN k c n) w) := by
  have hbel : Below w.heap.size w (w.alloc (.cells #[.int .i64 k, .int .i64 c, .slice a n cap] 48)) := (Below.refl _ _).alloc (Nat.le_refl _) _
  have HB := Lib.hid hbel
  clear hbel
  by_cases h8 : k = 8
  · subst h8
    by_cases hc : c = 0
    · subst hc
      go_enter Try.func29, Try.ntmps29
      go_wp2_with fail
      go_ret
      exact ⟨_, by rw [ref_may_nat]; simp, rfl, HB.out⟩
    · have hcb : (c == 0) = false := by simpa using hc
      go_enter Try.func29, Try.ntmps29
      go_wp2_with fail
      go_ret
      exact ⟨_, by rw [ref_may_nat]; simp [hc], rfl, HB.out⟩
  · have hkb : (k == 8) = false := by simpa using h8
    by_cases h1 : 1 ≤ k
    · by_cases h3 : k ≤ 3
      · by_cases c0 : 0 ≤ c
        · by_cases c6 : c ≤ 65535
          · go_enter Try.func29, Try.ntmps29
            go_wp2_with fail
            go_ret
            exact ⟨_, by rw [ref_may_nat]; simp [*]; try omega, rfl, HB.out⟩
          · go_enter Try.func29, Try.ntmps29
            go_wp2_with fail
            go_ret
            exact ⟨_, by rw [ref_may_nat]; simp [*]; try omega, rfl, HB.out⟩
        · go_enter Try.func29, Try.ntmps29
          go_wp2_with fail
          go_ret
          exact ⟨_, by rw [ref_may_nat]; simp [*]; try omega, rfl, HB.out⟩
      · go_enter Try.func29, Try.ntmps29
        go_wp2_with fail
        go_ret
        exact ⟨_, by rw [ref_may_nat]; simp [*]; try omega, rfl, HB.out⟩
    · go_enter Try.func29, Try.ntmps29
      go_wp2_with fail
      go_ret
      exact ⟨_, by rw [ref_may_nat]; simp [*]; try omega, rfl, HB.out⟩

def bigRel (W : World) (x size : Nat) (n : Nat) (v5 v6 : Value) (wr : World) : Prop :=
  ∃ s : Nat, s ≤ size ∧ n = s ∧ v6 = .int .i64 ((s : Int) - 1) ∧ Below W.heap.size W wr ∧ Buf wr W.heap.size v5 ((be size x).take (size - s))
set_option maxRecDepth 100000 in
set_option maxHeartbeats 4000000 in
theorem big_any (x size : Nat) (hx : x < 18446744073709551616) (hs : size ≤ 8) (w : World) :
    Calls Try.prog 42 #[.int .u64 x, .int .i64 size] w fun e w' => e = .returned (.string ⟨(be size x).toArray⟩) ∧ Below w.heap.size w w' := by
  have HX := Lib.hid hx
  clear hx
  go_enter Try.func42, Try.ntmps42
  go_wp2_with fail
  go_loopg [5, 6] size (bigRel w x size)
  case atStart => exact ⟨size, Nat.le_refl _, rfl, rfl, Below.refl _ _, by simpa using Buf.nil w w.heap.size⟩
  case round =>
    obtain ⟨s, hss, rfl, rfl, hb, hbuf⟩ := hrel
    have HB := Lib.hid hb
    have HBUF := Lib.hid hbuf
    clear hb hbuf
    cases gk with
    | zero =>
      obtain ⟨a, c, rfl, _, _⟩ := HBUF.out.form
      have hcv := HBUF.out.bytes
      obtain ⟨a', c', he, _, _, hat⟩ := hcv
      obtain ⟨rfl, -, rfl⟩ := Value.slice.inj he
      have hcv := conv_str c hat
      have htk : (be size x).take (size - 0) = be size x := List.take_of_length_le (by simp)
      rw [htk] at hcv ⊢
      rw [be_length] at hcv ⊢
      clear he hat htk
      go_wp2_with fail
      go_ret
      exact ⟨rfl, HB.out⟩
    | succ m =>
      rw [show ((m + 1 : Nat) : Int) - 1 = (m : Int) by omega]
      have hst := be_step (n := x) (s := m + 1) (by omega) hss
      rw [Nat.add_sub_cancel] at hst
      have HST := Lib.hid hst
      clear hst
      have hle : ((be size x).take (size - (m + 1))).length ≤ 1000000 := by simp; omega
      have hsz : w.heap.size ≤ wr.heap.size := HB.out.size
      have m0 : (0 : Int) ≤ (m : Int) := by omega
      have m8 : (m : Int) < 8 := by omega
      go_wp2_with (at_builtin; refine put_one (base := w.heap.size) (w := wr) rfl (.tmp 13) (.tmp 20) rfl HBUF.out hsz hle (UInt8.ofNat (x / 2 ^ (8 * m) % 256)) (by simp) rfl _ rfl rfl ?_; intro v2 w2 hb2 hon2; rw [← HST.out] at hb2; have HBUF2 := Lib.hid hb2; have HBEL2 := Lib.hid (HB.out.trans (hon2.below HBUF.out hsz)); clear hb2 hon2)
      go_roundg m
      case measure => omega
      case rel => exact ⟨m, by omega, rfl, by simp, HBEL2.out, HBUF2.out⟩

theorem cat_list (l l' : List UInt8) : (⟨l.toArray⟩ : ByteArray) ++ ⟨l'.toArray⟩ = ⟨(l ++ l').toArray⟩ := by
  rw [ByteArray.mk_append_mk]

theorem big1 (x : Nat) (hx : x < 18446744073709551616) (w : World) : Calls Try.prog 42 #[.int .u64 x, .int .i64 1] w fun e w' => e = .returned (.string ⟨(be 1 x).toArray⟩) ∧ Below w.heap.size w w' := big_any x 1 hx (by decide) w
theorem big2 (x : Nat) (hx : x < 18446744073709551616) (w : World) : Calls Try.prog 42 #[.int .u64 x, .int .i64 2] w fun e w' => e = .returned (.string ⟨(be 2 x).toArray⟩) ∧ Below w.heap.size w w' := big_any x 2 hx (by decide) w
theorem big4 (x : Nat) (hx : x < 18446744073709551616) (w : World) : Calls Try.prog 42 #[.int .u64 x, .int .i64 4] w fun e w' => e = .returned (.string ⟨(be 4 x).toArray⟩) ∧ Below w.heap.size w w' := big_any x 4 hx (by decide) w
theorem below_alloc {B : Nat} {w wx : World} {o : Obj} (h : Below B (w.alloc o) wx) : w.heap.size + 1 ≤ wx.heap.size := by
  have := h.size
  simpa using this

set_option maxRecDepth 100000 in
set_option maxHeartbeats 4000000 in
theorem rput_any (B : Nat) (k c : Nat) (a : Option Addr) (cap : Nat) (d : List UInt8) (hk : k ≤ 8) (hc : c ≤ 65535) (hd : d.length ≤ 100000) (w : World) (hB : B ≤ w.heap.size) (hat : BytesAt B w a d) :
    Calls Try.prog 32 #[.agg #[.int .i64 k, .int .i64 c, .slice a d.length cap]] w fun e w' => e = .returned (.string ⟨(putF ⟨k, c, d⟩).toArray⟩) ∧ Below w.heap.size w w' := by
  have hblk : (w.alloc (.cells #[.int .i64 k, .int .i64 c, .slice a d.length cap] 48)).heap[w.heap.size]? = some (.cells #[.int .i64 k, .int .i64 c, .slice a d.length cap] 48 (0, 0)) := heap_alloc_new w _
  have hbel : Below w.heap.size w (w.alloc (.cells #[.int .i64 k, .int .i64 c, .slice a d.length cap] 48)) := (Below.refl _ _).alloc (Nat.le_refl _) _
  have KS : ∀ wx, Below (w.heap.size + 1) (w.alloc (.cells #[.int .i64 k, .int .i64 c, .slice a d.length cap] 48)) wx →
      (wx.cell? ⟨w.heap.size, 0, none⟩ = some (.int .i64 k) ∧ wx.cell? ⟨w.heap.size, 1, none⟩ = some (.int .i64 c) ∧ wx.cell? ⟨w.heap.size, 2, none⟩ = some (.slice a d.length cap)) ∧
      (convert 25 9 (.slice a d.length cap)).run Try.prog wx = .ok (.string ⟨d.toArray⟩) wx ∧ Below (w.heap.size + 1) (w.alloc (.cells #[.int .i64 k, .int .i64 c, .slice a d.length cap] 48)) wx := by
    intro wx hx
    exact ⟨cells3 ((hx.block _ (by omega)).trans hblk), conv_str cap ((hat.under (hbel.mono hB)).under (hx.mono (by omega))), hx⟩
  have KH := Lib.hid KS
  have HBEL := Lib.hid hbel
  have u1 : IntKind.u64.wrap (k : Int) = (k : Int) := by rw [IntKind.wrap_u64]; omega
  have u2 : IntKind.u64.wrap (c : Int) = (c : Int) := by rw [IntKind.wrap_u64]; omega
  have u3 : IntKind.u64.wrap (d.length : Int) = (d.length : Int) := by rw [IntKind.wrap_u64]; omega
  have xk : k < 18446744073709551616 := by omega
  have xc : c < 18446744073709551616 := by omega
  have xd : d.length < 18446744073709551616 := by omega
  have q1 : ¬ 9223372036854775807 < 7 + d.length := by omega
  have q2 : ¬ 9223372036854775807 < 7 + d.length + 1 := by omega
  clear hblk hbel KS hat
  go_enter Try.func32, Try.ntmps32
  go_wp2_with fail
  go_region_held3 (fun wx => (wx.cell? ⟨w.heap.size, 0, none⟩ = some (.int .i64 k) ∧ wx.cell? ⟨w.heap.size, 1, none⟩ = some (.int .i64 c) ∧ wx.cell? ⟨w.heap.size, 2, none⟩ = some (.slice a d.length cap)) ∧
      (convert 25 9 (.slice a d.length cap)).run Try.prog wx = .ok (.string ⟨d.toArray⟩) wx ∧ Below (w.heap.size + 1) (w.alloc (.cells #[.int .i64 k, .int .i64 c, .slice a d.length cap] 48)) wx)
    (first | exact KH.out _ (Below.refl _ _).drew | exact KH.out _ (Below.refl _ _) | exact KH.out _ (by assumption))
    ((go_at_call 42; have hbx := (by assumption : _ ∧ _ ∧ Below _ _ _).2.2; (first | (with_reducible refine (big1 _ xk _).mono ?_) | (with_reducible refine (big2 _ xc _).mono ?_) | (with_reducible refine (big4 _ xd _).mono ?_)); rintro e w2 ⟨rfl, hb2⟩; have hbz := hbx.trans (hb2.mono (below_alloc hbx)); clear hb2 hbx))
  rename_i hHeld
  clear hHeld
  have HBZ := Lib.hid hbz
  go_wp2_with fail
  go_ret
  refine ⟨?_, HBEL.out.trans (HBZ.out.mono (by omega))⟩
  have h := (cat_list (be 1 k ++ be 2 c ++ be 4 d.length ++ d) [206])
  rw [← cat_list, ← cat_list, ← cat_list] at h
  refine congrArg (fun s => Ending.returned (.string s)) (Eq.trans h ?_)
  simp only [putF, Int.toNat_natCast, be_one]
  rfl

set_option maxRecDepth 100000 in
set_option maxHeartbeats 4000000 in
theorem rsame_any {B C : Nat} (f g : Fr) (a b : Option Addr) (c d : Nat) (w : World) (hB : B ≤ w.heap.size) (hC : C ≤ w.heap.size) (hf : BytesAt B w a f.data) (hg : BytesAt C w b g.data) :
    Calls Try.prog 37 #[.agg #[.int .i64 f.kind, .int .i64 f.chan, .slice a f.data.length c], .agg #[.int .i64 g.kind, .int .i64 g.chan, .slice b g.data.length d]] w (SaysB (f = g) w) := by
  obtain ⟨k1, c1, l1⟩ := f
  obtain ⟨k2, c2, l2⟩ := g
  have hbel : Below w.heap.size w ((w.alloc (.cells #[.int .i64 k1, .int .i64 c1, .slice a l1.length c] 48)).alloc (.cells #[.int .i64 k2, .int .i64 c2, .slice b l2.length d] 48)) := ((Below.refl _ _).alloc (Nat.le_refl _) _).alloc (by simp) _
  have HB := Lib.hid hbel
  have hcv1 := conv_str c (hf.under (hbel.mono hB))
  have hcv2 := conv_str d (hg.under (hbel.mono hC))
  clear hbel hf hg
  by_cases hk : k1 = k2
  · subst hk
    by_cases hc : c1 = c2
    · subst hc
      go_enter Try.func37, Try.ntmps37
      go_wp2_with fail
      go_ret
      exact ⟨l1 == l2, by simp, rfl, HB.out⟩
    · have hcb : (c1 == c2) = false := by simpa using hc
      have HC := Lib.hid hc
      clear hc
      go_enter Try.func37, Try.ntmps37
      go_wp2_with fail
      go_ret
      exact ⟨false, by simpa using fun h => absurd h HC.out, rfl, HB.out⟩
  · have hkb : (k1 == k2) = false := by simpa using hk
    have HK := Lib.hid hk
    clear hk
    go_enter Try.func37, Try.ntmps37
    go_wp2_with fail
    go_ret
    exact ⟨false, by simpa using fun h => absurd h HK.out, rfl, HB.out⟩

end Go.Proofs.Ytpibbgencojbgaa
