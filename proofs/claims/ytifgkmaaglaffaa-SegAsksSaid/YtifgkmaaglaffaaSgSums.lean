/-
  SegSums.
-/
import Derived.Test.YtifgkmaaglaffaaSgBnd
namespace Go.Proofs.Ytifgkmaaglaffaa.Sg
open Go.RowKit
set_option linter.unusedVariables false
variable {B C : Nat}

theorem row_nil {k : IntKind} {w : World} {a : Option Addr} {len cap : Nat} {z : List Int} (h : IsRow k w a len cap z) : a = none → cap = 0 := by
  intro e
  rcases h with ⟨_, _, hc, _⟩ | ⟨x, hx, _⟩
  · exact hc
  · rw [e] at hx; cases hx
theorem ret_or {w : World} {e : Ending} {W : World} (h : e = .returned (.bool true) ∧ Below W.heap.size W w) : e = .returned (.bool true) ∧ Below W.heap.size W w := h

set_option maxRecDepth 100000 in
set_option maxHeartbeats 4000000 in
theorem sums_any (a : Option Addr) (len cap : Nat) (z : List Int) (p1 p2 : Int) (w : World) (w0 : IsRow .u8 w a len cap z) (w1 : (Lit.int .i64 p1).wf = true) (w2 : (Lit.int .u8 p2).wf = true) :
    Calls Try.prog 7 #[.slice a len cap, .int .i64 p1, .int .u8 p2] w fun e w' => e = .returned (.bool true) ∧ Below w.heap.size w w' := by
  obtain ⟨c, rfl⟩ := byte_of (in_u8 w2)
  obtain ⟨l, rfl, a', cap', he, hlc, hcm, hat⟩ := bytes_of_row w0
  obtain ⟨rfl, -, rfl⟩ := Value.slice.inj he
  clear w0 w1 w2 he
  have HAT := Lib.hid hat
  have HCM := Lib.hid hcm
  have hcm9 : cap ≤ 9223372036854775807 := by unfold maxLen at hcm; omega
  clear hat hcm
  by_cases h1 : l.length < 1
  · have hi : (l.length : Int) < 1 := by omega
    clear h1
    go_enter Try.func7, Try.ntmps7
    go_wp2_with fail
    refine (told_any w).mono ?_
    rintro e w3 ⟨rfl, hb3⟩
    have HB3 := Lib.hid hb3
    clear hb3
    go_wp2_with fail
    go_ret
    exact ⟨rfl, HB3.out⟩
  have hi : ¬ (l.length : Int) < 1 := by omega
  by_cases h4 : 400 < l.length
  · have hi4 : (400 : Int) < (l.length : Int) := by omega
    clear h1 h4
    go_enter Try.func7, Try.ntmps7
    go_wp2_with fail
    refine (told_any w).mono ?_
    rintro e w3 ⟨rfl, hb3⟩
    have HB3 := Lib.hid hb3
    clear hb3
    go_wp2_with fail
    go_ret
    exact ⟨rfl, HB3.out⟩
  have hi4 : ¬ (400 : Int) < (l.length : Int) := by omega
  obtain ⟨k, hk, hkl⟩ := u64_rem p1 l.length (by omega)
  have hlw : IntKind.u64.wrap (l.length : Int) = (l.length : Int) := by rw [IntKind.wrap_u64]; omega
  have hl0 : ¬ (l.length : Int) = 0 := by omega
  have hwk : IntKind.i64.wrap (k : Int) = (k : Int) := IntWalk.i64_in _ (by omega)
  have hb0 : Below w.heap.size w (w.alloc (.cells #[] 5)) := below_alloc _ _
  have HB0 := Lib.hid hb0
  have HAT0 := Lib.hid (HAT.out.below hb0)
  have hown : Buf (w.alloc (.cells #[] 5)) w.heap.size (.slice (some ⟨w.heap.size, 0, none⟩) 0 0) [] := World.ownsRow_lit w #[] 0 (Nat.le_refl _) (by decide) (by simp)
  have HOWN := Lib.hid hown
  have hz : ([] : List UInt8).length + l.length ≤ 1000000 := by simp; omega
  have HZ := Lib.hid hz
  have hkc : (k : Int) < (l.length : Int) := by omega
  have hk0 : (0 : Int) ≤ (k : Int) := by omega
  have HLL : Hid (0 < l.length) := Lib.hid (by omega)
  have HLC := Lib.hid hlc
  obtain ⟨x, hx⟩ : ∃ x, x = l[k] := ⟨_, rfl⟩
  have HX := Lib.hid hx
  have hxor := xor_byte x c
  clear hb0 hown hz hx h1 h4
  go_enter Try.func7, Try.ntmps7
  go_wp2_with (at_builtin; refine put_bytes (base := w.heap.size) (l := []) (m := l) rfl (.tmp 25) (.tmp 26) rfl HOWN.out HB0.out.size HAT0.out HZ.out rfl rfl rfl ?_; intro v2 w2 hb2 hon2; have HB2 := Lib.hid (HB0.out.trans (hon2.below HOWN.out HB0.out.size)); rw [List.nil_append] at hb2; obtain ⟨g2, k2, rfl, hg2, hbb2⟩ := hb2.bytes1 HLL.out; have hc2 := hbb2.cell hkl; rw [← HX.out] at hc2; have hf2 := hbb2.frozen k; have HBB2 := Lib.hid hbb2; have HG2 := Lib.hid hg2; have hl2 := hbb2.len; clear hb2 hon2 hbb2 hg2)
  have hb3 : Bytes1 (w2.setCell ⟨g2, k, none⟩ (.int .u8 ((x.toNat ^^^ c.toNat : Nat) : Int))) g2 k2 (l.set k (x ^^^ c)) := by
    have := HBB2.out.set k (x ^^^ c)
    rwa [UInt8.toNat_xor] at this
  have hbel : Below w.heap.size w (w2.setCell ⟨g2, k, none⟩ (.int .u8 ((x.toNat ^^^ c.toNat : Nat) : Int))) := HB2.out.setCell HG2.out _
  generalize w2.setCell ⟨g2, k, none⟩ (.int .u8 ((x.toNat ^^^ c.toNat : Nat) : Int)) = w3 at *
  obtain ⟨y, hy⟩ : ∃ y, y = l.set k (x ^^^ c) := ⟨_, rfl⟩
  have hyl : y.length = l.length := by rw [hy]; simp
  have HSM : Hid (sumF y = sumF l ↔ c = 0) := Lib.hid (by rw [hy, HX.out]; exact sum_turn hkl c)
  rw [← hy] at hb3
  have HB3 := Lib.hid hbel
  have HBB3 := Lib.hid hb3
  have hl3 := hb3.len
  have HM3 := Lib.hid hb3.max
  clear hb3 hbel hy hc2 hf2 hxor hk hlw hl0 hwk
  refine (told_any w3).mono ?_
  rintro e w4 ⟨rfl, hb4⟩
  have hB4 : Below w.heap.size w w4 := HB3.out.trans (hb4.mono HB3.out.size)
  have HB4 := Lib.hid hB4
  have HBB4 := Lib.hid (HBB3.out.below hb4)
  have hs1 := sum_any (B := w4.heap.size) (some ⟨g2, 0, none⟩) k2 y hl3 HM3.out w4 HBB4.out.at
  rw [hyl] at hs1
  have HS1 := Lib.hid hs1
  have HS2 := Lib.hid (sum_any (B := w.heap.size) a cap l HLC.out HCM.out w4 (HAT.out.below hB4))
  obtain ⟨s1, hs1'⟩ : ∃ s, s = sumF y := ⟨_, rfl⟩
  obtain ⟨s2, hs2'⟩ : ∃ s, s = sumF l := ⟨_, rfl⟩
  rw [← hs1'] at HS1 HSM
  rw [← hs2'] at HS2 HSM
  have hrc : (((s1 : Int) == (s2 : Int)) == ((c.toNat : Int) == 0)) = true := by
    by_cases hc : c = 0
    · rw [HSM.out.2 hc, hc]
      simp
    · have hcn : ¬ (c.toNat : Int) = 0 := fun e => hc (by
        have : c.toNat = (0 : UInt8).toNat := by simp; omega
        exact UInt8.toNat_inj.1 this)
      have e1 : ((s1 : Int) == (s2 : Int)) = false := beq_eq_false_iff_ne.2 (fun h => hc (HSM.out.1 (by omega)))
      have e2 : ((c.toNat : Int) == 0) = false := beq_eq_false_iff_ne.2 hcn
      rw [e1, e2]
      rfl
  clear hb4 hB4 hs1 hs1' hs2' hyl
  go_wp2_with fail
  refine HS1.out.mono ?_
  rintro e wx ⟨rfl, rfl⟩
  go_wp2_with fail
  refine HS2.out.mono ?_
  rintro e wx ⟨rfl, rfl⟩
  go_wp2_with fail
  go_ret
  exact ⟨by first | rfl | (simp [*]; done) | (simp [*]; omega), HB4.out⟩

end Go.Proofs.Ytifgkmaaglaffaa.Sg
