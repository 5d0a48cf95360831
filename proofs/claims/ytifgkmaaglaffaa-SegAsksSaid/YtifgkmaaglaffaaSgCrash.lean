/-
  Crash of a log, walked.
-/
import Derived.Test.YtifgkmaaglaffaaSgCat
import Derived.Deep.RegionWith
namespace Go.Proofs.Ytifgkmaaglaffaa.Sg
open Go.RowKit
set_option linter.unusedVariables false
variable {B C : Nat}

theorem Buf.form3 {w : World} {base : Nat} {v : Value} {l : List UInt8} (h : Buf w base v l) : ∃ a c, v = .slice a l.length c ∧ l.length ≤ c ∧ c ≤ maxLen ∧ (a = none → c = 0) ∧ BytesAt w.heap.size w a l := by
  obtain ⟨a, c, hv, h1, h2, h3⟩ := Buf.bytes h
  refine ⟨a, c, hv, h1, h2, fun e => ?_, h3⟩
  rcases h.2 with ⟨hn, _⟩ | ⟨g, cap, cur, hn, _⟩
  · rw [hv] at hn
    exact (Value.slice.inj hn).2.2
  · rw [hv, e] at hn
    cases hn
/-- how many of n bytes a crash leaves that would keep so many. -/
def keepF (keep : Int) (n : Nat) : Nat := (min (max keep 0) (n : Int)).toNat
theorem keepF_le (keep : Int) (n : Nat) : keepF keep n ≤ n := by unfold keepF; omega
def crF (sy wa : List UInt8) (bg : Bool) (keep : Int) : List UInt8 := sy ++ wa.take (if bg then 0 else keepF keep wa.length)
theorem crF_length (sy wa : List UInt8) (bg : Bool) (keep : Int) : (crF sy wa bg keep).length = sy.length + (if bg then 0 else keepF keep wa.length) := by
  unfold crF
  have := keepF_le keep wa.length
  rw [List.length_append, List.length_take]
  congr 1
  apply Nat.min_eq_left
  split <;> omega
def CrashR (sy wa : List UInt8) (bg : Bool) (keep : Int) (w : World) (e : Ending) (w' : World) : Prop :=
  ∃ v, e = .returned v ∧ Buf w' w.heap.size v (crF sy wa bg keep) ∧ Below w.heap.size w w'

set_option maxRecDepth 100000 in
set_option maxHeartbeats 2000000 in
theorem crash_any {g : Nat} {vs vw : Value} {sy wa : List UInt8} {bg : Bool} (keep : Int) (w : World) (h : LogAt C w g vs vw sy wa bg) (hl : sy.length + wa.length ≤ 1000000) :
    Calls Try.prog 29 #[.pointer (some ⟨g, 0, none⟩), .int .i64 keep] w (CrashR sy wa bg keep w) := by
  obtain ⟨⟨c0, c1, c2⟩, -⟩ := box3 h.box
  obtain ⟨az, cz, rfl, hlz, hmz, -, hatz⟩ := Buf.form3 h.sb
  obtain ⟨aw, cw, rfl, hlw, hmw, hnw, hatw⟩ := Buf.form3 h.wb
  obtain ⟨K, hK⟩ : ∃ K, K = if bg then 0 else keepF keep wa.length := ⟨_, rfl⟩
  have hKl : K ≤ wa.length := by
    rw [hK]
    have := keepF_le keep wa.length
    split <;> omega
  have hcr : crF sy wa bg keep = sy ++ wa.take K := by unfold crF; rw [hK]
  have hrun := front_bytes (a := aw) hlw hnw K hKl
  have hkl : (wa.take K).length = K := by simp; omega
  obtain ⟨W1, hW1⟩ : ∃ W1, W1 = (w.alloc (.cells #[.slice az sy.length cz, .slice aw K cw] 22)).drew := ⟨_, rfl⟩
  have hb1 : Below w.heap.size w W1 := by rw [hW1]; exact ((Kept.refl [] w).alloc _).drew.below (Nat.le_refl _) (fun b hb => by simp at hb)
  have hcat := concat_any (B := w.heap.size) (H := w.heap.size) (n1 := sy.length) (n2 := K) (c1 := cz) (c2 := cw) (l1 := sy) (l2 := wa.take K) W1 (by rw [hW1]; exact heap_alloc_new w _) (hatz.below hb1) ((hatw.take K).below hb1) rfl hkl.symm (by omega) hb1.size
  rw [hkl] at hrun
  have HW1 := Lib.hid hW1
  have HCAT := Lib.hid hcat
  have HB1 := Lib.hid hb1
  unfold CrashR
  rw [hcr]
  have hKc : (K : Int) ≤ (cw : Int) := by omega
  have hcw9 : cw ≤ 9223372036854775807 := by unfold maxLen at hmw; omega
  cases bg with
  | true =>
    simp only [if_true] at hK
    have hmin : min (0 : Int) (wa.length : Int) = (K : Int) := by omega
    clear h hatz hatw hnw hlz hmz hmw hcr hkl hW1 hb1 hcat hK
    go_enter Try.func29, Try.ntmps29
    go_wp2_with fail
    go_region_with (go_at_call 40; rw [← HW1.out]; refine HCAT.out.mono ?_; rintro e w2 ⟨v2, rfl, hbf2, hb2⟩; have HE := Lib.hid (And.intro hbf2 hb2); clear hbf2 hb2)
    all_goals
      go_wp2_with fail
      go_ret
      exact ⟨_, rfl, Buf.mono HE.out.1 HB1.out.size, HB1.out.trans (HE.out.2.mono HB1.out.size)⟩
  | false =>
    simp only [if_neg (show ¬ (false = true) by decide)] at hK
    obtain ⟨m, hm⟩ : ∃ m : Nat, max keep 0 = (m : Int) := ⟨(max keep 0).toNat, by omega⟩
    have hmin : min (m : Int) (wa.length : Int) = (K : Int) := by rw [hK]; unfold keepF; rw [hm]; omega
    clear h hatz hatw hnw hlz hmz hmw hcr hkl hW1 hb1 hcat hK
    go_enter Try.func29, Try.ntmps29
    go_wp2_with fail
    go_region_with (go_at_call 40; rw [← HW1.out]; refine HCAT.out.mono ?_; rintro e w2 ⟨v2, rfl, hbf2, hb2⟩; have HE := Lib.hid (And.intro hbf2 hb2); clear hbf2 hb2)
    all_goals
      go_wp2_with fail
      go_ret
      exact ⟨_, rfl, Buf.mono HE.out.1 HB1.out.size, HB1.out.trans (HE.out.2.mono HB1.out.size)⟩

end Go.Proofs.Ytifgkmaaglaffaa.Sg
