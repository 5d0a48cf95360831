/-
  The document's Last, locked, New, walked.
-/
import Derived.Test.YthohjcfpobeplaaShTold
import Derived.Test.YthohjcfpobeplaaShFst
namespace Go.Proofs.Ythohjcfpobeplaa.Sh
open Go.RowKit Rg Go.Sort
set_option linter.unusedVariables false
set_option linter.unusedSimpArgs false

def rlastRel (W : World) (l : List Mk) (p : Int) (k : List UInt8) (m : Nat) (v : Value) (wr : World) : Prop :=
  ∃ i : Nat, i ≤ l.length ∧ (∀ (j : Nat) (hj : j < i) (hl : j < l.length), lk p k l[j] = false) ∧ v = .int .i64 i ∧ m = l.length - i ∧ W = wr
set_option maxRecDepth 100000 in
set_option maxHeartbeats 2000000 in
theorem rlast_any (s : Sd) (ra : Option Addr) (rc : Nat) (ha : Option Addr) (hc : Nat) (ma : Option Addr) (mc : Nat) (p : Int) (k : List UInt8) (w : World) (hs : SdAt w ra rc ha hc ma mc s) :
    Calls Try.prog 67 #[.agg #[.bool s.fr, .int .i64 s.nx, .slice ra s.rd.length rc, .slice ha s.hd.length hc, .slice ma s.ms.length mc], .int .i64 p, .string ⟨k.toArray⟩] w fun e w' => e = .returned (.int .i64 (lastF s.ms p k)) ∧ Below w.heap.size w w' := by
  obtain ⟨hx, hb0, hWs⟩ := one_box (w := w) (.cells #[.bool s.fr, .int .i64 s.nx, .slice ra s.rd.length rc, .slice ha s.hd.length hc, .slice ma s.ms.length mc] 26)
  obtain ⟨W, hW⟩ : ∃ W, W = w.alloc (.cells #[.bool s.fr, .int .i64 s.nx, .slice ra s.rd.length rc, .slice ha s.hd.length hc, .slice ma s.ms.length mc] 26) := ⟨_, rfl⟩
  rw [← hW] at hx hb0 hWs
  have HS := Lib.hid (hs.below ra rc ha hc ma mc hb0).ms
  have HB := Lib.hid hb0
  have HW := Lib.hid hW
  obtain ⟨⟨c0, c1, c2, c3, c4⟩, -⟩ := box5 hx
  have hm1 := hs.ms.len
  have hm2 := hs.ms.max
  unfold maxLen at hm2
  clear hs hx hb0 hWs hW c0 c1 c2 c3
  go_enter Try.func67, Try.ntmps67
  go_wp2_with fail
  rw [← HW.out]
  go_loopg [7] s.ms.length (rlastRel W s.ms p k)
  case atStart => exact ⟨0, Nat.zero_le _, fun j hj h => by omega, rfl, rfl, rfl⟩
  case round =>
    obtain ⟨i, hi, hno, rfl, rfl, rfl⟩ := hrel
    have HNO := Lib.hid hno
    clear hno
    by_cases hlt : i < s.ms.length
    · have hlti : (i : Int) < (s.ms.length : Int) := by omega
      have h0i : (0 : Int) ≤ (i : Int) := by omega
      have h4 : IntKind.i64.wrap ((i : Int) + 1) = (i : Int) + 1 := IntWalk.i64_in _ (by omega)
      obtain ⟨b, o, rfl, d0, d1, d2⟩ := MksAt.get HS.out i hlt
      have HX := Lib.hid (fun h => last_some (find_first (p := lk p k) hlt h fun j hj => HNO.out j hj (by omega)) hlt)
      have HLK : Hid (lk p k s.ms[i] = decide (s.ms[i].pub = p ∧ s.ms[i].key = k)) := Lib.hid rfl
      have HNX : Hid (lk p k s.ms[i] = false → ∀ (j : Nat) (hj : j < i + 1) (hl : j < s.ms.length), lk p k s.ms[j] = false) := Lib.hid fun h j hj hl => by
        by_cases e : j = i
        · subst e; exact h
        · exact HNO.out j (by omega) hl
      generalize hx0 : s.ms[i] = x at *
      clear hx0
      by_cases q1 : x.pub = p
      · have e1 : (x.pub == p) = true := by simpa using q1
        by_cases q2 : x.key = k
        · have e2 : (x.key == k) = true := by simpa using q2
          have HRES := Lib.hid (HX.out (by rw [HLK.out]; exact decide_eq_true ⟨q1, q2⟩))
          clear q1 q2
          go_wp2_with fail
          go_ret
          exact ⟨by rw [HRES.out]; rfl, HB.out⟩
        · have e2 : (x.key == k) = false := by simpa using q2
          have HRES := Lib.hid (HNX.out (by rw [HLK.out]; exact decide_eq_false fun h => q2 h.2))
          clear q1 q2
          go_wp2_with fail
          go_roundg (s.ms.length - (i + 1))
          case measure => omega
          case rel => exact ⟨i + 1, by omega, HRES.out, by go_num, rfl, rfl⟩
      · have e1 : (x.pub == p) = false := by simpa using q1
        have HRES := Lib.hid (HNX.out (by rw [HLK.out]; exact decide_eq_false fun h => q1 h.1))
        clear q1
        go_wp2_with fail
        go_roundg (s.ms.length - (i + 1))
        case measure => omega
        case rel => exact ⟨i + 1, by omega, HRES.out, by go_num, rfl, rfl⟩
    · obtain rfl : i = s.ms.length := by omega
      have HRES := Lib.hid (last_none (find_not (p := lk p k) fun j hj => HNO.out j hj hj))
      go_wp2_with fail
      go_ret
      exact ⟨by rw [HRES.out]; rfl, HB.out⟩

def rlockRel (W : World) (l : List Hd) (k : List UInt8) (m : Nat) (v : Value) (wr : World) : Prop :=
  ∃ i : Nat, i ≤ l.length ∧ (∀ (j : Nat) (hj : j < i) (hl : j < l.length), ¬ l[j].m.key = k) ∧ v = .int .i64 i ∧ m = l.length - i ∧ W = wr
theorem lockd_yes {s : Sd} {k : List UInt8} {i : Nat} (hi : i < s.hd.length) (h : s.hd[i].m.key = k) : lockd s k = true := by
  unfold lockd
  rw [List.any_eq_true]
  exact ⟨_, List.getElem_mem hi, by simpa using h⟩
theorem lockd_no {s : Sd} {k : List UInt8} (h : ∀ (j : Nat) (hl : j < s.hd.length), ¬ s.hd[j].m.key = k) : lockd s k = false := by
  unfold lockd
  rw [List.any_eq_false]
  intro x hx
  obtain ⟨j, hj, rfl⟩ := List.getElem_of_mem hx
  simpa using h j hj
set_option maxRecDepth 100000 in
set_option maxHeartbeats 2000000 in
theorem rlocked_any (s : Sd) (ra : Option Addr) (rc : Nat) (ha : Option Addr) (hc : Nat) (ma : Option Addr) (mc : Nat) (k : List UInt8) (w : World) (hs : SdAt w ra rc ha hc ma mc s) :
    Calls Try.prog 70 #[.agg #[.bool s.fr, .int .i64 s.nx, .slice ra s.rd.length rc, .slice ha s.hd.length hc, .slice ma s.ms.length mc], .string ⟨k.toArray⟩] w fun e w' => e = .returned (.bool (lockd s k)) ∧ Below w.heap.size w w' := by
  obtain ⟨hx, hb0, hWs⟩ := one_box (w := w) (.cells #[.bool s.fr, .int .i64 s.nx, .slice ra s.rd.length rc, .slice ha s.hd.length hc, .slice ma s.ms.length mc] 26)
  obtain ⟨W, hW⟩ : ∃ W, W = w.alloc (.cells #[.bool s.fr, .int .i64 s.nx, .slice ra s.rd.length rc, .slice ha s.hd.length hc, .slice ma s.ms.length mc] 26) := ⟨_, rfl⟩
  rw [← hW] at hx hb0 hWs
  have HS := Lib.hid (hs.below ra rc ha hc ma mc hb0).hd
  have HB := Lib.hid hb0
  have HW := Lib.hid hW
  obtain ⟨⟨c0, c1, c2, c3, c4⟩, -⟩ := box5 hx
  have hm1 := hs.hd.len
  have hm2 := hs.hd.max
  unfold maxLen at hm2
  clear hs hx hb0 hWs hW c0 c1 c2 c4
  go_enter Try.func70, Try.ntmps70
  go_wp2_with fail
  rw [← HW.out]
  go_loopg [5] s.hd.length (rlockRel W s.hd k)
  case atStart => exact ⟨0, Nat.zero_le _, fun j hj h => by omega, rfl, rfl, rfl⟩
  case round =>
    obtain ⟨i, hi, hno, rfl, rfl, rfl⟩ := hrel
    have HNO := Lib.hid hno
    clear hno
    by_cases hlt : i < s.hd.length
    · have hlti : (i : Int) < (s.hd.length : Int) := by omega
      have h0i : (0 : Int) ≤ (i : Int) := by omega
      have h4 : IntKind.i64.wrap ((i : Int) + 1) = (i : Int) + 1 := IntWalk.i64_in _ (by omega)
      obtain ⟨b, o, rfl, d0, d1, d2, d3, d4, d5⟩ := HdsAt.get HS.out i hlt
      have HX := Lib.hid (fun h => lockd_yes (s := s) (k := k) hlt h)
      have HNX : Hid (¬ s.hd[i].m.key = k → ∀ (j : Nat) (hj : j < i + 1) (hl : j < s.hd.length), ¬ s.hd[j].m.key = k) := Lib.hid fun h j hj hl => by
        by_cases e : j = i
        · subst e; exact h
        · exact HNO.out j (by omega) hl
      generalize hx0 : s.hd[i] = x at *
      clear hx0 d0 d1 d2 d4 d5
      by_cases q2 : x.m.key = k
      · have e2 : (x.m.key == k) = true := by simpa using q2
        have HRES := Lib.hid (HX.out q2)
        clear q2
        go_wp2_with fail
        go_ret
        exact ⟨by rw [HRES.out]; rfl, HB.out⟩
      · have e2 : (x.m.key == k) = false := by simpa using q2
        have HRES := Lib.hid (HNX.out q2)
        clear q2
        go_wp2_with fail
        go_roundg (s.hd.length - (i + 1))
        case measure => omega
        case rel => exact ⟨i + 1, by omega, HRES.out, by go_num, rfl, rfl⟩
    · obtain rfl : i = s.hd.length := by omega
      have HRES := Lib.hid (lockd_no (s := s) (k := k) fun j hj => HNO.out j hj hj)
      go_wp2_with fail
      go_ret
      exact ⟨by rw [HRES.out]; rfl, HB.out⟩

set_option maxHeartbeats 400000 in
theorem rnew_any (w : World) : Calls Try.prog 39 #[] w fun e w' => e = .returned (.agg #[.bool false, .int .i64 1, .slice none 0 0, .slice none 0 0, .slice none 0 0]) ∧ Below w.heap.size w w' := by
  have hb := (Below.refl w.heap.size w).alloc (Nat.le_refl _) (.cells #[.bool false, .int .i64 1, .slice none 0 0, .slice none 0 0, .slice none 0 0] 26)
  have HB := Lib.hid hb
  clear hb
  go_enter Try.func39, Try.ntmps39
  go_wp2_with fail
  refine bodyPost_ret (v := .agg #[.bool false, .int .i64 1, .slice none 0 0, .slice none 0 0, .slice none 0 0]) (by simp [results, Try.results39, go_sem, *]) rfl ?_
  exact ⟨rfl, HB.out⟩

end Go.Proofs.Ythohjcfpobeplaa.Sh
