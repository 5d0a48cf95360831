/-
  The document's own answer: its reader of bytes, carrefourref1's R: Some, Big, Int, walked (of a reader that is not bad yet).
-/
import Derived.Test.YtifgkmaaglaffaaOctD
import Derived.Test.YtifgkmaaglaffaaOctT
import Derived.Deep.LoopGhost
namespace Go.Proofs.Ytifgkmaaglaffaa
open Go.RowKit
set_option linter.unusedVariables false

theorem ext_list (l : List UInt8) (i j : Nat) : (⟨l.toArray⟩ : ByteArray).extract i j = ⟨((l.drop i).take (j - i)).toArray⟩ := by
  have e : ((⟨l.toArray⟩ : ByteArray).extract i j).data.toList = (l.drop i).take (j - i) := by
    rw [ByteArray.data_extract, Array.toList_extract]
  generalize (⟨l.toArray⟩ : ByteArray).extract i j = x at e
  obtain ⟨⟨y⟩⟩ := x
  rw [show y = _ from e]
theorem str_to (l : List UInt8) (k : Nat) (hk : k ≤ l.length) (w : World) : (Instr.slice 9 (.string ⟨l.toArray⟩) none (some (.int .i64 k)) none).run Try.prog w = .ok (.string ⟨(l.take k).toArray⟩) w := by
  have hs : (⟨l.toArray⟩ : ByteArray).size = l.length := rfl
  rw [run_slice_string_to_if (P := Try.prog) w 9 ⟨l.toArray⟩ .i64 k Try.underlying9, if_pos ⟨by omega, by rw [hs]; omega⟩]
  show Result.ok (Value.string ((⟨l.toArray⟩ : ByteArray).extract 0 ((k : Int).toNat))) w = _
  rw [ext_list]
  simp
theorem str_from (l : List UInt8) (k : Nat) (hk : k ≤ l.length) (w : World) : (Instr.slice 9 (.string ⟨l.toArray⟩) (some (.int .i64 k)) none none).run Try.prog w = .ok (.string ⟨(l.drop k).toArray⟩) w := by
  have hs : (⟨l.toArray⟩ : ByteArray).size = l.length := rfl
  rw [run_slice_string_from_if (P := Try.prog) w 9 ⟨l.toArray⟩ .i64 k Try.underlying9, if_pos ⟨by omega, by rw [hs]; omega⟩]
  show Result.ok (Value.string ((⟨l.toArray⟩ : ByteArray).extract ((k : Int).toNat) _)) w = _
  rw [hs, ext_list]
  congr 3
  simp only [Int.toNat_natCast]
  rw [List.take_of_length_le (by simp)]

/-- the document's reader in block g: what is left, whether it is bad. -/
def RB (w : World) (g : Nat) (l : List UInt8) (bad : Bool) : Prop := w.heap[g]? = some (.cells #[.string ⟨l.toArray⟩, .bool bad] 70 (0, 0))
theorem rb_cells {w : World} {g : Nat} {l : List UInt8} {bad : Bool} (h : RB w g l bad) : w.cell? ⟨g, 0, none⟩ = some (.string ⟨l.toArray⟩) ∧ w.cell? ⟨g, 1, none⟩ = some (.bool bad) ∧ w.frozen? ⟨g, 0, none⟩ = false ∧ w.frozen? ⟨g, 1, none⟩ = false := by
  unfold RB at h
  refine ⟨?_, ?_, ?_, ?_⟩
  all_goals first | (rw [cell_of_row w _ _ _ _ _ h]; rfl) | simp [World.frozen?, h]

def SomeR (g : Nat) (l : List UInt8) (n : Nat) (w : World) (e : Ending) (w' : World) : Prop :=
  e = .returned (.string ⟨(takeP n l).1.toArray⟩) ∧ RB w' g (takeP n l).2.1 (takeP n l).2.2 ∧ w.grownBy w' (some g)

set_option maxRecDepth 100000 in
set_option maxHeartbeats 1000000 in
theorem some_any (g : Nat) (l : List UInt8) (n : Nat) (hl : l.length ≤ maxLen) (w : World) (h : RB w g l false) :
    Calls Try.prog 38 #[.pointer (some ⟨g, 0, none⟩), .int .i64 n] w (SomeR g l n w) := by
  obtain ⟨c0, c1, f0, f1⟩ := rb_cells h
  have HRB := Lib.hid h
  have hs : (⟨l.toArray⟩ : ByteArray).size = l.length := rfl
  have hn0 : ¬ (n : Int) < 0 := by omega
  unfold SomeR
  by_cases hlt : l.length < n
  · have hi : (l.length : Int) < (n : Int) := by omega
    have hp : takeP n l = ([], [], true) := by unfold takeP; rw [if_pos hlt]
    have HP := Lib.hid hp
    have d0 : (w.setCell ⟨g, 1, none⟩ (.bool true)).cell? ⟨g, 0, none⟩ = some (.string ⟨l.toArray⟩) := by
      rw [cell_of_row _ _ _ _ _ _ (set_heap h 1 _)]; rfl
    have e0 : (w.setCell ⟨g, 1, none⟩ (.bool true)).frozen? ⟨g, 0, none⟩ = false := by simp [World.frozen?, set_heap h 1 (.bool true)]
    clear h hp hlt
    go_enter Try.func38, Try.ntmps38
    go_wp2_with fail
    go_ret
    rw [HP.out]
    refine ⟨rfl, ?_, GrownBy.trans (set_grown _ _ _ _) (set_grown _ _ _ _)⟩
    unfold RB
    rw [set_heap (set_heap HRB.out 1 (.bool true)) 0 (.string ⟨#[]⟩)]
    rfl
  · have hi : ¬ (l.length : Int) < (n : Int) := by omega
    have hp : takeP n l = (l.take n, l.drop n, false) := by unfold takeP; rw [if_neg hlt]
    have HP := Lib.hid hp
    have hto := str_to l n (by omega)
    have hfr := str_from l n (by omega)
    clear h hp hlt
    go_enter Try.func38, Try.ntmps38
    go_wp2_with fail
    go_ret
    rw [HP.out]
    refine ⟨rfl, ?_, set_grown _ _ _ _⟩
    unfold RB
    rw [set_heap HRB.out 0 _]
    rfl

def rbigRel (w : World) (l : List UInt8) (m : Nat) (u v : Value) (wr : World) : Prop :=
  ∃ i : Nat, i ≤ l.length ∧ u = .int .u64 (de (l.take i) : Nat) ∧ v = .int .i64 i ∧ m = l.length - i ∧ wr = w
theorem de_next {l : List UInt8} {i : Nat} (h : i < l.length) : de (l.take (i + 1)) = de (l.take i) * 256 + l[i].toNat := by
  rw [List.take_succ_eq_append_getElem h, de_snoc]

def BigR (g : Nat) (l : List UInt8) (k : Nat) (w : World) (e : Ending) (w' : World) : Prop :=
  e = .returned (.int .u64 (numP k l).1) ∧ RB w' g (numP k l).2.1 (numP k l).2.2 ∧ w.grownBy w' (some g)
set_option maxRecDepth 100000 in
set_option maxHeartbeats 1000000 in
theorem rnum_any (g : Nat) (l : List UInt8) (k : Nat) (hk : k ≤ 8) (hl : l.length ≤ maxLen) (w : World) (h : RB w g l false) :
    Calls Try.prog 37 #[.pointer (some ⟨g, 0, none⟩), .int .i64 k] w (BigR g l k w) := by
  have HS := Lib.hid (some_any g l k hl w h)
  unfold SomeR at HS
  unfold BigR
  have hn : (numP k l).1 = de (takeP k l).1 := rfl
  have hm : (numP k l).2 = (takeP k l).2 := rfl
  rw [hn, hm]
  have htl : (takeP k l).1.length ≤ 8 := by
    unfold takeP; split
    · simp
    · simp; omega
  obtain ⟨t, ht⟩ : ∃ t, t = (takeP k l).1 := ⟨_, rfl⟩
  rw [← ht] at HS htl ⊢
  clear h hn hm ht
  go_enter Try.func37, Try.ntmps37
  go_wp2_with fail
  refine HS.out.mono ?_
  rintro e w1 ⟨rfl, hr1, hg1⟩
  have HR1 := Lib.hid (And.intro hr1 hg1)
  have hsz : (⟨t.toArray⟩ : ByteArray).size = t.length := rfl
  clear hr1 hg1
  go_wp2_with fail
  go_loopg [6, 7] t.length (rbigRel w1 t)
  case atStart => exact ⟨0, Nat.zero_le _, rfl, rfl, rfl, rfl⟩
  case round =>
    obtain ⟨i, hi, rfl, rfl, rfl, rfl⟩ := hrel
    by_cases hlt : i < t.length
    · have hlti : (i : Int) < (t.length : Int) := by omega
      have h0i : (0 : Int) ≤ (i : Int) := by omega
      have hget : (⟨t.toArray⟩ : ByteArray)[i]'(by show i < t.length; exact hlt) = t[i] := rfl
      have HDE := Lib.hid (de_next hlt)
      have hdl := de_lt (t.take i)
      have hm56 : de (t.take i) < 72057594037927936 := Nat.lt_of_lt_of_le hdl (by
        have : (t.take i).length ≤ 7 := by simp; omega
        exact (show (256 : Nat) ^ (t.take i).length ≤ 256 ^ 7 from Nat.pow_le_pow_right (by decide) this))
      obtain ⟨x, hx⟩ : ∃ x, x = t[i] := ⟨_, rfl⟩
      have HO := Lib.hid (or_byte64 (de (t.take i)) x hm56)
      rw [← hx] at HDE hget
      clear hdl hm56 hx
      go_wp2_with fail
      go_roundg (t.length - (i + 1))
      case measure => omega
      case rel => exact ⟨i + 1, by omega, by rw [HDE.out, ← HO.out], by simp, rfl, rfl⟩
    · obtain rfl : i = t.length := by omega
      have HT := Lib.hid (show t.take t.length = t from List.take_of_length_le (Nat.le_refl _))
      obtain ⟨y, hy⟩ : ∃ y, y = de (t.take t.length) := ⟨_, rfl⟩
      have HY := Lib.hid hy
      rw [← hy]
      clear hy
      go_wp2_with fail
      go_ret
      exact ⟨by rw [← HT.out, ← HY.out]; rfl, HR1.out.1, HR1.out.2⟩

theorem rint_any (g : Nat) (l : List UInt8) (k : Nat) (hk : k ≤ 7) (hl : l.length ≤ maxLen) (w : World) (h : RB w g l false) :
    Calls Try.prog 36 #[.pointer (some ⟨g, 0, none⟩), .int .i64 k] w fun e w' => e = .returned (.int .i64 (numP k l).1) ∧ RB w' g (numP k l).2.1 (numP k l).2.2 ∧ w.grownBy w' (some g) := by
  have HB := Lib.hid (rnum_any g l k (by omega) hl w h)
  unfold BigR at HB
  have hlt := num_lt k l
  have hlt2 : (numP k l).1 < 72057594037927936 := Nat.lt_of_lt_of_le hlt (show (256 : Nat) ^ k ≤ 256 ^ 7 from Nat.pow_le_pow_right (by decide) hk)
  obtain ⟨n, hn⟩ : ∃ n, n = (numP k l).1 := ⟨_, rfl⟩
  rw [← hn] at HB hlt2 ⊢
  have hw : IntKind.i64.wrap (n : Int) = (n : Int) := IntWalk.i64_in _ (by omega)
  clear h hn hlt
  go_enter Try.func36, Try.ntmps36
  go_wp2_with fail
  refine HB.out.mono ?_
  rintro e w1 ⟨rfl, hr1, hg1⟩
  have HR1 := Lib.hid (And.intro hr1 hg1)
  clear hr1 hg1
  go_wp2_with fail
  go_ret
  exact ⟨rfl, HR1.out.1, HR1.out.2⟩

end Go.Proofs.Ytifgkmaaglaffaa
