/-
  The library's Cut and Count at one byte, walked on.
-/
import Derived.Test.YtiobcgolcoocnaaGreatDoorTMem
import Derived.Test.YtiobcgolcoocnaaGreatDoorShelf
import Derived.Lib.IndexLaws
import Derived.Deep.RegionHeld3
namespace Go.Proofs.YtiobcgolcoocnaaGreatDoor.Top
open Go.RowKit
set_option linter.unusedVariables false

theorem Below.drewN {B : Nat} {a w : World} (h : Below B a w) (n : Nat) : Below B a (w.drewN n) := ⟨h.os, h.tape, h.output, h.size, h.block⟩
theorem index_none (l : List UInt8) (h : Lib.indexByte l 46 = -1) : 46 ∉ l := by
  intro hm
  obtain ⟨i, hi, he⟩ := List.getElem_of_mem hm
  exact Lib.indexByte_none h i (by rw [List.getElem?_eq_getElem hi, he])
theorem index_some (l : List UInt8) (k : Nat) (h : Lib.indexByte l 46 = k) : k < l.length ∧ l = l.take k ++ 46 :: l.drop (k + 1) ∧ 46 ∉ l.take k := by
  obtain ⟨h1, h2⟩ := Lib.indexByte_some h
  obtain ⟨hk, he⟩ := List.getElem?_eq_some_iff.1 h1
  refine ⟨hk, ?_, ?_⟩
  · conv => lhs; rw [← List.take_append_drop k l, List.drop_eq_getElem_cons hk, he]
  · intro hm
    obtain ⟨i, hi, he⟩ := List.getElem_of_mem hm
    rw [List.length_take] at hi
    rw [List.getElem_take] at he
    exact h2 i (by omega) (by rw [List.getElem?_eq_getElem (by omega), he])

def CutR (l : List UInt8) (w : World) (e : Ending) (w' : World) : Prop :=
  Below w.heap.size w w' ∧ ((46 ∉ l ∧ e = .returned (.tuple #[.string ⟨l.toArray⟩, .string ⟨#[]⟩, .bool false])) ∨ ∃ a b, l = a ++ 46 :: b ∧ 46 ∉ a ∧ e = .returned (.tuple #[.string ⟨a.toArray⟩, .string ⟨b.toArray⟩, .bool true]))

set_option maxRecDepth 100000 in
set_option maxHeartbeats 2000000 in
theorem cut_in (l : List UInt8) (hl : l.length ≤ 1000000000) (w : World) :
    Calls Tryz.prog 105 #[.string ⟨l.toArray⟩, .string ⟨#[46]⟩] w (CutR l w) := by
  have hge := Lib.indexByte_ge l 46
  have hsz : (⟨l.toArray⟩ : ByteArray).size = l.length := rfl
  by_cases hix : Lib.indexByte l 46 = -1
  · have HN := Lib.hid (index_none l hix)
    go_enter Tryz.func105, Tryz.ntmps105
    go_wp2_with (go_at_call 112; refine (Tryz.stringslite_Index_one _ _ _).mono ?_; rintro e w' ⟨rfl, rfl⟩; rw [show Lib.indexByte (⟨l.toArray⟩ : ByteArray).data.toList 46 = -1 from hix])
    go_ret3
    exact ⟨Below.refl _ _, .inl ⟨HN.out, rfl⟩⟩
  · obtain ⟨k, hk⟩ : ∃ k : Nat, Lib.indexByte l 46 = k := ⟨(Lib.indexByte l 46).toNat, by omega⟩
    obtain ⟨h1, h2, h3⟩ := index_some l k hk
    have H2 := Lib.hid (And.intro h2 h3)
    clear h2 h3
    have c1 : (0 : Int) ≤ (k : Int) := by omega
    have c2 : (k : Int) ≤ (l.length : Int) := by omega
    have c3 : (k : Int) + 1 ≤ (l.length : Int) := by omega
    have c4 : IntKind.i64.wrap ((k : Int) + 1) = (k : Int) + 1 := IntWalk.i64_in _ (by omega)
    have c5 : (0 : Int) ≤ (k : Int) + 1 := by omega
    go_enter Tryz.func105, Tryz.ntmps105
    go_wp2_with (go_at_call 112; refine (Tryz.stringslite_Index_one _ _ _).mono ?_; rintro e w' ⟨rfl, rfl⟩; rw [show Lib.indexByte (⟨l.toArray⟩ : ByteArray).data.toList 46 = (k : Int) from hk])
    go_quiet (fail)
    go_wp2_with fail
    go_ret3
    refine ⟨?_, .inr ⟨l.take k, l.drop (k + 1), H2.out.1, H2.out.2, ?_⟩⟩
    · exact Below.drewN (Below.refl _ _) _
    · rw [list_ext, list_ext]
      show Ending.returned (.tuple #[.string ⟨(List.take (k - 0) (List.drop 0 l)).toArray⟩, .string ⟨(List.take (l.length - (k + 1)) (List.drop (k + 1) l)).toArray⟩, .bool true]) = _
      rw [Nat.sub_zero, List.drop_zero, List.take_of_length_le (l := List.drop (k + 1) l) (by simp)]

set_option maxHeartbeats 2000000 in
theorem cut_one (l : List UInt8) (hl : l.length ≤ 1000000000) (w : World) :
    Calls Tryz.prog 96 #[.string ⟨l.toArray⟩, .string ⟨#[46]⟩] w (CutR l w) := by
  go_enter Tryz.func96, Tryz.ntmps96
  go_wp2_with fail
  refine (cut_in l hl _).mono ?_
  rintro e w' ⟨hb, h⟩
  have HB := Lib.hid hb
  clear hb
  rcases h with ⟨h1, rfl⟩ | ⟨a, b, h1, h2, rfl⟩
  · go_wp2_with fail
    go_ret3
    exact ⟨HB.out, .inl ⟨h1, rfl⟩⟩
  · have H1 := Lib.hid h1
    clear h1
    go_wp2_with fail
    go_ret3
    exact ⟨HB.out, .inr ⟨a, b, H1.out, h2, rfl⟩⟩

theorem count_one (l : List UInt8) (w : World) : Calls Tryz.prog 95 #[.string ⟨l.toArray⟩, .string ⟨#[46]⟩] w fun e w' => e = .returned (.int .i64 (l.count 46 : Nat)) ∧ w = w' := Calls.mono (Tryz.strings_Count_one ⟨l.toArray⟩ 46 w) fun e w' h => ⟨h.1, h.2.symm⟩
end Go.Proofs.YtiobcgolcoocnaaGreatDoor.Top
