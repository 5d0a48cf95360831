/-
  The calls that the laws ask: they may be.
-/
import Derived.Test.YtiobcgolcoocnaaGreatDoorChMem
namespace Go.Proofs.YtiobcgolcoocnaaGreatDoor.Ch
open Go.RowKit
set_option linter.unusedVariables false

theorem fits_nil : Fits [] := ⟨fun x hx => by simp at hx, fun x hx => by simp at hx⟩
theorem mayT_nil : MayT 1 [] := ⟨by decide, by decide, fun i hi => by simp at hi, by simp [mayAll_iff]⟩
theorem of_wf (id : Int) (h : -9223372036854775808 ≤ id ∧ id ≤ 9223372036854775807) : (Me.of id).Wf := by
  have e0 : (ByteArray.empty).size ≤ maxLen := by decide
  exact ⟨h, e0, e0, e0, e0, e0, (by decide : (-9223372036854775808 : Int) ≤ 0 ∧ (0 : Int) ≤ 9223372036854775807), (by decide : (-9223372036854775808 : Int) ≤ 0 ∧ (0 : Int) ≤ 9223372036854775807), (by decide : (0 : Nat) < 18446744073709551616), fits_nil⟩
theorem size_max {l : List UInt8} (h : l.length ≤ 255) : (ByteArray.mk l.toArray).size ≤ maxLen := by
  show l.toArray.size ≤ maxLen
  simp [maxLen]; omega
theorem size_255 {l : List UInt8} (h : l.length ≤ 255) : (ByteArray.mk l.toArray).size ≤ 255 := by
  show l.toArray.size ≤ 255
  simpa using h
theorem of_may {id : Int} (h : partsOf id = some []) : MayM (Me.of id) := (mayM_iff (m := Me.of id) (l := []) h).2 ⟨fun p hp => by simp at hp, fun p _ => Me.of_no _ p⟩

def pubM (s : List UInt8) (f : Bool) : Me := { Me.of 6040 with key := ⟨s.toArray⟩, flag := f }
theorem pubM_wf (s : List UInt8) (f : Bool) (hs : s.length ≤ 255) : (pubM s f).Wf := by
  obtain ⟨h0, h1, h2, h3, h4, h5, h6, h7, h8, h9⟩ := of_wf 6040 (by decide)
  exact ⟨h0, h1, h2, h3, (size_max hs), h5, h6, h7, h8, h9⟩
theorem pubM_may (s : List UInt8) (f : Bool) (hs : s.length ≤ 255) : MayM (pubM s f) := by
  refine (mayM_iff (m := pubM s f) (l := [.e, .k, .f]) rfl).2 ⟨fun p hp => ?_, fun p hp => ?_⟩
  · simp only [List.mem_cons, List.not_mem_nil, or_false] at hp
    rcases hp with rfl | rfl | rfl
    · show (ByteArray.empty).size ≤ 255; decide
    · exact size_255 hs
    · trivial
  · cases p <;> first | rfl | (exact absurd hp (by simp))
def decM (s : List UInt8) : Me := { Me.of 5010 with name := ⟨s.toArray⟩ }
theorem decM_wf (s : List UInt8) (hs : s.length ≤ 255) : (decM s).Wf := by
  obtain ⟨h0, h1, h2, h3, h4, h5, h6, h7, h8, h9⟩ := of_wf 5010 (by decide)
  exact ⟨h0, (size_max hs), h2, h3, h4, h5, h6, h7, h8, h9⟩
theorem decM_may (s : List UInt8) (hs : s.length ≤ 255) : MayM (decM s) := by
  refine (mayM_iff (m := decM s) (l := [.n]) rfl).2 ⟨fun p hp => ?_, fun p hp => ?_⟩
  · simp only [List.mem_cons, List.not_mem_nil, or_false] at hp
    rcases hp with rfl
    · exact size_255 hs
  · cases p <;> first | rfl | (exact absurd hp (by simp))
def qosM (k : Nat) : Me := { Me.of 6010 with count := (k : Int) }
theorem qosM_wf (k : Nat) (hk : k ≤ 65535) : (qosM k).Wf := by
  obtain ⟨h0, h1, h2, h3, h4, h5, h6, h7, h8, h9⟩ := of_wf 6010 (by decide)
  exact ⟨h0, h1, h2, h3, h4, h5, h6, (by show -9223372036854775808 ≤ (k : Int) ∧ (k : Int) ≤ 9223372036854775807; omega), h8, h9⟩
theorem qosM_may (k : Nat) (hk : k ≤ 65535) : MayM (qosM k) := by
  refine (mayM_iff (m := qosM k) (l := [.u]) rfl).2 ⟨fun p hp => ?_, fun p hp => ?_⟩
  · simp only [List.mem_cons, List.not_mem_nil, or_false] at hp
    rcases hp with rfl
    · show u64 (k : Int) < 4294967296; unfold u64; omega
  · cases p <;> first | rfl | (exact absurd hp (by simp))
def conM (s : List UInt8) (t : List UInt8) : Me := { Me.of 6020 with name := ⟨s.toArray⟩, text := ⟨t.toArray⟩ }
theorem conM_wf (s : List UInt8) (t : List UInt8) (hs : s.length ≤ 255) (ht : t.length ≤ 255) : (conM s t).Wf := by
  obtain ⟨h0, h1, h2, h3, h4, h5, h6, h7, h8, h9⟩ := of_wf 6020 (by decide)
  exact ⟨h0, (size_max hs), h2, h3, h4, (size_max ht), h6, h7, h8, h9⟩
theorem conM_may (s : List UInt8) (t : List UInt8) (hs : s.length ≤ 255) (ht : t.length ≤ 255) : MayM (conM s t) := by
  refine (mayM_iff (m := conM s t) (l := [.n, .x]) rfl).2 ⟨fun p hp => ?_, fun p hp => ?_⟩
  · simp only [List.mem_cons, List.not_mem_nil, or_false] at hp
    rcases hp with rfl | rfl
    · exact size_255 hs
    · exact size_255 ht
  · cases p <;> first | rfl | (exact absurd hp (by simp))
def ackM (k : Nat) (f : Bool) : Me := { Me.of 6080 with tag := k, flag := f }
theorem ackM_wf (k : Nat) (f : Bool) (hk : k ≤ 65535) : (ackM k f).Wf := by
  obtain ⟨h0, h1, h2, h3, h4, h5, h6, h7, h8, h9⟩ := of_wf 6080 (by decide)
  exact ⟨h0, h1, h2, h3, h4, h5, h6, h7, (by show k < 18446744073709551616; omega), h9⟩
theorem ackM_may (k : Nat) (f : Bool) (hk : k ≤ 65535) : MayM (ackM k f) := by
  refine (mayM_iff (m := ackM k f) (l := [.t, .f]) rfl).2 ⟨fun p hp => ?_, fun p hp => ?_⟩
  · simp only [List.mem_cons, List.not_mem_nil, or_false] at hp
    rcases hp with rfl | rfl
    · show k < 18446744073709551616; omega
    · trivial
  · cases p <;> first | rfl | (exact absurd hp (by simp))
def delM (t : List UInt8) (k : Nat) : Me := { Me.of 6060 with text := ⟨t.toArray⟩, tag := k }
theorem delM_wf (t : List UInt8) (k : Nat) (ht : t.length ≤ 255) (hk : k ≤ 65535) : (delM t k).Wf := by
  obtain ⟨h0, h1, h2, h3, h4, h5, h6, h7, h8, h9⟩ := of_wf 6060 (by decide)
  exact ⟨h0, h1, h2, h3, h4, (size_max ht), h6, h7, (by show k < 18446744073709551616; omega), h9⟩
theorem delM_may (t : List UInt8) (k : Nat) (ht : t.length ≤ 255) (hk : k ≤ 65535) : MayM (delM t k) := by
  refine (mayM_iff (m := delM t k) (l := [.x, .t, .f, .e, .k]) rfl).2 ⟨fun p hp => ?_, fun p hp => ?_⟩
  · simp only [List.mem_cons, List.not_mem_nil, or_false] at hp
    rcases hp with rfl | rfl | rfl | rfl | rfl
    · exact size_255 ht
    · show k < 18446744073709551616; omega
    · trivial
    · show (ByteArray.empty).size ≤ 255; decide
    · show (ByteArray.empty).size ≤ 255; decide
  · cases p <;> first | rfl | (exact absurd hp (by simp))
def getM (k : Nat) : Me := { Me.of 6071 with tag := k }
theorem getM_wf (k : Nat) (hk : k ≤ 65535) : (getM k).Wf := by
  obtain ⟨h0, h1, h2, h3, h4, h5, h6, h7, h8, h9⟩ := of_wf 6071 (by decide)
  exact ⟨h0, h1, h2, h3, h4, h5, h6, h7, (by show k < 18446744073709551616; omega), h9⟩
theorem getM_may (k : Nat) (hk : k ≤ 65535) : MayM (getM k) := by
  refine (mayM_iff (m := getM k) (l := [.t, .f, .e, .k, .u]) rfl).2 ⟨fun p hp => ?_, fun p hp => ?_⟩
  · simp only [List.mem_cons, List.not_mem_nil, or_false] at hp
    rcases hp with rfl | rfl | rfl | rfl | rfl
    · show k < 18446744073709551616; omega
    · trivial
    · show (ByteArray.empty).size ≤ 255; decide
    · show (ByteArray.empty).size ≤ 255; decide
    · show u64 0 < 4294967296; decide
  · cases p <;> first | rfl | (exact absurd hp (by simp))
def exM (s : List UInt8) (t : List UInt8) : Me := { Me.of 4010 with name := ⟨s.toArray⟩, typ := ⟨t.toArray⟩ }
theorem exM_wf (s : List UInt8) (t : List UInt8) (hs : s.length ≤ 255) (ht : t.length ≤ 255) : (exM s t).Wf := by
  obtain ⟨h0, h1, h2, h3, h4, h5, h6, h7, h8, h9⟩ := of_wf 4010 (by decide)
  exact ⟨h0, (size_max hs), (size_max ht), h3, h4, h5, h6, h7, h8, h9⟩
theorem exM_may (s : List UInt8) (t : List UInt8) (hs : s.length ≤ 255) (ht : t.length ≤ 255) : MayM (exM s t) := by
  refine (mayM_iff (m := exM s t) (l := [.n, .y]) rfl).2 ⟨fun p hp => ?_, fun p hp => ?_⟩
  · simp only [List.mem_cons, List.not_mem_nil, or_false] at hp
    rcases hp with rfl | rfl
    · exact size_255 hs
    · exact size_255 ht
  · cases p <;> first | rfl | (exact absurd hp (by simp))
def bindM (s : List UInt8) (e : List UInt8) (t : List UInt8) (l : List It) : Me := { Me.of 5020 with name := ⟨s.toArray⟩, ex := ⟨e.toArray⟩, key := ⟨t.toArray⟩, args := l }
theorem bindM_wf (s : List UInt8) (e : List UInt8) (t : List UInt8) (l : List It) (hs : s.length ≤ 255) (he : e.length ≤ 255) (ht : t.length ≤ 255) (hf : Fits l) (hm : MayT 1 l) : (bindM s e t l).Wf := by
  obtain ⟨h0, h1, h2, h3, h4, h5, h6, h7, h8, h9⟩ := of_wf 5020 (by decide)
  exact ⟨h0, (size_max hs), h2, (size_max he), (size_max ht), h5, h6, h7, h8, (hf)⟩
theorem bindM_may (s : List UInt8) (e : List UInt8) (t : List UInt8) (l : List It) (hs : s.length ≤ 255) (he : e.length ≤ 255) (ht : t.length ≤ 255) (hf : Fits l) (hm : MayT 1 l) : MayM (bindM s e t l) := by
  refine (mayM_iff (m := bindM s e t l) (l := [.n, .e, .k, .a]) rfl).2 ⟨fun p hp => ?_, fun p hp => ?_⟩
  · simp only [List.mem_cons, List.not_mem_nil, or_false] at hp
    rcases hp with rfl | rfl | rfl | rfl
    · exact size_255 hs
    · exact size_255 he
    · exact size_255 ht
    · exact hm
  · cases p <;> first | rfl | (exact absurd hp (by simp))
def cloM (k : Nat) (t : List UInt8) : Me := { Me.of 2040 with code := (k : Int), text := ⟨t.toArray⟩ }
theorem cloM_wf (k : Nat) (t : List UInt8) (hk : k ≤ 65535) (ht : t.length ≤ 255) : (cloM k t).Wf := by
  obtain ⟨h0, h1, h2, h3, h4, h5, h6, h7, h8, h9⟩ := of_wf 2040 (by decide)
  exact ⟨h0, h1, h2, h3, h4, (size_max ht), (by show -9223372036854775808 ≤ (k : Int) ∧ (k : Int) ≤ 9223372036854775807; omega), h7, h8, h9⟩
theorem cloM_may (k : Nat) (t : List UInt8) (hk : k ≤ 65535) (ht : t.length ≤ 255) : MayM (cloM k t) := by
  refine (mayM_iff (m := cloM k t) (l := [.c, .x]) rfl).2 ⟨fun p hp => ?_, fun p hp => ?_⟩
  · simp only [List.mem_cons, List.not_mem_nil, or_false] at hp
    rcases hp with rfl | rfl
    · show u64 (k : Int) < 65536; unfold u64; omega
    · exact size_255 ht
  · cases p <;> first | rfl | (exact absurd hp (by simp))

end Go.Proofs.YtiobcgolcoocnaaGreatDoor.Ch
