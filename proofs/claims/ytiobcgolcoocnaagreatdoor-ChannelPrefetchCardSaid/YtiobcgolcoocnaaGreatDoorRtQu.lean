/-
  route.Queues, walked: the four ways.
-/
import Derived.Test.YtiobcgolcoocnaaGreatDoorRtWay
import Derived.Test.YtiobcgolcoocnaaGreatDoorRtWant
namespace Go.Proofs.YtiobcgolcoocnaaGreatDoor.Rt
open Go.RowKit Top
set_option linter.unusedVariables false

set_option maxHeartbeats 400000 in
theorem queues_def (a : Option Addr) (ac n : Nat) (c : Option Addr) (cc k : Nat) (key : List UInt8) (w : World) :
    Calls Tryz.prog 25 #[.slice a n ac, .slice c k cc, .string ⟨#[]⟩, .string ⟨key.toArray⟩] w fun r w' => Below w.heap.size w w' ∧ r = .returned (.tuple #[.slice (some ⟨w.heap.size, 0, none⟩) 1 1, .int .i64 0]) ∧ w'.cell? ⟨w.heap.size, 0, none⟩ = some (.string ⟨key.toArray⟩) := by
  go_enter Tryz.func25, Tryz.ntmps25
  go_wp2_with fail
  go_ret2
  refine ⟨(Below.refl _ _).alloc (Nat.le_refl _) _, rfl, ?_⟩
  rw [cell_of_row _ _ _ _ _ _ (heap_alloc_new w _)]; rfl

set_option maxHeartbeats 400000 in
theorem queues_none (a : Option Addr) (ac : Nat) (x : List Ex) (c : Option Addr) (cc k : Nat) (ex key : List UInt8) (he : ex ≠ []) (hn : fnd ex x = none) (w : World) (hx : XsAt w a ac x) :
    Calls Tryz.prog 25 #[.slice a x.length ac, .slice c k cc, .string ⟨ex.toArray⟩, .string ⟨key.toArray⟩] w fun r w' => Below w.heap.size w w' ∧ r = .returned (.tuple #[.slice none 0 0, .int .i64 404]) := by
  have hf := find_any a ac x ex w hx
  rw [hn] at hf
  have hpl : pl none = -1 := rfl
  rw [hpl] at hf
  have HF := Lib.hid hf
  have hee : ex.isEmpty = false := by simpa using he
  clear hf hx hn he hpl
  go_enter Tryz.func25, Tryz.ntmps25
  go_wp2_with (go_at_call 43; refine HF.out.mono ?_; rintro e w2 ⟨rfl, hb2⟩; have HB2 := Lib.hid hb2; clear hb2)
  go_ret2
  exact ⟨HB2.out, rfl⟩

set_option maxHeartbeats 400000 in
theorem queues_some (a : Option Addr) (ac : Nat) (x : List Ex) (c : Option Addr) (cc : Nat) (l : List Bd) (ex key : List UInt8) (i : Nat) (hi : i < x.length) (he : ex ≠ []) (hn : fnd ex x = some i) (hk4 : ¬ x[i].kind = 4)
    (hl9 : l.length ≤ 1000000) (hk : key.length ≤ 1000000) (hq : ∀ b ∈ l, b.q.length ≤ 1000000 ∧ b.key.length ≤ 1000000) (w : World) (hx : XsAt w a ac x) (hl : BsAt w c cc l) :
    Calls Tryz.prog 25 #[.slice a x.length ac, .slice c l.length cc, .string ⟨ex.toArray⟩, .string ⟨key.toArray⟩] w fun r w' => Below w.heap.size w w' ∧ ∃ v, r = .returned (.tuple #[v, .int .i64 0]) ∧ Own w' w.heap.size v (wantL x[i] key l) := by
  have hf := find_any a ac x ex w hx
  rw [hn] at hf
  have hpl : pl (some i) = (i : Int) := rfl
  rw [hpl] at hf
  have HF := Lib.hid hf
  have HX := Lib.hid hx
  have HL := Lib.hid hl
  have HQ := Lib.hid hq
  have hee : ex.isEmpty = false := by simpa using he
  have hlti : (i : Int) < (x.length : Int) := by omega
  have h0i : (0 : Int) ≤ (i : Int) := by omega
  have hno : ((i : Int) < 0) = False := by simp
  have b4 : (x[i].kind == 4) = false := by simpa using hk4
  clear hf hx hn he hpl hl hq hk4
  go_enter Tryz.func25, Tryz.ntmps25
  go_wp2_with (first | (go_at_call 43; refine HF.out.mono ?_; rintro e w2 ⟨rfl, hb2⟩; have HB2 := Lib.hid hb2; obtain ⟨xb, xo, rfl, x0, x1⟩ := XsAt.get (HX.out.below hb2) i hi; clear hb2) | (go_at_call 45; refine (wanting_any c cc l x[i] key hl9 hk HQ.out w2 (HL.out.below HB2.out)).mono ?_; rintro e w3 ⟨hb3, v, rfl, hown⟩; have HB3 := Lib.hid (HB2.out.trans (hb3.mono HB2.out.size)); have HOWN := Lib.hid (own_mono hown HB2.out.size); clear hb3 hown))
  go_ret2
  exact ⟨HB3.out, v, rfl, HOWN.out⟩

set_option maxHeartbeats 400000 in
theorem queues_hash (a : Option Addr) (ac : Nat) (x : List Ex) (c : Option Addr) (cc : Nat) (l : List Bd) (ex key : List UInt8) (i : Nat) (hi : i < x.length) (he : ex ≠ []) (hn : fnd ex x = some i) (hk4 : x[i].kind = 4)
    (hk : key.length ≤ 1000000) (hq : ∀ b ∈ l, b.q.length ≤ 1000000) (w : World) (hx : XsAt w a ac x) (hl : BsAt w c cc l) :
    Calls Tryz.prog 25 #[.slice a x.length ac, .slice c l.length cc, .string ⟨ex.toArray⟩, .string ⟨key.toArray⟩] w fun r w' => Below w.heap.size w w' ∧ ∃ v, r = .returned (.tuple #[v, .int .i64 0]) ∧ nearQ w' w.heap.size v (nearL ex key l) := by
  have hf := find_any a ac x ex w hx
  rw [hn] at hf
  have hpl : pl (some i) = (i : Int) := rfl
  rw [hpl] at hf
  have HF := Lib.hid hf
  have HX := Lib.hid hx
  have HL := Lib.hid hl
  have HQ := Lib.hid hq
  have hee : ex.isEmpty = false := by simpa using he
  have hlti : (i : Int) < (x.length : Int) := by omega
  have h0i : (0 : Int) ≤ (i : Int) := by omega
  have hno : ((i : Int) < 0) = False := by simp
  have b4 : (x[i].kind == 4) = true := by simpa using hk4
  clear hf hx hn he hpl hl hq
  go_enter Tryz.func25, Tryz.ntmps25
  go_wp2_with (first | (go_at_call 43; refine HF.out.mono ?_; rintro e w2 ⟨rfl, hb2⟩; have HB2 := Lib.hid hb2; obtain ⟨xb, xo, rfl, x0, x1⟩ := XsAt.get (HX.out.below hb2) i hi; clear hb2) | (go_at_call 44; refine (nearest_any c cc l ex key hk HQ.out w2 (HL.out.below HB2.out)).mono ?_; rintro e w3 ⟨hb3, v, rfl, hown⟩; have HB3 := Lib.hid (HB2.out.trans (hb3.mono HB2.out.size)); have hbs := HB2.out.size; have HOWN := Lib.hid (nearQ.mono hown hbs); clear hb3 hown hbs))
  go_ret2
  exact ⟨HB3.out, v, rfl, HOWN.out⟩

end Go.Proofs.YtiobcgolcoocnaaGreatDoor.Rt
