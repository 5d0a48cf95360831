/-
  Law 12's small functions: Short.
-/
import Derived.Test.YthohjcfpobeplaaShMks
namespace Go.Proofs.Ythohjcfpobeplaa.Sh
open Go.RowKit Rg Go.Sort
set_option linter.unusedVariables false
set_option linter.unusedSimpArgs false

def ShortM (m : Mg) : Prop := m.key.length ≤ 300 ∧ m.body.length ≤ 300
instance : DecidablePred ShortM := fun m => inferInstanceAs (Decidable (_ ∧ _))

set_option maxHeartbeats 1000000 in
theorem short_any (m : Mg) (w : World) :
    Calls Try.prog 61 #[.agg #[.int .i64 m.pub, .int .i64 m.seq, .string ⟨m.key.toArray⟩, .string ⟨m.body.toArray⟩, .bool m.again]] w fun e w' => e = .returned (.bool (decide (ShortM m))) ∧ Grew w w' := by
  have HG := Lib.hid (Grew.alloc w (.cells #[.int .i64 m.pub, .int .i64 m.seq, .string ⟨m.key.toArray⟩, .string ⟨m.body.toArray⟩, .bool m.again] 35))
  obtain ⟨p, q, k, d, ag⟩ := m
  have hsk : (⟨k.toArray⟩ : ByteArray).size = k.length := rfl
  have hsz : (⟨d.toArray⟩ : ByteArray).size = d.length := rfl
  by_cases h0 : k.length ≤ 300
  case neg =>
    rw [decide_eq_false (show ¬ ShortM ⟨p, q, k, d, ag⟩ from fun h => h0 h.1)]
    have g0 : decide ((k.length : Int) ≤ 300) = false := decide_eq_false (by omega)
    clear h0
    go_enter Try.func61, Try.ntmps61
    go_wp2_with fail
    go_ret
    exact ⟨rfl, HG.out⟩
  have g0 : decide ((k.length : Int) ≤ 300) = true := decide_eq_true (by omega)
  by_cases h1 : d.length ≤ 300
  case neg =>
    rw [decide_eq_false (show ¬ ShortM ⟨p, q, k, d, ag⟩ from fun h => h1 h.2)]
    have g1 : decide ((d.length : Int) ≤ 300) = false := decide_eq_false (by omega)
    clear h0 h1
    go_enter Try.func61, Try.ntmps61
    go_wp2_with fail
    go_ret
    exact ⟨rfl, HG.out⟩
  rw [decide_eq_true (show ShortM ⟨p, q, k, d, ag⟩ from ⟨h0, h1⟩)]
  have g1 : decide ((d.length : Int) ≤ 300) = true := decide_eq_true (by omega)
  clear h0 h1
  go_enter Try.func61, Try.ntmps61
  go_wp2_with fail
  go_ret
  exact ⟨rfl, HG.out⟩

def shortRel (w : World) (l : List Mg) (m : Nat) (v : Value) (wr : World) : Prop :=
  ∃ i : Nat, i ≤ l.length ∧ (∀ (j : Nat) (hj : j < l.length), j < i → ShortM l[j]) ∧ v = .int .i64 i ∧ m = l.length - i ∧ Grew w wr
set_option maxRecDepth 100000 in
set_option maxHeartbeats 1000000 in
theorem batch_any (a : Option Addr) (cap : Nat) (l : List Mg) (w : World) (hf : MgsAt w a cap l) :
    Calls Try.prog 17 #[.slice a l.length cap] w fun e w' => e = .returned (.bool (decide ((∀ m ∈ l, ShortM m) ∧ l.length ≤ 12))) ∧ Grew w w' := by
  have HF := Lib.hid hf
  have hcap := hf.max
  have hlen := hf.len
  unfold maxLen at hcap
  clear hf
  go_enter Try.func17, Try.ntmps17
  go_wp2_with fail
  go_loopg [3] l.length (shortRel w l)
  case atStart => exact ⟨0, Nat.zero_le _, fun j hj h => by omega, rfl, rfl, Grew.refl _⟩
  case round =>
    obtain ⟨i, hi, hok, rfl, rfl, hg⟩ := hrel
    have HOK := Lib.hid hok
    have HG := Lib.hid hg
    have HF1 := Lib.hid (HF.out.below hg.below)
    clear hok hg
    by_cases hlt : i < l.length
    · have hlti : (i : Int) < (l.length : Int) := by omega
      have h0i : (0 : Int) ≤ (i : Int) := by omega
      have c4 : IntKind.i64.wrap ((i : Int) + 1) = (i : Int) + 1 := IntWalk.i64_in _ (by omega)
      obtain ⟨b, o, rfl, d0, d1, d2, d3, d4⟩ := MgsAt.get HF1.out i hlt
      have HS := Lib.hid (short_any l[i] wr)
      by_cases hs : ShortM l[i]
      case neg =>
        rw [decide_eq_false hs] at HS
        have HR : Hid (decide ((∀ m ∈ l, ShortM m) ∧ l.length ≤ 12) = false) := Lib.hid (decide_eq_false fun h => hs (h.1 _ (List.getElem_mem hlt)))
        clear hs
        go_wp2_with (go_at_call 61; refine HS.out.mono ?_; rintro e w2 ⟨rfl, hg2⟩; have HG2 := Lib.hid hg2; clear hg2)
        go_ret
        exact ⟨by rw [HR.out]; rfl, HG.out.trans HG2.out⟩
      rw [decide_eq_true hs] at HS
      have HSS := Lib.hid hs
      clear hs
      go_wp2_with (go_at_call 61; refine HS.out.mono ?_; rintro e w2 ⟨rfl, hg2⟩; have HG2 := Lib.hid hg2; clear hg2)
      go_roundg (l.length - (i + 1))
      case measure => omega
      case rel => exact ⟨i + 1, by omega, fun j hj h => (by by_cases e : j = i; · subst e; exact HSS.out
                                                            · exact HOK.out j hj (by omega)), by go_num, rfl, HG.out.trans HG2.out⟩
    · obtain rfl : i = l.length := by omega
      have hall : ∀ m ∈ l, ShortM m := fun m hm => by
        obtain ⟨j, hj, rfl⟩ := List.getElem_of_mem hm
        exact HOK.out j hj hj
      have HR : Hid (decide ((∀ m ∈ l, ShortM m) ∧ l.length ≤ 12) = decide ((l.length : Int) ≤ 12)) := Lib.hid (by
        by_cases h : l.length ≤ 12
        · rw [decide_eq_true ⟨hall, h⟩, decide_eq_true (by omega)]
        · rw [decide_eq_false (fun g => h g.2), decide_eq_false (by omega)])
      clear hall
      go_wp2_with fail
      go_ret
      exact ⟨ret_bool (by rw [HR.out]), HG.out⟩

end Go.Proofs.Ythohjcfpobeplaa.Sh
