/-
  ring.Halve, walked.
-/
import Derived.Test.YtkcccfllkgjdiaaDoorRgCut
import Derived.Test.YtkcccfllkgjdiaaDoorRgLay
import Derived.Test.YtkcccfllkgjdiaaDoorRgLaw
import Derived.Test.YtkcccfllkgjdiaaDoorRgPut
namespace Go.Proofs.YtkcccfllkgjdiaaDoor.Rg
open Go.RowKit
set_option linter.unusedVariables false

def halveA (l : List Ar) (s o : Int) : List Ar := if May l ∧ okS o = true ∧ (cutF l s o).length ≤ 1024 then halveF l s o else []
theorem arsR_nil (w w' : World) (h : Below w.heap.size w w') : ArsR [] w (.returned (.slice none 0 0)) w' := ⟨none, 0, rfl, RowsAt.nil _ _ _ _ _ (by simp [maxLen]), fun _ => rfl, h⟩
theorem arsR_of {l : List Ar} {w : World} {e : Ending} {w' : World} {n : Nat} {a : Option Addr} {cap : Nat} (he : e = .returned (.slice a n cap)) (hn : n = l.length) (hat : AsAt w' a cap l) (h0 : 0 < l.length) (hb : Below w.heap.size w w') : ArsR l w e w' := by
  subst hn
  obtain ⟨x, hx⟩ := hat.pos h0
  exact ⟨a, cap, he, hat, (fun e => by rw [e] at hx; cases hx), hb⟩
set_option maxHeartbeats 1000000 in
theorem halve_any (a : Option Addr) (cap : Nat) (l : List Ar) (s o : Int) (w : World) (hf : AsAt w a cap l) (hw : Wf l) :
    Calls Tryd.prog 43 #[.slice a l.length cap, .int .i64 s, .int .i64 o] w (ArsR (halveA l s o) w) := by
  have hm := may_any a cap l w hf
  by_cases h1 : May l
  case neg =>
    rw [decide_eq_false h1] at hm
    rw [show halveA l s o = [] from if_neg fun h => h1 h.1]
    clear hf hw h1
    go_enter Tryd.func43, Tryd.ntmps43
    go_wp2_with (go_at_call 13; refine hm.mono ?_; rintro e w1 ⟨rfl, hd⟩; have HD := Lib.hid hd; clear hd)
    go_ret
    exact arsR_nil _ _ HD.out.below
  rw [decide_eq_true h1] at hm
  have hms := fun wx => mayShard_any o wx
  by_cases h2 : okS o = true
  case neg =>
    rw [show halveA l s o = [] from if_neg fun h => h2 h.2.1]
    rw [show okS o = false by simpa using h2] at hms
    clear hf hw h1 h2
    go_enter Tryd.func43, Tryd.ntmps43
    go_wp2_with (first | (go_at_call 13; refine hm.mono ?_; rintro e w1 ⟨rfl, hd⟩; have HD := Lib.hid hd; clear hd) | (go_at_call 28; refine (hms _).mono ?_; rintro e w2 ⟨rfl, rfl⟩))
    go_ret
    exact arsR_nil _ _ HD.out.below
  rw [h2] at hms
  have HF := Lib.hid hf
  have hlc := cut_length (ringT l) s o
  have hl1 := h1.1
  have hl2 := h1.2.1
  rw [ring_length] at hlc
  have HA := Lib.hid (cut_apart hw h1.up s o)
  have HC := Lib.hid fun (wx : World) (hx : AsAt wx a cap l) => cut_any a cap l s o wx hx hw h1
  have hlc' : l.length ≤ (cutF l s o).length ∧ (cutF l s o).length ≤ 2 * l.length := hlc
  by_cases h3 : (cutF l s o).length ≤ 1024
  · have h3i : ¬ (1024 : Int) < ((cutF l s o).length : Int) := by omega
    have hal : halveA l s o = srt (cutF l s o) := if_pos ⟨h1, h2, h3⟩
    rw [hal]
    clear hf h1 h2 hal hlc
    generalize cutF l s o = M at *
    have hM : M ≠ [] := fun e => by subst e; rw [List.length_nil] at hlc'; omega
    have HM := Lib.hid hM
    clear hM
    go_enter Tryd.func43, Tryd.ntmps43
    go_wp2_with (first | (go_at_call 13; refine hm.mono ?_; rintro e w1 ⟨rfl, hd⟩; have HD := Lib.hid hd; clear hd) | (go_at_call 28; refine (hms _).mono ?_; rintro e w2 ⟨rfl, rfl⟩) | (go_at_call 61; refine (HC.out w1 (HF.out.below HD.out.below)).mono ?_; rintro e w2 ⟨ca, cc, rfl, hown, hb⟩; have HOWN := Lib.hid hown; have HB := Lib.hid hb; clear hown hb) | (go_at_call 36; refine (lay_any w1.heap.size M ca cc w2 HOWN.out HM.out (by omega) HA.out HB.out.size).mono ?_; rintro e w3 ⟨la, lc, rfl, hat3, hb3⟩; have HAT3 := Lib.hid hat3; have HB3 := Lib.hid hb3; clear hat3 hb3))
    go_ret
    exact arsR_of rfl (srt_length M).symm HAT3.out (by rw [srt_length]; omega) (HD.out.below.trans ((HB.out.trans HB3.out).mono HD.out.below.size))
  · have h3i : (1024 : Int) < ((cutF l s o).length : Int) := by omega
    rw [show halveA l s o = [] from if_neg fun h => h3 h.2.2]
    clear hf h1 h2 hlc
    generalize cutF l s o = M at *
    go_enter Tryd.func43, Tryd.ntmps43
    go_wp2_with (first | (go_at_call 13; refine hm.mono ?_; rintro e w1 ⟨rfl, hd⟩; have HD := Lib.hid hd; clear hd) | (go_at_call 28; refine (hms _).mono ?_; rintro e w2 ⟨rfl, rfl⟩) | (go_at_call 61; refine (HC.out w1 (HF.out.below HD.out.below)).mono ?_; rintro e w2 ⟨ca, cc, rfl, hown, hb⟩; have HOWN := Lib.hid hown; have HB := Lib.hid hb; clear hown hb))
    go_ret
    exact arsR_nil _ _ (HD.out.below.trans (HB.out.mono HD.out.below.size))

end Go.Proofs.YtkcccfllkgjdiaaDoor.Rg
