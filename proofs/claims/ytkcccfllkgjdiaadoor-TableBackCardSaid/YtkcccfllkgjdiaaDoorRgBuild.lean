/-
  ring.Build, the document's Build, walked.
-/
import Derived.Test.YtkcccfllkgjdiaaDoorRgMarks
import Derived.Test.YtkcccfllkgjdiaaDoorRgLay
import Derived.Test.YtkcccfllkgjdiaaDoorRgPut
namespace Go.Proofs.YtkcccfllkgjdiaaDoor.Rg
open Go.RowKit
set_option linter.unusedVariables false

def buildL (ws : List Int) : List Ar := if MayW ws then ringW ws else []
def buildC (ws : List Int) : Int := if MayW ws then 0 else 1
def BuildR (ws : List Int) (w : World) (e : Ending) (w' : World) : Prop :=
  ∃ a cap, e = .returned (.tuple #[.slice a (buildL ws).length cap, .int .i64 (buildC ws)]) ∧ AsAt w' a cap (buildL ws) ∧ (a = none → cap = 0) ∧ Below w.heap.size w w'
theorem buildR_not {ws : List Int} (h : ¬ MayW ws) (w w' : World) (hb : Below w.heap.size w w') : BuildR ws w (.returned (.tuple #[.slice none 0 0, .int .i64 1])) w' := by
  unfold BuildR buildL buildC
  rw [if_neg h, if_neg h]
  exact ⟨none, 0, rfl, RowsAt.nil _ _ _ _ _ (by simp [maxLen]), fun _ => rfl, hb⟩
theorem buildR_of {ws : List Int} {w : World} {e : Ending} {w' : World} {n : Nat} {a : Option Addr} {cap : Nat} (h : MayW ws) (he : e = .returned (.tuple #[.slice a n cap, .int .i64 0])) (hn : n = (ringW ws).length) (hat : AsAt w' a cap (ringW ws)) (hb : Below w.heap.size w w') : BuildR ws w e w' := by
  unfold BuildR buildL buildC
  rw [if_pos h, if_pos h]
  subst hn
  obtain ⟨x, hx⟩ := hat.pos (ringW_may h).1
  exact ⟨a, cap, he, hat, (fun e => by rw [e] at hx; cases hx), hb⟩

set_option maxHeartbeats 1000000 in
theorem build_any (a : Option Addr) (cap : Nat) (ws : List Int) (w : World) (hf : WsAt w a cap ws) :
    Calls Tryd.prog 18 #[.slice a ws.length cap] w (BuildR ws w) := by
  have hm := mayW_any a cap ws w hf
  by_cases h1 : MayW ws
  case neg =>
    rw [decide_eq_false h1] at hm
    have HX := Lib.hid h1
    clear hf h1
    go_enter Tryd.func18, Tryd.ntmps18
    go_wp2_with (go_at_call 35; refine hm.mono ?_; rintro e w1 ⟨rfl, rfl⟩)
    go_ret2
    exact buildR_not HX.out _ _ (Below.refl _ _)
  rw [decide_eq_true h1] at hm
  have HX := Lib.hid h1
  have HMK := Lib.hid (marks_any a cap ws w hf h1.2.2.1 h1.2.1)
  have hne := marks_some h1.2.2.2
  have hle := marks_le h1.2.2.1 h1.2.1
  have hap := marks_apartF h1.2.2.1 h1.2.1
  have hri : ringW ws = srt (marksF ws) := rfl
  have HRI := Lib.hid hri
  have HNE := Lib.hid hne
  have HAP := Lib.hid hap
  clear hf h1 hne hap hri
  generalize marksF ws = M at *
  go_enter Tryd.func18, Tryd.ntmps18
  go_wp2_with (first | (go_at_call 35; refine hm.mono ?_; rintro e w1 ⟨rfl, rfl⟩) | (go_at_call 37; refine HMK.out.mono ?_; rintro e w2 ⟨ca, cc, rfl, hown, hb⟩; have HOWN := Lib.hid hown; have HB := Lib.hid hb; clear hown hb) | (go_at_call 36; refine (lay_any w.heap.size M ca cc w2 HOWN.out HNE.out (by omega) HAP.out HB.out.size).mono ?_; rintro e w3 ⟨la, lc, rfl, hat3, hb3⟩; have HAT3 := Lib.hid hat3; have HB3 := Lib.hid hb3; clear hat3 hb3))
  go_ret2
  exact buildR_of HX.out rfl (by rw [HRI.out, srt_length]) (by rw [HRI.out]; exact HAT3.out) (HB.out.trans HB3.out)

/-! ### the document's Build -/
theorem part_code {ws : List Int} (h : ∀ x ∈ ws, 0 ≤ x ∧ x ≤ 4) (i k : Nat) (hi : i ≤ ws.length) (hk : k ≤ 32) : ∀ b ∈ partF ws i k, ∃ n, n < 32 * i + k ∧ b = arN n := by
  intro b hb
  unfold partF at hb
  rcases List.mem_append.1 hb with hb | hb
  · obtain ⟨n, hn, rfl⟩ := List.mem_map.1 hb
    have := codes_in (ws.take i) (fun x hx => h x (List.mem_of_mem_take hx)) 0 n hn
    rw [List.length_take] at this
    exact ⟨n, by omega, rfl⟩
  · obtain ⟨j, hj, rfl⟩ := List.mem_map.1 hb
    have := List.mem_range.1 hj
    exact ⟨32 * i + j, by omega, (code_at i j (by omega)).symm⟩
theorem part_put {ws : List Int} (h : ∀ x ∈ ws, 0 ≤ x ∧ x ≤ 4) (h16 : ws.length ≤ 16) (i k : Nat) (hi : i < ws.length) (hk : k < 32) {L : List Ar} (hu : Up L) (hp : L.Perm (partF ws i k)) :
    Up (putF L ⟨markN i k, (i : Int)⟩) ∧ (putF L ⟨markN i k, (i : Int)⟩).Perm (partF ws i (k + 1)) := by
  refine ⟨put_up hu _, ?_⟩
  rw [partF_succ]
  refine (put_perm fun b hb => ?_).trans ((hp.cons _).trans (List.perm_append_comm (l₁ := [_])))
  obtain ⟨n, hn, rfl⟩ := part_code h i k (by omega) (by omega) b (hp.mem_iff.1 hb)
  have hc := code_at i k hk
  rw [← hc]
  exact mkN_ne hn (by omega)
def someK (ws : List Int) (i : Nat) : Bool := (ws.take i).any fun x => decide (0 < x)
theorem someK_succ (ws : List Int) (i : Nat) (h : i < ws.length) : someK ws (i + 1) = (someK ws i || decide (0 < ws[i])) := by
  unfold someK
  rw [List.take_succ_eq_append_getElem h, List.any_append]
  simp
theorem someK_all (ws : List Int) : someK ws ws.length = true ↔ ∃ x ∈ ws, 0 < x := by
  unfold someK
  rw [List.take_length, List.any_eq_true]
  simp
def rb1Rel (W : World) (ws : List Int) (m : Nat) (u v : Value) (wr : World) : Prop :=
  ∃ i : Nat, i ≤ ws.length ∧ (∀ j (h : j < ws.length), j < i → 0 ≤ ws[j] ∧ ws[j] ≤ 4) ∧ u = .bool (someK ws i) ∧ v = .int .i64 i ∧ m = ws.length - i ∧ W = wr
def rb2Rel (W : World) (ws : List Int) (m : Nat) (u v : Value) (wr : World) : Prop :=
  ∃ (i : Nat) (L : List Ar) (a : Option Addr) (cap : Nat), i ≤ ws.length ∧ u = .slice a L.length cap ∧ v = .int .i64 i ∧ m = ws.length - i ∧ AsAt wr a cap L ∧ (a = none → cap = 0) ∧ Up L ∧ L.Perm (partF ws i 0) ∧ Below W.heap.size W wr
def rb3Rel (W : World) (ws : List Int) (i n : Nat) (m : Nat) (u v : Value) (wr : World) : Prop :=
  ∃ (k : Nat) (L : List Ar) (a : Option Addr) (cap : Nat), k ≤ n ∧ u = .slice a L.length cap ∧ v = .int .i64 k ∧ m = n - k ∧ AsAt wr a cap L ∧ (a = none → cap = 0) ∧ Up L ∧ L.Perm (partF ws i k) ∧ Below W.heap.size W wr

set_option maxRecDepth 100000 in
set_option maxHeartbeats 2000000 in
theorem rbuild_any (a : Option Addr) (cap : Nat) (ws : List Int) (w : World) (hf : WsAt w a cap ws) :
    Calls Tryd.prog 20 #[.slice a ws.length cap] w (BuildR ws w) := by
  have hcap := hf.max
  have hlen := hf.len
  unfold maxLen at hcap
  by_cases h0 : ws.length < 1
  · have HR := Lib.hid (show ¬ MayW ws from fun h => by have := h.1; omega)
    have e0 : (ws.length : Int) < 1 := by omega
    clear hf
    go_enter Tryd.func20, Tryd.ntmps20
    go_wp2_with fail
    go_ret2
    exact buildR_not HR.out _ _ (Below.refl _ _)
  have e0 : ¬ (ws.length : Int) < 1 := by omega
  by_cases h16 : 16 < ws.length
  · have HR := Lib.hid (show ¬ MayW ws from fun h => by have := h.2.1; omega)
    have e1 : (16 : Int) < (ws.length : Int) := by omega
    clear hf
    go_enter Tryd.func20, Tryd.ntmps20
    go_wp2_with fail
    go_ret2
    exact buildR_not HR.out _ _ (Below.refl _ _)
  have e1 : ¬ (16 : Int) < (ws.length : Int) := by omega
  have HF := Lib.hid hf
  clear hf
  go_enter Tryd.func20, Tryd.ntmps20
  go_wp2_with fail
  go_loopg [4, 5] ws.length (rb1Rel w ws)
  case atStart => exact ⟨0, Nat.zero_le _, fun j h hj => by omega, by simp [someK], rfl, rfl, rfl⟩
  case round =>
    obtain ⟨i, hi, hok, rfl, rfl, rfl, rfl⟩ := hrel
    have HOK := Lib.hid hok
    clear hok
    by_cases hlt : i < ws.length
    · have hlti : (i : Int) < (ws.length : Int) := by omega
      have h0i : (0 : Int) ≤ (i : Int) := by omega
      obtain ⟨b, o, rfl, c0⟩ := WsAt.get HF.out i hlt
      by_cases g1 : ws[i] < 0
      · have HR := Lib.hid (show ¬ MayW ws from fun h => by have := (h.2.2.1 _ (List.getElem_mem hlt)).1; omega)
        go_wp2_with fail
        go_ret2
        exact buildR_not HR.out _ _ (Below.refl _ _)
      by_cases g2 : 4 < ws[i]
      · have HR := Lib.hid (show ¬ MayW ws from fun h => by have := (h.2.2.1 _ (List.getElem_mem hlt)).2; omega)
        go_wp2_with fail
        go_ret2
        exact buildR_not HR.out _ _ (Below.refl _ _)
      have HS := Lib.hid (someK_succ ws i hlt)
      have HX := Lib.hid (show 0 ≤ ws[i] ∧ ws[i] ≤ 4 by omega)
      have HG : Hid (∀ j (h : j < ws.length), j < i + 1 → 0 ≤ ws[j] ∧ ws[j] ≤ 4) := Lib.hid fun j h hj => by
        by_cases hji : j = i
        · subst hji; exact HX.out
        · exact HOK.out j h (by omega)
      generalize someK ws i = q at *
      clear HX HOK
      cases q
      · go_wp2_with fail
        go_roundg (ws.length - (i + 1))
        case measure => omega
        case rel => exact ⟨i + 1, by omega, HG.out, by rw [HS.out, Bool.false_or], by go_num, by simp, rfl⟩
      · go_wp2_with fail
        go_roundg (ws.length - (i + 1))
        case measure => omega
        case rel => exact ⟨i + 1, by omega, HG.out, by rw [HS.out, Bool.true_or], by go_num, by simp, rfl⟩
    · obtain rfl : i = ws.length := by omega
      have hall : ∀ x ∈ ws, 0 ≤ x ∧ x ≤ 4 := fun x hx => by
        obtain ⟨j, hj, rfl⟩ := List.getElem_of_mem hx
        exact HOK.out j hj hj
      have hsm := someK_all ws
      have HALL := Lib.hid hall
      generalize someK ws ws.length = q at *
      clear HOK hall
      cases q
      · have HR := Lib.hid (show ¬ MayW ws from fun h => by have := hsm.2 h.2.2.2; cases this)
        clear hsm
        go_wp2_with fail
        go_ret2
        exact buildR_not HR.out _ _ (Below.refl _ _)
      · have HMW := Lib.hid (show MayW ws from ⟨by omega, by omega, HALL.out, hsm.1 rfl⟩)
        clear hsm
        go_wp2_with fail
        go_loopg [6, 7] ws.length (rb2Rel w ws)
        case atStart => exact ⟨0, [], none, 0, Nat.zero_le _, rfl, rfl, rfl, RowsAt.nil _ _ _ _ _ (by simp [maxLen]), fun _ => rfl, List.Pairwise.nil, by unfold partF marksF codes; exact List.Perm.refl _, Below.refl _ _⟩
        case round =>
          obtain ⟨i, L, a2, cap2, hi2, rfl, rfl, rfl, hat, hn, hup, hp, hb⟩ := hrel
          have HAT := Lib.hid hat
          have HN := Lib.hid hn
          have HUP := Lib.hid hup
          have HP := Lib.hid hp
          have HB := Lib.hid hb
          have HF1 := Lib.hid (HF.out.below hb)
          clear hat hn hup hp hb
          by_cases hlt2 : i < ws.length
          · have hlti : (i : Int) < (ws.length : Int) := by omega
            have h0i : (0 : Int) ≤ (i : Int) := by omega
            have HGET := Lib.hid fun (wx : World) (hx : WsAt wx a cap ws) => WsAt.get hx i hlt2
            have hx := HALL.out _ (List.getElem_mem hlt2)
            have HPA := Lib.hid (partF_all HALL.out i hlt2)
            generalize ws[i] = x at *
            obtain ⟨n, hnn⟩ : ∃ n : Nat, 8 * x = n := ⟨(8 * x).toNat, by omega⟩
            have hn32 : n ≤ 32 := by omega
            have c8 : IntKind.i64.wrap (x * 8) = (n : Int) := by rw [Int.mul_comm, hnn]; exact IntWalk.i64_in _ (by omega)
            rw [hnn, Int.toNat_natCast] at HPA
            have hx8 : x * 8 = (n : Int) := by omega
            clear hnn
            go_wp2_with fail
            go_loopg [6, 8] n (rb3Rel w ws i n)
            case atStart => exact ⟨0, L, a2, cap2, Nat.zero_le _, rfl, rfl, rfl, HAT.out, HN.out, HUP.out, HP.out, HB.out⟩
            case round =>
              obtain ⟨k, L3, a3, cap3, hk, rfl, rfl, rfl, hat3, hn3, hup3, hp3, hb3⟩ := hrel
              have HAT3 := Lib.hid hat3
              have HN3 := Lib.hid hn3
              have HUP3 := Lib.hid hup3
              have HP3 := Lib.hid hp3
              have HB3 := Lib.hid hb3
              obtain ⟨b, o, rfl, c0⟩ := HGET.out _ (HF.out.below hb3)
              have hL3 : L3.length ≤ 1000 := by rw [hp3.length_eq]; exact partF_le HALL.out (by omega) i k (by omega)
              clear hat3 hn3 hup3 hp3 hb3
              by_cases hlk : k < n
              · have hlki : (k : Int) < (n : Int) := by omega
                have h0k : (0 : Int) ≤ (k : Int) := by omega
                have HM := Lib.hid fun wx => rmark_any i k (by omega) (by omega) wx
                have HPP := Lib.hid (part_put HALL.out (by omega) i k hlt2 (by omega) HUP3.out HP3.out)
                have HPT := Lib.hid (put_any a3 cap3 L3 ⟨markN i k, (i : Int)⟩ _ HAT3.out HN3.out (by omega))
                generalize markN i k = y at *
                go_wp2_with (first | (go_at_call 40; refine (HM.out _).mono ?_; rintro e w5 ⟨rfl, rfl⟩) | (go_at_call 39; refine HPT.out.mono ?_; rintro e w6 ⟨a6, cap6, rfl, hat6, hn6, hb6⟩; have HAT6 := Lib.hid hat6; have HN6 := Lib.hid hn6; have HB6 := Lib.hid hb6; clear hat6 hn6 hb6))
                go_roundg (n - (k + 1))
                case measure => omega
                case rel => exact ⟨k + 1, _, a6, cap6, by omega, rfl, by go_num, by simp, HAT6.out, HN6.out, HPP.out.1, HPP.out.2, HB3.out.trans (HB6.out.mono HB3.out.size)⟩
              · obtain rfl : k = n := by omega
                go_wp2_with fail
                go_roundg (ws.length - (i + 1))
                case measure => omega
                case rel => exact ⟨i + 1, L3, a3, cap3, by omega, rfl, by go_num, by simp, HAT3.out, HN3.out, HUP3.out, by rw [← HPA.out]; exact HP3.out, HB3.out⟩
          · obtain rfl : i = ws.length := by omega
            have HPE := HP.out
            rw [partF_end] at HPE
            have HL := Lib.hid (srt_one HUP.out HPE)
            clear HPE
            go_wp2_with fail
            go_ret2
            exact buildR_of HMW.out rfl (by rw [HL.out]; rfl) (by rw [show ringW ws = L from HL.out.symm]; exact HAT.out) HB.out

end Go.Proofs.YtkcccfllkgjdiaaDoor.Rg
