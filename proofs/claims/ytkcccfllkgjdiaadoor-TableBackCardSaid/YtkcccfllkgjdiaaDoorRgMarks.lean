/-
  ring.marks, walked: arcs from all the shards' points on.
-/
import Derived.Test.YtkcccfllkgjdiaaDoorRgMin
namespace Go.Proofs.YtkcccfllkgjdiaaDoor.Rg
open Go.RowKit
set_option linter.unusedVariables false

/-- of the first i shards, and k points of the next one. -/
def partF (ws : List Int) (i k : Nat) : List Ar := marksF (ws.take i) ++ (List.range k).map fun j => (⟨markN i j, (i : Int)⟩ : Ar)
theorem code_at (i j : Nat) (h : j < 32) : arN (32 * i + j) = ⟨markN i j, (i : Int)⟩ := by
  unfold arN mkN
  rw [show (32 * i + j) / 32 = i by omega, show (32 * i + j) % 32 = j by omega]
theorem partF_all {ws : List Int} (h : ∀ x ∈ ws, 0 ≤ x ∧ x ≤ 4) (i : Nat) (hi : i < ws.length) : partF ws i (8 * ws[i]).toNat = partF ws (i + 1) 0 := by
  have hw := h _ (List.getElem_mem hi)
  unfold partF marksF
  rw [List.take_succ_eq_append_getElem hi, codes_app, List.map_append]
  have e1 : codes [ws[i]] (0 + (ws.take i).length) = (List.range (8 * ws[i]).toNat).map (fun k => 32 * i + k) := by
    rw [codes, codes, List.append_nil, List.length_take, Nat.min_eq_left (by omega), Nat.zero_add]
  have e2 : (List.range (8 * ws[i]).toNat).map (fun j => (⟨markN i j, (i : Int)⟩ : Ar)) = (codes [ws[i]] (0 + (ws.take i).length)).map arN := by
    rw [e1, List.map_map]
    refine List.map_congr_left fun k hk => ?_
    have := List.mem_range.1 hk
    exact (code_at i k (by omega)).symm
  rw [e2, List.range_zero, List.map_nil, List.append_nil]
theorem partF_succ (ws : List Int) (i k : Nat) : partF ws i (k + 1) = partF ws i k ++ [⟨markN i k, (i : Int)⟩] := by
  unfold partF
  rw [List.range_succ, List.map_append, List.append_assoc]
  rfl
theorem partF_end (ws : List Int) : partF ws ws.length 0 = marksF ws := by
  unfold partF
  simp
theorem partF_le {ws : List Int} (h : ∀ x ∈ ws, 0 ≤ x ∧ x ≤ 4) (h16 : ws.length ≤ 16) (i k : Nat) (hk : k ≤ 32) : (partF ws i k).length ≤ 1000 := by
  unfold partF
  rw [List.length_append, List.length_map, List.length_range]
  have := marks_le (ws := ws.take i) (fun x hx => h x (List.mem_of_mem_take hx)) (by simp; omega)
  omega
def MarksR (M : List Ar) (w : World) (e : Ending) (w' : World) : Prop :=
  ∃ a cap, e = .returned (.slice a M.length cap) ∧ OwnA w' w.heap.size (.slice a M.length cap) M ∧ Below w.heap.size w w'
def mksRel (W : World) (ws : List Int) (m : Nat) (u v : Value) (wr : World) : Prop :=
  ∃ i : Nat, i ≤ ws.length ∧ v = .int .i64 i ∧ m = ws.length - i ∧ OwnA wr W.heap.size u (partF ws i 0) ∧ Below W.heap.size W wr
def mks2Rel (W : World) (ws : List Int) (i n : Nat) (m : Nat) (u v : Value) (wr : World) : Prop :=
  ∃ k : Nat, k ≤ n ∧ v = .int .i64 k ∧ m = n - k ∧ OwnA wr W.heap.size u (partF ws i k) ∧ Below W.heap.size W wr

set_option maxRecDepth 100000 in
set_option maxHeartbeats 2000000 in
theorem marks_any (a : Option Addr) (cap : Nat) (ws : List Int) (w : World) (hf : WsAt w a cap ws) (h04 : ∀ x ∈ ws, 0 ≤ x ∧ x ≤ 4) (h16 : ws.length ≤ 16) :
    Calls Tryd.prog 37 #[.slice a ws.length cap] w (MarksR (marksF ws) w) := by
  have hcap := hf.max
  have hlen := hf.len
  unfold maxLen at hcap
  have HF := Lib.hid hf
  have H04 := Lib.hid h04
  clear hf h04
  go_enter Tryd.func37, Tryd.ntmps37
  go_wp2_with fail
  go_loopg [3, 9] ws.length (mksRel w ws)
  case atStart => exact ⟨0, Nat.zero_le _, rfl, rfl, by unfold partF marksF codes; exact OwnA.nil _ _, Below.refl _ _⟩
  case round =>
    obtain ⟨i, hi, rfl, rfl, hown, hb⟩ := hrel
    have HOWN := Lib.hid hown
    have HB := Lib.hid hb
    have HF1 := Lib.hid (HF.out.below hb)
    clear hown hb
    by_cases hlt : i < ws.length
    · have hlti : (i : Int) < (ws.length : Int) := by omega
      have h0i : (0 : Int) ≤ (i : Int) := by omega
      obtain ⟨b, o, rfl, c0⟩ := WsAt.get HF1.out i hlt
      have hx := H04.out _ (List.getElem_mem hlt)
      have HALL := Lib.hid (partF_all H04.out i hlt)
      generalize ws[i] = x at *
      obtain ⟨n, hn⟩ : ∃ n : Nat, 8 * x = n := ⟨(8 * x).toNat, by omega⟩
      have hn32 : n ≤ 32 := by omega
      have HN := Lib.hid hn
      rw [hn, Int.toNat_natCast] at HALL
      have c8 : IntKind.i64.wrap (8 * x) = (n : Int) := by rw [hn]; exact IntWalk.i64_in _ (by omega)
      clear hn
      go_wp2_with fail
      clear c8 c0
      go_loopg [3, 16] n (mks2Rel w ws i n)
      case atStart => exact ⟨0, Nat.zero_le _, rfl, rfl, HOWN.out, HB.out⟩
      case round =>
        obtain ⟨k, hk, rfl, rfl, hown2, hb2⟩ := hrel
        have HOWN2 := Lib.hid hown2
        have HB2 := Lib.hid hb2
        clear hown2 hb2
        by_cases hlk : k < n
        · have hlki : (k : Int) < (n : Int) := by omega
          have h0k : (0 : Int) ≤ (k : Int) := by omega
          have HM := Lib.hid fun wx => mark_any i k (by omega) (by omega) wx
          have HP := Lib.hid (partF_succ ws i k)
          have hple := partF_le H04.out h16 i k (by omega)
          generalize markN i k = y at *
          go_wp2_with (first | (go_at_call 57; refine (HM.out _).mono ?_; rintro e w3 ⟨rfl, rfl⟩) | (at_builtin; refine put_ar ⟨y, (i : Int)⟩ rfl (.tmp 19) (.tmp 25) rfl HOWN2.out HB2.out.size (by omega) rfl _ rfl rfl ?_; intro g1 cap1 w1 hown1 hold1 hg1; have HOWN1 := Lib.hid hown1; have HB1 := Lib.hid (OwnA.grown HB2.out HOWN2.out hg1 HB2.out.size); clear hown1 hold1 hg1))
          go_roundg (n - (k + 1))
          case measure => omega
          case rel => exact ⟨k + 1, by omega, by go_num, by simp, by rw [HP.out]; exact HOWN1.out, HB1.out⟩
        · obtain rfl : k = n := by omega
          go_wp2_with fail
          go_roundg (ws.length - (i + 1))
          case measure => omega
          case rel => exact ⟨i + 1, by omega, by go_num, by simp, by rw [← HALL.out]; exact HOWN2.out, HB2.out⟩
    · obtain rfl : i = ws.length := by omega
      have HE := Lib.hid (partF_end ws)
      rw [HE.out] at HOWN
      obtain ⟨a2, cap2, rfl, _⟩ := OwnA.at HOWN.out
      go_wp2_with fail
      go_ret
      exact ⟨a2, cap2, rfl, HOWN.out, HB.out⟩

end Go.Proofs.YtkcccfllkgjdiaaDoor.Rg
