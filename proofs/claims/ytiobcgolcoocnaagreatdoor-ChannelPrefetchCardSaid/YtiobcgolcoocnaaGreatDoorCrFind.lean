/-
  Where a tag stands among those that are open: as plain data; credit's find and named, walked.
-/
import Derived.Test.YtiobcgolcoocnaaGreatDoorCrBase
namespace Go.Proofs.YtiobcgolcoocnaaGreatDoor.Cr
open Go.RowKit Rg Sh Bt
set_option linter.unusedVariables false
set_option linter.unusedSimpArgs false

/-- tags that rise. -/
def Up (l : List Int) : Prop := ∀ (i j : Nat) (hi : i < l.length) (hj : j < l.length), i < j → l[i] < l[j]
/-- how many are below a tag. -/
def posF (l : List Int) (t : Int) : Nat := l.countP fun x => decide (x < t)
def hasN (l : List Int) (t : Int) : Nat := if t ∈ l then 1 else 0
def fromF (l : List Int) (t : Int) (all : Bool) : Nat := if all = true then 0 else posF l t
def toF (l : List Int) (t : Int) (all : Bool) : Nat := if all = true ∧ t = 0 then l.length else posF l t + hasN l t
theorem pos_of {l : List Int} {t : Int} {i : Nat} (hi : i ≤ l.length) (h1 : ∀ (j : Nat) (hj : j < l.length), j < i → l[j] < t) (h2 : ∀ (j : Nat) (hj : j < l.length), i ≤ j → ¬ l[j] < t) : posF l t = i := by
  unfold posF
  have e : l = l.take i ++ l.drop i := (List.take_append_drop i l).symm
  rw [e, List.countP_append]
  have c1 : (l.take i).countP (fun x => decide (x < t)) = (l.take i).length := by
    rw [List.countP_eq_length]
    intro x hx
    obtain ⟨j, hj, rfl⟩ := List.getElem_of_mem hx
    rw [List.length_take] at hj
    rw [List.getElem_take]
    simpa using h1 j (by omega) (by omega)
  have c2 : (l.drop i).countP (fun x => decide (x < t)) = 0 := by
    rw [List.countP_eq_zero]
    intro x hx
    obtain ⟨j, hj, rfl⟩ := List.getElem_of_mem hx
    rw [List.length_drop] at hj
    rw [List.getElem_drop]
    simpa using h2 (i + j) (by omega) (by omega)
  rw [c1, c2, List.length_take]
  omega
theorem has_yes {l : List Int} {t : Int} {i : Nat} (hi : i < l.length) (h : l[i] = t) : hasN l t = 1 := by
  unfold hasN; rw [if_pos (h ▸ List.getElem_mem hi)]
theorem has_no {l : List Int} {t : Int} (h : ∀ (j : Nat) (hj : j < l.length), ¬ l[j] = t) : hasN l t = 0 := by
  unfold hasN
  rw [if_neg]
  intro hm
  obtain ⟨j, hj, e⟩ := List.getElem_of_mem hm
  exact h j hj e
theorem find_yes {l : List Int} {t : Int} {i : Nat} (hu : Up l) (hi : i < l.length) (h : l[i] = t) : posF l t = i ∧ posF l t + hasN l t = i + 1 := by
  have e1 : posF l t = i := pos_of (by omega) (fun j hj hji => by have := hu j i hj hi hji; omega) (fun j hj hji => by
    by_cases e : i = j
    · subst e; omega
    · have := hu i j hi hj (by omega); omega)
  exact ⟨e1, by rw [e1, has_yes hi h]⟩
theorem find_no {l : List Int} {t : Int} {i : Nat} (hi : i ≤ l.length) (h1 : ∀ (j : Nat) (hj : j < l.length), j < i → l[j] < t) (h2 : ∀ (j : Nat) (hj : j < l.length), i ≤ j → t < l[j]) : posF l t = i ∧ posF l t + hasN l t = i := by
  have e1 : posF l t = i := pos_of hi h1 (fun j hj hji => by have := h2 j hj hji; omega)
  refine ⟨e1, ?_⟩
  rw [e1, has_no, Nat.add_zero]
  intro j hj
  by_cases h : j < i
  · have := h1 j hj h; omega
  · have := h2 j hj (by omega); omega

def finRel (g : Nat) (lim last t : Int) (l : List Int) (a : Option Addr) (cap : Nat) (w : World) (m : Nat) (a' : Act) (w' : World) : Prop :=
  ∃ (lo hi : Nat) (u8 u9 u10 u11 u12 u13 u14 u15 u16 u17 u18 u19 u20 u21 u22 u23 u24 u25 u26 u27 u28 u29 u30 u31 u32 u33 u34 u35 u36 u37 u38 u39 u40 u41 u42 u43 u44 : Value), a' = { tmps := #[.pointer (some ⟨g, 0, none⟩), .int .u64 t, undef, undef, .int .i64 0, .int .i64 0, .int .i64 lo, .int .i64 hi, u8, u9, u10, u11, u12, u13, u14, u15, u16, u17, u18, u19, u20, u21, u22, u23, u24, u25, u26, u27, u28, u29, u30, u31, u32, u33, u34, u35, u36, u37, u38, u39, u40, u41, u42, u43, u44], defers := [] } ∧
    m = hi - lo ∧ lo ≤ hi ∧ hi ≤ l.length ∧ (∀ (j : Nat) (hj : j < l.length), j < lo → l[j] < t) ∧ (∀ (j : Nat) (hj : j < l.length), hi ≤ j → t < l[j]) ∧ CrX w' g lim last l a cap ∧ Drew w w'
def FindR (l : List Int) (t : Int) (w : World) (e : Ending) (w' : World) : Prop :=
  e = .returned (.tuple #[.int .i64 (posF l t), .int .i64 ((posF l t + hasN l t : Nat) : Int)]) ∧ Drew w w'
set_option maxRecDepth 100000 in
set_option maxHeartbeats 4000000 in
theorem find_any (g : Nat) (lim last t : Int) (l : List Int) (a : Option Addr) (cap : Nat) (w : World) (hu : Up l) (h : CrX w g lim last l a cap) :
    Calls Tryz.prog 83 #[.pointer (some ⟨g, 0, none⟩), .int .u64 t] w (FindR l t w) := by
  have hsm := h.sm
  obtain ⟨⟨c0, c1, c2⟩, -⟩ := box3 h.bx
  have HX := Lib.hid h
  have HU := Lib.hid hu
  clear h hu
  go_enter Tryz.func83, Tryz.ntmps83
  go_wp2_with fail
  refine wp_scope_ghost 0 (finRel g lim last t l a cap w) rfl ?_ ?_
  · intro H hb'
    have HBK := Lib.hid hb'
    clear hb'
    go_wp2_with fail
    go_quiet (fail)
    go_wp2_with fail
    go_step3
    rename_i hK
    refine hK _ _ (HBK.out l.length _ _ ⟨0, l.length, ?_⟩)
    repeat apply Exists.intro
    exact ⟨rfl, by omega, by omega, by omega, fun j hj h => by omega, fun j hj h => by omega, HX.out.below (Below.drewN (Below.refl _ _) _), ⟨_, rfl⟩⟩
  · rintro m a' w' ⟨lo, hi, u8, u9, u10, u11, u12, u13, u14, u15, u16, u17, u18, u19, u20, u21, u22, u23, u24, u25, u26, u27, u28, u29, u30, u31, u32, u33, u34, u35, u36, u37, u38, u39, u40, u41, u42, u43, u44, rfl, rfl, hlh, hhl, hbelow, habove, hx, hd⟩ H hH
    have HH := Lib.hid hH
    have HLO := Lib.hid hbelow
    have HHI := Lib.hid habove
    have HD := Lib.hid hd
    have HX1 := Lib.hid hx
    clear hH hbelow habove hd hx c0 c1 c2 HX
    obtain ⟨⟨c0, c1, c2⟩, -⟩ := box3 HX1.out.bx
    by_cases hlt : lo = hi
    · subst hlt
      have q1 : ((lo : Int) == (lo : Int)) = true := by simp
      have HF := Lib.hid (find_no hhl HLO.out HHI.out)
      go_wp2_with fail
      simp only [Exit.jump]
      refine bodyPost_ret (v := .tuple #[.int .i64 lo, .int .i64 lo]) (by simp [results, Tryz.results83, go_sem, *]) rfl ?_
      unfold FindR
      rw [HF.out.2, HF.out.1]
      exact ⟨rfl, HD.out⟩
    have q1 : ((lo : Int) == (hi : Int)) = false := by rw [beq_eq_false_iff_ne]; omega
    have q2 : IntKind.i64.wrap ((lo : Int) + (hi : Int)) = (lo : Int) + (hi : Int) := IntWalk.i64_in _ (by omega)
    obtain ⟨md, hm1, hm2, hm3⟩ : ∃ md : Nat, ((lo : Int) + (hi : Int)).tdiv 2 = (md : Int) ∧ lo ≤ md ∧ md < hi := by
      refine ⟨(lo + hi) / 2, ?_, by omega, by omega⟩
      rw [Int.tdiv_eq_ediv_of_nonneg (by omega)]; omega
    have hm4 : ((lo : Int) + (hi : Int)) / 2 = (md : Int) := by rw [← hm1, Int.tdiv_eq_ediv_of_nonneg (by omega)]
    have q3 : IntKind.i64.wrap (md : Int) = (md : Int) := IntWalk.i64_in _ (by omega)
    have q4 : IntKind.i64.wrap ((md : Int) + 1) = (md : Int) + 1 := IntWalk.i64_in _ (by omega)
    have q5 : (0 : Int) ≤ (md : Int) := by omega
    have q6 : (md : Int) < (l.length : Int) := by omega
    obtain ⟨b, o, rfl, d0⟩ := UsAt.get HX1.out.row md (by omega)
    have hml : md < l.length := by omega
    by_cases heq : l[md] = t
    · have HF := Lib.hid (find_yes HU.out hml heq)
      have q7 : (l[md] == t) = true := by rw [beq_iff_eq]; exact heq
      clear heq
      go_wp2_with fail
      simp only [Exit.jump]
      refine bodyPost_ret (v := .tuple #[.int .i64 md, .int .i64 ((md : Int) + 1)]) (by simp [results, Tryz.results83, go_sem, *]) rfl ?_
      unfold FindR
      rw [HF.out.2, HF.out.1]
      exact ⟨rfl, HD.out⟩
    have q7 : (l[md] == t) = false := by rw [beq_eq_false_iff_ne]; exact heq
    by_cases hls : l[md] < t
    · have HNW : Hid (∀ (j : Nat) (hj : j < l.length), j < md + 1 → l[j] < t) := Lib.hid fun j hj hjm => by
        by_cases e : j = md
        · subst e; exact hls
        · have := HU.out j md hj hml (by omega); omega
      clear heq
      go_wp2_with fail
      go_step3
      refine ⟨rfl, HH.out (hi - (md + 1)) _ _ (by omega) ⟨md + 1, hi, ?_⟩⟩
      repeat apply Exists.intro
      exact ⟨rfl, rfl, by omega, by omega, HNW.out, HHI.out, HX1.out, HD.out⟩
    · have HNW : Hid (∀ (j : Nat) (hj : j < l.length), md ≤ j → t < l[j]) := Lib.hid fun j hj hjm => by
        by_cases e : j = md
        · subst e; omega
        · have := HU.out md j hml hj (by omega); omega
      clear heq
      go_wp2_with fail
      go_step3
      refine ⟨rfl, HH.out (md - lo) _ _ (by omega) ⟨lo, md, ?_⟩⟩
      repeat apply Exists.intro
      exact ⟨rfl, rfl, by omega, by omega, HLO.out, HNW.out, HX1.out, HD.out⟩

end Go.Proofs.YtiobcgolcoocnaaGreatDoor.Cr
