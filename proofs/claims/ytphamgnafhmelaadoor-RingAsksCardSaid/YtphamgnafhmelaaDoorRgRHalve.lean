/-
  The document's Halve, walked.
-/
import Derived.Test.YtphamgnafhmelaaDoorRgHalve
import Derived.Test.YtphamgnafhmelaaDoorRgRef
namespace Go.Proofs.YtphamgnafhmelaaDoor.Rg
open Go.RowKit
set_option linter.unusedVariables false

def hx (s o : Int) (t : Tr) : List Ar := if cuts s t then [⟨halfAt t, o⟩] else []
def arT (t : Tr) : Ar := ⟨t.f, t.s⟩
theorem sp_hx (s o : Int) (t : Tr) : sp s o t = arT t :: hx s o t := by
  unfold sp hx arT
  split <;> rfl
theorem cut_ex (T : List Tr) (s o : Int) : (T.map arT ++ T.flatMap (hx s o)).Perm (cutT T s o) := by
  unfold cutT
  induction T with
  | nil => exact List.Perm.refl _
  | cons t r ih =>
    rw [List.flatMap_cons, List.flatMap_cons, sp_hx, List.map_cons, List.cons_append, List.cons_append]
    refine List.Perm.cons _ ?_
    rw [← List.append_assoc]
    refine (List.Perm.append_right _ List.perm_append_comm).trans ?_
    rw [List.append_assoc]
    exact ih.append_left _
theorem tr_ars (l : List Ar) (e : Int) : (tr l e).map arT = l := by
  induction l with
  | nil => rfl
  | cons a t ih => rw [tr, List.map_cons, ih]; rfl
/-- the halves of the first i. -/
def exK (l : List Ar) (s o : Int) (i : Nat) : List Ar := ((ringT l).take i).flatMap (hx s o)
theorem exK_succ {l : List Ar} (s o : Int) (i : Nat) (h : i < l.length) : exK l s o (i + 1) = exK l s o i ++ hx s o ⟨l[i].f, nx l i, l[i].s⟩ := by
  unfold exK
  rw [List.take_succ_eq_append_getElem (by rw [ring_length]; exact h), List.flatMap_append, ring_get l i h]
  simp
theorem exK_all (l : List Ar) (s o : Int) : (l ++ exK l s o l.length).Perm (cutF l s o) := by
  unfold exK cutF
  rw [List.take_of_length_le (by rw [ring_length]; omega)]
  have := cut_ex (ringT l) s o
  unfold ringT at *
  rwa [tr_ars] at this
theorem exK_apart {l : List Ar} (hw : Wf l) (hu : Up l) (s o : Int) (i : Nat) : Apart (l ++ exK l s o i) := by
  have h1 : Apart (l ++ exK l s o l.length) := (cut_apart hw hu s o).perm (exK_all l s o).symm
  have h2 : (l ++ exK l s o i).Sublist (l ++ exK l s o l.length) := by
    refine List.Sublist.append_left ?_ _
    unfold exK
    conv => rhs; rw [List.take_of_length_le (by rw [ring_length]; omega)]
    conv => rhs; rw [← List.take_append_drop i (ringT l), List.flatMap_append]
    exact List.sublist_append_left _ _
  exact List.Pairwise.sublist h2 h1
theorem exK_le (l : List Ar) (s o : Int) (i : Nat) : (exK l s o i).length ≤ i := by
  have h : ∀ T : List Tr, (T.flatMap (hx s o)).length ≤ T.length := fun T => by
    induction T with
    | nil => simp
    | cons t r ih =>
      rw [List.flatMap_cons, List.length_append, List.length_cons]
      have : (hx s o t).length ≤ 1 := by unfold hx; split <;> simp
      omega
  exact Nat.le_trans (h _) (List.length_take_le _ _)
/-- one half more. -/
theorem put_more {l L : List Ar} (hw : Wf l) (hu : Up l) {s o : Int} {i : Nat} (h : i < l.length) (hL : Up L) (hp : L.Perm (l ++ exK l s o i)) (hc : cuts s ⟨l[i].f, nx l i, l[i].s⟩ = true) :
    Up (putF L ⟨halfAt ⟨l[i].f, nx l i, l[i].s⟩, o⟩) ∧ (putF L ⟨halfAt ⟨l[i].f, nx l i, l[i].s⟩, o⟩).Perm (l ++ exK l s o (i + 1)) := by
  refine ⟨put_up hL _, ?_⟩
  have he : exK l s o (i + 1) = exK l s o i ++ [⟨halfAt ⟨l[i].f, nx l i, l[i].s⟩, o⟩] := by
    rw [exK_succ s o i h]
    unfold hx
    rw [if_pos hc]
  have hap := exK_apart hw hu s o (i + 1)
  rw [he, ← List.append_assoc] at hap ⊢
  refine (put_perm fun b hb => ?_).trans ?_
  · exact (List.pairwise_append.1 hap).2.2 b (hp.mem_iff.1 hb) _ (by simp)
  · refine (List.Perm.cons _ hp).trans ?_
    exact (List.perm_append_comm (l₁ := [_])).trans (List.Perm.refl _)
theorem put_none {l : List Ar} {s o : Int} {i : Nat} (h : i < l.length) (hc : ¬ cuts s ⟨l[i].f, nx l i, l[i].s⟩ = true) : exK l s o (i + 1) = exK l s o i := by
  rw [exK_succ s o i h]
  unfold hx
  rw [if_neg hc, List.append_nil]

def rhRel (W : World) (l : List Ar) (s o : Int) (m : Nat) (u v : Value) (wr : World) : Prop :=
  ∃ (i : Nat) (L : List Ar) (a : Option Addr) (cap : Nat), i ≤ l.length ∧ u = .slice a L.length cap ∧ v = .int .i64 i ∧ m = l.length - i ∧ AsAt wr a cap L ∧ (a = none → cap = 0) ∧ Up L ∧ L.Perm (l ++ exK l s o i) ∧ Below W.heap.size W wr

set_option maxRecDepth 100000 in
set_option maxHeartbeats 2000000 in
theorem rhalve_any (a : Option Addr) (cap : Nat) (l : List Ar) (s o : Int) (w : World) (hf : AsAt w a cap l) (hn : a = none → cap = 0) (hw : Wf l) :
    Calls Tryd.prog 22 #[.slice a l.length cap, .int .i64 s, .int .i64 o] w (ArsR (halveA l s o) w) := by
  have hm := rmay_any a cap l w hf
  by_cases h1 : May l
  case neg =>
    rw [decide_eq_false h1] at hm
    rw [show halveA l s o = [] from if_neg fun h => h1 h.1]
    clear hf hw h1 hn
    go_enter Tryd.func22, Tryd.ntmps22
    go_wp2_with (go_at_call 13; refine hm.mono ?_; rintro e w1 ⟨rfl, hd⟩; have HD := Lib.hid hd; clear hd)
    go_ret
    exact arsR_nil _ _ HD.out.below
  rw [decide_eq_true h1] at hm
  by_cases h2 : 0 ≤ o
  case neg =>
    have h2' : o < 0 := by omega
    rw [show halveA l s o = [] from if_neg fun h => by have := h.2.1; simp [okS] at this; omega]
    clear hf hw h1 h2 hn
    go_enter Tryd.func22, Tryd.ntmps22
    go_wp2_with (go_at_call 13; refine hm.mono ?_; rintro e w1 ⟨rfl, hd⟩; have HD := Lib.hid hd; clear hd)
    go_ret
    exact arsR_nil _ _ HD.out.below
  have h2' : ¬ o < 0 := by omega
  by_cases h3 : o < 16
  case neg =>
    have h3' : 16 ≤ o := by omega
    rw [show halveA l s o = [] from if_neg fun h => by have := h.2.1; simp [okS] at this; omega]
    clear hf hw h1 h2 h3 hn
    go_enter Tryd.func22, Tryd.ntmps22
    go_wp2_with (go_at_call 13; refine hm.mono ?_; rintro e w1 ⟨rfl, hd⟩; have HD := Lib.hid hd; clear hd)
    go_ret
    exact arsR_nil _ _ HD.out.below
  have h3' : ¬ 16 ≤ o := by omega
  have hok : okS o = true := by unfold okS; simp; omega
  have hcap := hf.max
  have hlen := hf.len
  unfold maxLen at hcap
  have hl1 := h1.1
  have hl2 := h1.2.1
  have HF := Lib.hid hf
  have HN := Lib.hid hn
  have HM := Lib.hid h1
  have HOK := Lib.hid hok
  have HWD := Lib.hid fun (k : Nat) (hk : k < l.length) (wx : World) (hx : AsAt wx a cap l) => (show Calls Tryd.prog 17 #[.slice a l.length cap, .int .i64 k] wx fun e w' => e = .returned (.int .u64 (widthF l k)) ∧ Drew wx w' by
    have := rwidth_any a cap l k wx hx hw
    rwa [show widthA l (k : Int) = widthF l k by unfold widthA; rw [if_pos ⟨h1, by omega, by omega⟩, Int.toNat_natCast]] at this)
  clear hf h1 h2 h3 hok hn
  go_enter Tryd.func22, Tryd.ntmps22
  go_wp2_with (first | (go_at_call 13; refine hm.mono ?_; rintro e w1 ⟨rfl, hd⟩; have HD := Lib.hid hd; have HF1 := Lib.hid (HF.out.below hd.below); have HO1 := Lib.hid (show OwnA (w1.alloc (.cells #[] 39)) w1.heap.size (.slice (some ⟨w1.heap.size, 0, none⟩) 0 0) [] from World.ownsRow_made w1 #[] 0 (Nat.le_refl _) (by decide) (by simp)); have HB1 := Lib.hid (show Below w1.heap.size w1 (w1.alloc (.cells #[] 39)) from (Below.refl _ _).alloc (Nat.le_refl _) _); clear hd) | (at_builtin; refine put_rows (m := l) rfl (.tmp 21) (.tmp 22) rfl HO1.out HB1.out.size rfl _ rfl rfl (HF1.out.below HB1.out) (by rw [List.length_nil]; omega) HN.out ?_; intro v2 w2 hown2 hg2; rw [List.nil_append] at hown2; have HB2 := Lib.hid (OwnA.grown HB1.out HO1.out hg2 HB1.out.size); obtain ⟨a3, cap3, rfl, hat3⟩ := OwnA.at hown2; have HAT3 := Lib.hid hat3; clear hown2 hg2 hat3))
  go_loopg [7, 8] l.length (rhRel w1 l s o)
  case atStart =>
    refine ⟨0, l, a3, cap3, Nat.zero_le _, rfl, rfl, rfl, HAT3.out, fun e => ?_, HM.out.up, by unfold exK; simp, HB2.out⟩
    obtain ⟨x, hx⟩ := HAT3.out.pos (by omega)
    rw [e] at hx; cases hx
  case round =>
    obtain ⟨i, L, a4, cap4, hi, rfl, rfl, rfl, hat, hn4, hup, hp, hb⟩ := hrel
    have HAT := Lib.hid hat
    have HN4 := Lib.hid hn4
    have HUP := Lib.hid hup
    have HP := Lib.hid hp
    have HB := Lib.hid hb
    have HF2 := Lib.hid (HF1.out.below hb)
    have hLl : L.length ≤ 2048 := by
      have := hp.length_eq
      rw [List.length_append] at this
      have := exK_le l s o i
      omega
    clear hat hn4 hup hp hb
    by_cases hlt : i < l.length
    · have hlti : (i : Int) < (l.length : Int) := by omega
      have h0i : (0 : Int) ≤ (i : Int) := by omega
      have hwd : 1 ≤ widthF l i ∧ widthF l i ≤ 4294967296 := by
        unfold widthF
        rw [dif_pos hlt]
        exact wd_in _ _
      have hcu : cuts s ⟨l[i].f, nx l i, l[i].s⟩ = (decide (l[i].s = s) && decide (2 ≤ widthF l i)) := by
        unfold cuts widthF
        rw [dif_pos hlt]
      have hha : halfAt ⟨l[i].f, nx l i, l[i].s⟩ = (l[i].f + widthF l i / 2) % 4294967296 := by
        unfold halfAt widthF
        rw [dif_pos hlt]
      have HGET := Lib.hid fun (wx : World) (hx : AsAt wx a cap l) => AsAt.get hx i hlt
      have hfb := hw _ (List.getElem_mem hlt)
      have HW1 := Lib.hid (HWD.out i hlt)
      by_cases hs : l[i].s = s
      · have es : (l[i].s == s) = true := by rw [beq_iff_eq]; exact hs
        by_cases h2 : 2 ≤ widthF l i
        · have hmore := put_more hw HM.out.up hlt HUP.out HP.out (by rw [hcu]; simp [hs, h2])
          rw [hha] at hmore
          have HMORE := Lib.hid hmore
          clear hs hcu hha hmore
          generalize widthF l i = W at *
          have hs2 : (W / 2) % 4294967296 = W / 2 := by omega
          generalize l[i].s = S at *
          go_wp2_with (first | (go_at_call 17; refine (HW1.out _ HF2.out).mono ?_; rintro e w5 ⟨rfl, hd⟩; have HD5 := Lib.hid hd; obtain ⟨b, p, rfl, c0, c1⟩ := HGET.out _ (HF2.out.below hd.below); clear hd) | (go_at_call 31; refine (put_any a4 cap4 L ⟨(l[i].f + W / 2) % 4294967296, o⟩ w5 (HAT.out.below HD5.out.below) HN4.out (by omega)).mono ?_; rintro e w6 ⟨a6, cap6, rfl, hat6, hn6, hb6⟩; have HAT6 := Lib.hid hat6; have HN6 := Lib.hid hn6; have HB6 := Lib.hid hb6; clear hat6 hn6 hb6))
          go_roundg (l.length - (i + 1))
          case measure => omega
          case rel => exact ⟨i + 1, _, a6, cap6, by omega, rfl, by go_num, by simp, HAT6.out, HN6.out, HMORE.out.1, HMORE.out.2, HB.out.trans ((HD5.out.below.trans (HB6.out.mono HD5.out.below.size)).mono HB.out.size)⟩
        · have hex := put_none (s := s) (o := o) hlt (by rw [hcu]; simp [h2])
          have HEX := Lib.hid hex
          clear hs hcu hha hex
          generalize widthF l i = W at *
          generalize l[i].s = S at *
          go_wp2_with (first | (go_at_call 17; refine (HW1.out _ HF2.out).mono ?_; rintro e w5 ⟨rfl, hd⟩; have HD5 := Lib.hid hd; obtain ⟨b, p, rfl, c0, c1⟩ := HGET.out _ (HF2.out.below hd.below); clear hd))
          go_roundg (l.length - (i + 1))
          case measure => omega
          case rel => exact ⟨i + 1, L, a4, cap4, by omega, rfl, by go_num, by simp, HAT.out.below HD5.out.below, HN4.out, HUP.out, by rw [HEX.out]; exact HP.out, HB.out.trans (HD5.out.below.mono HB.out.size)⟩
      · have es : (l[i].s == s) = false := by rw [beq_eq_false_iff_ne]; exact hs
        have hex := put_none (s := s) (o := o) hlt (by rw [hcu]; simp [hs])
        have HEX := Lib.hid hex
        clear hs hcu hha hex
        generalize widthF l i = W at *
        generalize l[i].s = S at *
        go_wp2_with (first | (go_at_call 17; refine (HW1.out _ HF2.out).mono ?_; rintro e w5 ⟨rfl, hd⟩; have HD5 := Lib.hid hd; obtain ⟨b, p, rfl, c0, c1⟩ := HGET.out _ (HF2.out.below hd.below); clear hd))
        go_roundg (l.length - (i + 1))
        case measure => omega
        case rel => exact ⟨i + 1, L, a4, cap4, by omega, rfl, by go_num, by simp, HAT.out.below HD5.out.below, HN4.out, HUP.out, by rw [HEX.out]; exact HP.out, HB.out.trans (HD5.out.below.mono HB.out.size)⟩
    · obtain rfl : i = l.length := by omega
      have hperm : L.Perm (cutF l s o) := HP.out.trans (exK_all l s o)
      have hL : L = srt (cutF l s o) := srt_one HUP.out hperm
      have hlc := hperm.length_eq
      have HL := Lib.hid hL
      by_cases h4 : L.length ≤ 1024
      · have h4i : ¬ (1024 : Int) < (L.length : Int) := by omega
        have HR : Hid (halveA l s o = L) := Lib.hid (by unfold halveA; rw [if_pos ⟨HM.out, HOK.out, by omega⟩, HL.out]; rfl)
        clear hL hperm hlc
        go_wp2_with fail
        go_ret
        rw [HR.out]
        exact ⟨a4, cap4, rfl, HAT.out, HN4.out, HD.out.below.trans (HB.out.mono HD.out.below.size)⟩
      · have h4i : (1024 : Int) < (L.length : Int) := by omega
        have HR : Hid (halveA l s o = []) := Lib.hid (by unfold halveA; rw [if_neg fun h => h4 (by omega)])
        clear hL hperm hlc
        go_wp2_with fail
        go_ret
        rw [HR.out]
        exact arsR_nil _ _ (HD.out.below.trans (HB.out.mono HD.out.below.size))

end Go.Proofs.YtphamgnafhmelaaDoor.Rg
