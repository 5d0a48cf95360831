/-
  ring.cut: arcs with each of a shard's as its two halves.
-/
import Derived.Test.YtkcccfllkgjdiaaDoorRgShr
import Derived.Test.YtkcccfllkgjdiaaDoorRgHalf
namespace Go.Proofs.YtkcccfllkgjdiaaDoor.Rg
open Go.RowKit
set_option linter.unusedVariables false

theorem cutT_succ {l : List Ar} (s o : Int) (k : Nat) (h : k < l.length) : cutT ((ringT l).take (k + 1)) s o = cutT ((ringT l).take k) s o ++ sp s o ⟨l[k].f, nx l k, l[k].s⟩ := by
  unfold cutT
  rw [List.take_succ_eq_append_getElem (by rw [ring_length]; exact h), List.flatMap_append, ring_get l k h]
  simp
theorem cutT_all (l : List Ar) (s o : Int) : cutT ((ringT l).take l.length) s o = cutF l s o := by
  unfold cutF
  rw [List.take_of_length_le (by rw [ring_length]; omega)]
theorem cutT_le (l : List Ar) (s o : Int) (k : Nat) : (cutT ((ringT l).take k) s o).length ≤ 2 * k := by
  have h : ∀ T : List Tr, (cutT T s o).length ≤ 2 * T.length := fun T => by
    unfold cutT
    induction T with
    | nil => simp
    | cons t r ih =>
      rw [List.flatMap_cons, List.length_append]
      have : (sp s o t).length = 1 ∨ (sp s o t).length = 2 := by unfold sp; split <;> simp
      simp only [List.length_cons]
      omega
  have := h ((ringT l).take k)
  have h2 : ((ringT l).take k).length ≤ k := List.length_take_le _ _
  omega
def cutRel (a : Option Addr) (cap : Nat) (l : List Ar) (s o : Int) (w : World) (m : Nat) (a' : Act) (w' : World) : Prop :=
  ∃ (k : Nat) (v : Value) (u9 u10 u11 u12 u13 u14 u15 u16 u17 u18 u19 u20 u21 u22 u23 u24 u25 u26 u27 u28 u29 u30 u31 u32 u33 u34 u35 u36 u37 u38 u39 u40 u41 u42 u43 u44 u45 u46 u47 u48 u49 u50 u51 : Value), a' = { tmps := #[.slice a l.length cap, .int .i64 s, .int .i64 o, undef, undef, undef, .slice none 0 0, v, .int .i64 k, u9, u10, u11, u12, u13, u14, u15, u16, u17, u18, u19, u20, u21, u22, u23, u24, u25, u26, u27, u28, u29, u30, u31, u32, u33, u34, u35, u36, u37, u38, u39, u40, u41, u42, u43, u44, u45, u46, u47, u48, u49, u50, u51], defers := [] } ∧
    m = l.length - k ∧ k ≤ l.length ∧ OwnA w' w.heap.size v (cutT ((ringT l).take k) s o) ∧ Below w.heap.size w w'
def CutR (M : List Ar) (w : World) (e : Ending) (w' : World) : Prop :=
  ∃ a cap, e = .returned (.slice a M.length cap) ∧ OwnA w' w.heap.size (.slice a M.length cap) M ∧ Below w.heap.size w w'

set_option maxRecDepth 100000 in
set_option maxHeartbeats 2000000 in
theorem cut_any (a : Option Addr) (cap : Nat) (l : List Ar) (s o : Int) (w : World) (hf : AsAt w a cap l) (hw : Wf l) (hm : May l) :
    Calls Tryd.prog 61 #[.slice a l.length cap, .int .i64 s, .int .i64 o] w (CutR (cutF l s o) w) := by
  have hcap := hf.max
  have hlen := hf.len
  unfold maxLen at hcap
  have h1024 := hm.2.1
  have HM := Lib.hid hm
  have HF := Lib.hid hf
  clear hf hm
  go_enter Tryd.func61, Tryd.ntmps61
  go_wp2_with fail
  refine wp_scope_ghost 0 (cutRel a cap l s o w) rfl ?_ ?_
  · intro H hb'
    have HBK := Lib.hid hb'
    clear hb'
    go_wp2_with fail
    go_step3
    rename_i hK
    refine hK _ _ (HBK.out l.length _ _ ⟨0, .slice none 0 0, ?_⟩)
    repeat apply Exists.intro
    exact ⟨rfl, by omega, by omega, OwnA.nil _ _, Below.refl _ _⟩
  · rintro m a' w' ⟨k, v, u9, u10, u11, u12, u13, u14, u15, u16, u17, u18, u19, u20, u21, u22, u23, u24, u25, u26, u27, u28, u29, u30, u31, u32, u33, u34, u35, u36, u37, u38, u39, u40, u41, u42, u43, u44, u45, u46, u47, u48, u49, u50, u51, rfl, rfl, hk, hown, hb⟩ H hH
    have HH := Lib.hid hH
    have HOWN := Lib.hid hown
    have HB := Lib.hid hb
    have HF1 := Lib.hid (HF.out.below hb)
    clear hH hown hb
    by_cases hlt : k < l.length
    · have hlti : (k : Int) < (l.length : Int) := by omega
      have h0i : (0 : Int) ≤ (k : Int) := by omega
      have hne : ((k : Int) == (l.length : Int)) = false := by rw [beq_eq_false_iff_ne]; omega
      have hcl := cutT_le l s o k
      have hcs := cutT_succ s o k hlt
      have hwd : 1 ≤ widthF l k ∧ widthF l k ≤ 4294967296 := by
        unfold widthF
        rw [dif_pos hlt]
        exact wd_in _ _
      have hcu : cuts s ⟨l[k].f, nx l k, l[k].s⟩ = (decide (l[k].s = s) && decide (2 ≤ widthF l k)) := by
        unfold cuts widthF
        rw [dif_pos hlt]
      have hha : halfAt ⟨l[k].f, nx l k, l[k].s⟩ = (l[k].f + widthF l k / 2) % 4294967296 := by
        unfold halfAt widthF
        rw [dif_pos hlt]
      have HWD := Lib.hid fun (wx : World) (hx : AsAt wx a cap l) => width_any a cap l k wx hx hw HM.out.up hlt
      have HGET := Lib.hid fun (wx : World) (hx : AsAt wx a cap l) => AsAt.get hx k hlt
      obtain ⟨b, p, rfl, c0, c1⟩ := HGET.out _ HF1.out
      have hfb := hw _ (List.getElem_mem hlt)
      unfold sp at hcs
      rw [hcu, hha] at hcs
      clear hcu hha
      generalize widthF l k = W at *
      obtain ⟨F, S, hfs⟩ : ∃ F S, l[k] = ⟨F, S⟩ := ⟨_, _, rfl⟩
      rw [hfs] at hcs c0 c1 HGET hfb
      simp only at hcs c0 c1 HGET hfb
      clear hfs
      have HC := Lib.hid hcs
      have hs2 : (W / 2) % 4294967296 = W / 2 := by omega
      clear hcs
      by_cases hs : S = s
      · have es : (S == s) = true := by rw [beq_iff_eq]; exact hs
        by_cases h2 : 2 ≤ W
        · have HC2 := Lib.hid (show cutT ((ringT l).take (k + 1)) s o = (cutT ((ringT l).take k) s o ++ [⟨F, S⟩]) ++ [⟨(F + W / 2) % 4294967296, o⟩] by
            rw [HC.out, if_pos (by simp [hs, h2]), List.append_assoc]; rfl)
          clear hs
          go_wp2_with (first | (at_builtin; refine put_ar ⟨F, S⟩ rfl (.tmp 15) (.tmp 20) rfl HOWN.out HB.out.size (by omega) rfl _ rfl rfl ?_; intro g1 cap1 w1 hown1 hold1 hg1; have HOWN1 := Lib.hid hown1; have HB1 := Lib.hid (OwnA.grown HB.out HOWN.out hg1 HB.out.size); have HF2 := Lib.hid (HF.out.below HB1.out); clear hown1 hold1 hg1) | (go_at_call 69; refine (HWD.out w1 HF2.out).mono ?_; rintro e w2 ⟨rfl, hd⟩; have HB2 := Lib.hid (HB1.out.trans ((Drew.below hd).mono HB1.out.size)); have HOWN2 := Lib.hid (OwnA.below1 HOWN1.out (Drew.below hd)); obtain ⟨b2, p2, he2, d0, d1⟩ := HGET.out _ (HF2.out.below (Drew.below hd)); injection he2 with he2; injection he2 with e2 e3; subst e2 e3; clear hd) | (at_builtin; refine put_ar ⟨(F + W / 2) % 4294967296, o⟩ rfl (.tmp 36) (.tmp 48) rfl HOWN2.out HB2.out.size (by simp; omega) rfl _ rfl rfl ?_; intro g3 cap3 w3 hown3 hold3 hg3; have HOWN3 := Lib.hid hown3; have HB3 := Lib.hid (OwnA.grown HB2.out HOWN2.out hg3 HB2.out.size); clear hown3 hold3 hg3))
          go_step3
          refine ⟨rfl, HH.out (l.length - (k + 1)) _ _ (by omega) ⟨k + 1, ?_⟩⟩
          repeat apply Exists.intro
          refine ⟨rfl, rfl, by omega, ?_, HB3.out⟩
          rw [HC2.out]
          simpa using HOWN3.out
        · have HC2 := Lib.hid (show cutT ((ringT l).take (k + 1)) s o = cutT ((ringT l).take k) s o ++ [⟨F, S⟩] by
            rw [HC.out, if_neg (by simp [h2])])
          clear hs
          go_wp2_with (first | (at_builtin; refine put_ar ⟨F, S⟩ rfl (.tmp 15) (.tmp 20) rfl HOWN.out HB.out.size (by omega) rfl _ rfl rfl ?_; intro g1 cap1 w1 hown1 hold1 hg1; have HOWN1 := Lib.hid hown1; have HB1 := Lib.hid (OwnA.grown HB.out HOWN.out hg1 HB.out.size); have HF2 := Lib.hid (HF.out.below HB1.out); clear hown1 hold1 hg1) | (go_at_call 69; refine (HWD.out w1 HF2.out).mono ?_; rintro e w2 ⟨rfl, hd⟩; have HB2 := Lib.hid (HB1.out.trans ((Drew.below hd).mono HB1.out.size)); have HOWN2 := Lib.hid (OwnA.below1 HOWN1.out (Drew.below hd)); obtain ⟨b2, p2, he2, d0, d1⟩ := HGET.out _ (HF2.out.below (Drew.below hd)); injection he2 with he2; injection he2 with e2 e3; subst e2 e3; clear hd))
          go_step3
          refine ⟨rfl, HH.out (l.length - (k + 1)) _ _ (by omega) ⟨k + 1, ?_⟩⟩
          repeat apply Exists.intro
          refine ⟨rfl, rfl, by omega, ?_, HB2.out⟩
          rw [HC2.out]
          simpa using HOWN2.out
      · have es : (S == s) = false := by rw [beq_eq_false_iff_ne]; exact hs
        have HC2 := Lib.hid (show cutT ((ringT l).take (k + 1)) s o = cutT ((ringT l).take k) s o ++ [⟨F, S⟩] by
          rw [HC.out, if_neg (by simp [hs])])
        clear hs
        go_wp2_with (first | (at_builtin; refine put_ar ⟨F, S⟩ rfl (.tmp 15) (.tmp 20) rfl HOWN.out HB.out.size (by omega) rfl _ rfl rfl ?_; intro g1 cap1 w1 hown1 hold1 hg1; have HOWN1 := Lib.hid hown1; have HB1 := Lib.hid (OwnA.grown HB.out HOWN.out hg1 HB.out.size); have HF2 := Lib.hid (HF.out.below HB1.out); clear hown1 hold1 hg1) | (go_at_call 69; refine (HWD.out w1 HF2.out).mono ?_; rintro e w2 ⟨rfl, hd⟩; have HB2 := Lib.hid (HB1.out.trans ((Drew.below hd).mono HB1.out.size)); have HOWN2 := Lib.hid (OwnA.below1 HOWN1.out (Drew.below hd)); obtain ⟨b2, p2, he2, d0, d1⟩ := HGET.out _ (HF2.out.below (Drew.below hd)); injection he2 with he2; injection he2 with e2 e3; subst e2 e3; clear hd))
        go_step3
        refine ⟨rfl, HH.out (l.length - (k + 1)) _ _ (by omega) ⟨k + 1, ?_⟩⟩
        repeat apply Exists.intro
        refine ⟨rfl, rfl, by omega, ?_, HB2.out⟩
        rw [HC2.out]
        simpa using HOWN2.out
    · obtain rfl : k = l.length := by omega
      have hne : ((l.length : Int) == (l.length : Int)) = true := by simp
      go_wp2_with fail
      simp only [Exit.jump]
      go_ret
      have ho := HOWN.out
      rw [cutT_all] at ho
      obtain ⟨a2, cap2, rfl, _⟩ := OwnA.at ho
      exact ⟨a2, cap2, rfl, ho, HB.out⟩

end Go.Proofs.YtkcccfllkgjdiaaDoor.Rg
