/-
  shard.mayBatch, walked.
-/
import Derived.Test.YthohjcfpobeplaaShMks
namespace Go.Proofs.Ythohjcfpobeplaa.Sh
open Go.RowKit Rg Go.Sort
set_option linter.unusedVariables false
set_option linter.unusedSimpArgs false

def batRel (a : Option Addr) (cap : Nat) (l : List Mg) (w : World) (m : Nat) (a' : Act) (w' : World) : Prop :=
  ∃ (i : Nat) (u4 u5 u6 u7 u8 u9 u10 u11 u12 u13 u14 u15 u16 u17 u18 u19 u20 u21 u22 u23 u24 u25 u26 u27 u28 u29 u30 u31 u32 u33 u34 u35 u36 u37 u38 u39 u40 u41 u42 u43 u44 u45 u46 u47 u48 u49 u50 u51 u52 u53 u54 u55 u56 u57 u58 u59 u60 u61 u62 u63 u64 u65 u66 u67 u68 : Value), a' = { tmps := #[.slice a l.length cap, undef, .bool false, .int .i64 i, u4, u5, u6, u7, u8, u9, u10, u11, u12, u13, u14, u15, u16, u17, u18, u19, u20, u21, u22, u23, u24, u25, u26, u27, u28, u29, u30, u31, u32, u33, u34, u35, u36, u37, u38, u39, u40, u41, u42, u43, u44, u45, u46, u47, u48, u49, u50, u51, u52, u53, u54, u55, u56, u57, u58, u59, u60, u61, u62, u63, u64, u65, u66, u67, u68], defers := [] } ∧
    m = l.length - i ∧ i ≤ l.length ∧ 1 ≤ l.length ∧ l.length ≤ 8 ∧ (∀ (j : Nat) (hj : j < l.length), j < i → OkB l[j] (l.headD mg0) j) ∧ Grew w w'

set_option maxRecDepth 100000 in
set_option maxHeartbeats 4000000 in
theorem mayB_any (a : Option Addr) (cap : Nat) (l : List Mg) (w : World) (hf : MgsAt w a cap l) :
    Calls Try.prog 104 #[.slice a l.length cap] w fun e w' => e = .returned (.bool (decide (MayB l))) ∧ Grew w w' := by
  have HF := Lib.hid hf
  have hcap := hf.max
  have hlen := hf.len
  unfold maxLen at hcap
  clear hf
  go_enter Try.func104, Try.ntmps104
  go_wp2_with fail
  refine wp_scope_ghost 0 (batRel a cap l w) rfl ?_ ?_
  · intro H hb'
    have HBK := Lib.hid hb'
    clear hb'
    by_cases h1 : l.length = 0
    · have HR0 : Hid (decide (MayB l) = false) := Lib.hid (decide_eq_false fun g => by have := g.1; omega)
      have e1 : ((l.length : Int) == 0) = true := by rw [h1]; rfl
      clear h1
      go_wp2_with fail
      simp only [Exit.jump]
      go_ret
      exact ⟨by rw [HR0.out]; rfl, Grew.refl _⟩
    have e1 : ((l.length : Int) == 0) = false := by rw [beq_eq_false_iff_ne]; omega
    by_cases h8 : 8 < l.length
    · have HR0 : Hid (decide (MayB l) = false) := Lib.hid (decide_eq_false fun g => by have := g.2.1; omega)
      have e2 : (8 : Int) < (l.length : Int) := by omega
      go_wp2_with fail
      simp only [Exit.jump]
      go_ret
      exact ⟨by rw [HR0.out]; rfl, Grew.refl _⟩
    have e2 : ¬ (8 : Int) < (l.length : Int) := by omega
    go_wp2_with fail
    go_step3
    rename_i hK
    refine hK _ _ (HBK.out l.length _ _ ⟨0, ?_⟩)
    repeat apply Exists.intro
    exact ⟨rfl, by omega, by omega, by omega, by omega, fun j hj h => by omega, Grew.refl _⟩
  · rintro m a' w' ⟨i, u4, u5, u6, u7, u8, u9, u10, u11, u12, u13, u14, u15, u16, u17, u18, u19, u20, u21, u22, u23, u24, u25, u26, u27, u28, u29, u30, u31, u32, u33, u34, u35, u36, u37, u38, u39, u40, u41, u42, u43, u44, u45, u46, u47, u48, u49, u50, u51, u52, u53, u54, u55, u56, u57, u58, u59, u60, u61, u62, u63, u64, u65, u66, u67, u68, rfl, rfl, hi, hl1, hl8, hok, hg⟩ H hH
    have HH := Lib.hid hH
    have HOK := Lib.hid hok
    have HG := Lib.hid hg
    have HF1 := Lib.hid (HF.out.below hg.below)
    clear hH hok hg
    by_cases hlt : i < l.length
    · have hlti : (i : Int) < (l.length : Int) := by omega
      have h0i : (0 : Int) ≤ (i : Int) := by omega
      have h0l : (0 : Int) < (l.length : Int) := by omega
      have h0n : 0 < l.length := by omega
      have hne : ((i : Int) == (l.length : Int)) = false := by rw [beq_eq_false_iff_ne]; omega
      have c4 : IntKind.i64.wrap ((i : Int) + 1) = (i : Int) + 1 := IntWalk.i64_in _ (by omega)
      obtain ⟨b, o, rfl, d0, d1, d2, d3, d4⟩ := MgsAt.get HF1.out i hlt
      obtain ⟨b', o', he, z0, z1, z2, z3, z4⟩ := MgsAt.get HF1.out 0 h0n
      injection he with he
      injection he with e1 e2
      subst e1 e2
      rw [show o + 0 * 5 = o by omega] at z0 z1 z2
      have mixed : Try.prog.follows .mixedOrders = true := by kernel_rfl
      have k0 := fun n os => cell_grown (a := ⟨b, o + i * 5, none⟩) (lt_of_cell d0) d0 n os
      have k1 := fun n os => cell_grown (a := ⟨b, o + i * 5 + 1, none⟩) (lt_of_cell d1) d1 n os
      have k2 := fun n os => cell_grown (a := ⟨b, o + i * 5 + 2, none⟩) (lt_of_cell d2) d2 n os
      have k3 := fun n os => cell_grown (a := ⟨b, o + i * 5 + 3, none⟩) (lt_of_cell d3) d3 n os
      have k4 := fun n os => cell_grown (a := ⟨b, o + i * 5 + 4, none⟩) (lt_of_cell d4) d4 n os
      have j0 := fun n os => cell_grown (a := ⟨b, o, none⟩) (lt_of_cell z0) z0 n os
      have j1 := fun n os => cell_grown (a := ⟨b, o + 1, none⟩) (lt_of_cell z1) z1 n os
      have j2 := fun n os => cell_grown (a := ⟨b, o + 2, none⟩) (lt_of_cell z2) z2 n os
      clear d0 d1 d2 d3 d4 z0 z1 z2 z3 z4
      have HSN : Hid (OkB l[i] (l.headD mg0) i ↔ MayMg l[i] ∧ l[i].again = false ∧ l[i].pub = l[0].pub ∧ l[i].key = l[0].key ∧ l[i].seq = l[0].seq + i) := Lib.hid (by
        obtain ⟨y, l', rfl⟩ := List.exists_cons_of_length_pos h0n
        exact Iff.rfl)
      have HNO : Hid (¬ OkB l[i] (l.headD mg0) i → decide (MayB l) = false) := Lib.hid fun h => decide_eq_false fun g => h (g.2.2 i hlt)
      have HY0 : Hid (MayMg l[i] → 1 ≤ l[0].seq ∧ l[0].seq ≤ 1073741824) := Lib.hid fun h => by
        by_cases e : i = 0
        · subst e; exact ⟨h.1.2.2.1, h.1.2.2.2.1⟩
        · have := (HOK.out 0 h0n (by omega)).1; exact ⟨this.1.2.2.1, this.1.2.2.2.1⟩
      generalize hxi : l[i] = x at *
      have HXI := Lib.hid hxi
      generalize hyi : l[0] = y at *
      clear hxi hyi
      have hmm := Lib.hid fun wx => mayMsg_any x wx
      by_cases h0 : MayMg x
      case neg =>
        have HR0 := Lib.hid (HNO.out (fun h => h0 (HSN.out.1 h).1))
        rw [decide_eq_false h0] at hmm
        clear h0
        go_wp2_with fail
        (refine wp_region_quiet_grown (by assumption) (by kernel_rfl) ?_; (repeat (go_big_quiet_step ((go_at_call 62; exact Calls.grown_of (hmm.out _))))); refine wpQuiet_nil ?_; intro wq hw'; obtain ⟨gq, hw''⟩ := hw'; have HGQ := Lib.hid (show Grew _ wq from ⟨gq.n, gq.os, hw''⟩); clear hw'' gq)
        go_wp2_with fail
        simp only [Exit.jump]
        go_ret
        exact ⟨by rw [HR0.out]; rfl, HG.out.trans HGQ.out⟩
      rw [decide_eq_true h0] at hmm
      by_cases h1 : x.again = false
      case neg =>
        have HR0 := Lib.hid (HNO.out (fun h => h1 (HSN.out.1 h).2.1))
        have ht : x.again = true := by simpa using h1
        rw [ht] at k4 hmm
        clear h1 ht
        skip
        go_wp2_with fail
        (refine wp_region_quiet_grown (by assumption) (by kernel_rfl) ?_; (repeat (go_big_quiet_step ((go_at_call 62; exact Calls.grown_of (hmm.out _))))); refine wpQuiet_nil ?_; intro wq hw'; obtain ⟨gq, hw''⟩ := hw'; have HGQ := Lib.hid (show Grew _ wq from ⟨gq.n, gq.os, hw''⟩); clear hw'' gq)
        go_wp2_with fail
        simp only [Exit.jump]
        go_ret
        exact ⟨by rw [HR0.out]; rfl, HG.out.trans HGQ.out⟩
      have H1 := Lib.hid h1
      rw [h1] at k4 hmm
      clear h1
      by_cases h2 : x.pub = y.pub
      case neg =>
        have HR0 := Lib.hid (HNO.out (fun h => h2 (HSN.out.1 h).2.2.1))
        have q1 : (x.pub == y.pub) = false := by simpa using h2
        have q2 : (x.pub != y.pub) = true := by simpa using h2
        clear h2
        go_wp2_with fail
        (refine wp_region_quiet_grown (by assumption) (by kernel_rfl) ?_; (repeat (go_big_quiet_step ((go_at_call 62; exact Calls.grown_of (hmm.out _))))); refine wpQuiet_nil ?_; intro wq hw'; obtain ⟨gq, hw''⟩ := hw'; have HGQ := Lib.hid (show Grew _ wq from ⟨gq.n, gq.os, hw''⟩); clear hw'' gq)
        go_wp2_with fail
        simp only [Exit.jump]
        go_ret
        exact ⟨by rw [HR0.out]; rfl, HG.out.trans HGQ.out⟩
      have q1 : (x.pub == y.pub) = true := by simpa using h2
      have q2 : (x.pub != y.pub) = false := by simpa using h2
      have H2 := Lib.hid h2
      clear h2
      by_cases h3 : x.key = y.key
      case neg =>
        have HR0 := Lib.hid (HNO.out (fun h => h3 (HSN.out.1 h).2.2.2.1))
        have q3 : (x.key == y.key) = false := by simpa using h3
        have q4 : (x.key != y.key) = true := by simpa using h3
        clear h3
        go_wp2_with fail
        (refine wp_region_quiet_grown (by assumption) (by kernel_rfl) ?_; (repeat (go_big_quiet_step ((go_at_call 62; exact Calls.grown_of (hmm.out _))))); refine wpQuiet_nil ?_; intro wq hw'; obtain ⟨gq, hw''⟩ := hw'; have HGQ := Lib.hid (show Grew _ wq from ⟨gq.n, gq.os, hw''⟩); clear hw'' gq)
        go_wp2_with fail
        simp only [Exit.jump]
        go_ret
        exact ⟨by rw [HR0.out]; rfl, HG.out.trans HGQ.out⟩
      have q3 : (x.key == y.key) = true := by simpa using h3
      have q4 : (x.key != y.key) = false := by simpa using h3
      have H3 := Lib.hid h3
      clear h3
      have hy := HY0.out h0
      have cs : IntKind.i64.wrap (y.seq + (i : Int)) = y.seq + (i : Int) := IntWalk.i64_in _ (by omega)
      by_cases h4 : x.seq = y.seq + i
      case neg =>
        have HR0 := Lib.hid (HNO.out (fun h => h4 (HSN.out.1 h).2.2.2.2))
        have q5 : (x.seq == y.seq + (i : Int)) = false := by simpa using h4
        have q6 : (x.seq != y.seq + (i : Int)) = true := by simpa using h4
        clear h4
        go_wp2_with fail
        (refine wp_region_quiet_grown (by assumption) (by kernel_rfl) ?_; (repeat (go_big_quiet_step ((go_at_call 62; exact Calls.grown_of (hmm.out _))))); refine wpQuiet_nil ?_; intro wq hw'; obtain ⟨gq, hw''⟩ := hw'; have HGQ := Lib.hid (show Grew _ wq from ⟨gq.n, gq.os, hw''⟩); clear hw'' gq)
        go_wp2_with fail
        simp only [Exit.jump]
        go_ret
        exact ⟨by rw [HR0.out]; rfl, HG.out.trans HGQ.out⟩
      have q5 : (x.seq == y.seq + (i : Int)) = true := by simpa using h4
      have q6 : (x.seq != y.seq + (i : Int)) = false := by simpa using h4
      have H4 := Lib.hid h4
      clear h4
      have HIN := Lib.hid (HSN.out.2 ⟨h0, H1.out, H2.out, H3.out, H4.out⟩)
      clear h0
      go_wp2_with fail
      (refine wp_region_quiet_grown (by assumption) (by kernel_rfl) ?_; (repeat (go_big_quiet_step ((go_at_call 62; exact Calls.grown_of (hmm.out _))))); refine wpQuiet_nil ?_; intro wq hw'; obtain ⟨gq, hw''⟩ := hw'; have HGQ := Lib.hid (show Grew _ wq from ⟨gq.n, gq.os, hw''⟩); clear hw'' gq)
      go_wp2_with fail
      go_step3
      refine ⟨rfl, HH.out (l.length - (i + 1)) _ _ (by omega) ⟨i + 1, ?_⟩⟩
      repeat apply Exists.intro
      exact ⟨rfl, rfl, by omega, hl1, hl8, bat_more HOK.out hlt (by rw [HXI.out]; exact HIN.out), HG.out.trans HGQ.out⟩
    · obtain rfl : i = l.length := by omega
      have hne : ((l.length : Int) == (l.length : Int)) = true := by simp
      have HR0 : Hid (decide (MayB l) = true) := Lib.hid (decide_eq_true ⟨hl1, hl8, fun j hj => HOK.out j hj hj⟩)
      go_wp2_with fail
      simp only [Exit.jump]
      go_ret
      exact ⟨by rw [HR0.out]; rfl, HG.out⟩


end Go.Proofs.Ythohjcfpobeplaa.Sh
