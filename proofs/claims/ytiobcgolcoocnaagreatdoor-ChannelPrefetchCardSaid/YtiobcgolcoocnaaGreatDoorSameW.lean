/-
  Same, walked.
  Same of any two lists.
-/
import Derived.Test.YtiobcgolcoocnaaGreatDoorSameL
import Derived.Test.YtiobcgolcoocnaaGreatDoorScope
import Derived.Deep.LoopGhost

namespace Go.Proofs.YtiobcgolcoocnaaGreatDoor
open Go.RowKit
set_option linter.unusedVariables false

def SameP (c0 : Cp) (fresh : Prop) (w0 : World) (e : Ending) (w' : World) : Prop :=
  ∃ r : Bool, e = .returned (.bool r) ∧ Below w0.heap.size w0 w' ∧ (c0.la = c0.lb → r = true) ∧ (r = true → AlikeT c0.la c0.lb) ∧ (fresh → r = true → c0.la = c0.lb)

def sameRel (c0 : Cp) (fresh : Prop) (w0 : World) (n : Nat) (a' : Act) (w' : World) : Prop :=
  ∃ (M g cap : Nat) (cs : List Cp) (S : Option Addr → Prop) (u2 u3 : Value) (u7 u8 u9 u10 u11 u12 u13 u14 u15 u16 u17 u18 u19 u20 u21 u22 u23 u24 u25 u26 u27 u28 u29 u30 u31 u32 u33 u34 u35 u36 u37 u38 u39 u40 u41 u42 u43 u44 u45 u46 u47 u48 u49 u50 u51 u52 u53 u54 u55 u56 u57 u58 u59 u60 u61 u62 u63 u64 u65 u66 u67 u68 u69 u70 u71 u72 u73 u74 u75 u76 u77 u78 u79 u80 u81 u82 u83 u84 : Value), a' = { tmps := #[.slice c0.a c0.la.length c0.ca, .slice c0.b c0.la.length c0.cb, u2, u3, .bool false, .map (some M), .slice (some ⟨g, 0, none⟩) cs.length cap, u7, u8, u9, u10, u11, u12, u13, u14, u15, u16, u17, u18, u19, u20, u21, u22, u23, u24, u25, u26, u27, u28, u29, u30, u31, u32, u33, u34, u35, u36, u37, u38, u39, u40, u41, u42, u43, u44, u45, u46, u47, u48, u49, u50, u51, u52, u53, u54, u55, u56, u57, u58, u59, u60, u61, u62, u63, u64, u65, u66, u67, u68, u69, u70, u71, u72, u73, u74, u75, u76, u77, u78, u79, u80, u81, u82, u83, u84], defers := [] } ∧
    Sst w0.heap.size w0 w' M g cap cs S ∧ Met w0.heap.size c0 fresh w' cs S ∧ n = wsum cs ∧ n ≤ 100000

/-- at the beginning. -/
theorem sst_first (c0 : Cp) (w0 : World) (h0 : CpOk w0 w0.heap.size c0) :
    Sst w0.heap.size w0 ((w0.alloc (.map #[] 0)).alloc (.cells #[.slice c0.a c0.la.length c0.ca, .slice c0.b c0.lb.length c0.cb] 111)) w0.heap.size (w0.heap.size + 1) 1 [c0] (fun _ => False) := by
  have hb1 : Below w0.heap.size w0 (w0.alloc (.map #[] 0)) := (Below.refl _ _).alloc (Nat.le_refl _) _
  have hm := MapIs.made w0 w0.heap.size (fun _ => False)
  have hr := World.ownsRow_lit (base := w0.heap.size) (e := 111) (size := 2) (w0.alloc (.map #[] 0)) (cc c0).toArray 1 (by simp) (by decide) (by simp [cc])
  refine ⟨Nat.le_refl _, hb1.alloc (by simp) _, Nat.le_refl _, by omega, ?_, hm.keep ((Below.refl _ _).alloc (by simp) _) (Below.heap_alloc _ _ _ (by simp))⟩
  simpa [cc] using hr
theorem met_first (c0 : Cp) (fresh : Prop) (w0 : World) (h0 : CpOk w0 w0.heap.size c0) (hf : fresh → c0.bs.Nodup ∧ ∀ x ∈ c0.bs, ∃ c t, w0.heap[x]? = some (.cells c t (0, 0))) :
    Met w0.heap.size c0 fresh w0 [c0] (fun _ => False) :=
  ⟨by simpa using h0, fun e c hc => by simp only [List.mem_singleton] at hc; subst hc; exact e, .inr ⟨fun _ h => h, rfl⟩, fun h => ⟨⟨by simpa using (hf h).1, by simpa using (hf h).2, fun q hq => hq.elim⟩, fun hW => hW c0 (by simp)⟩⟩

set_option maxRecDepth 100000 in
set_option maxHeartbeats 4000000 in
theorem same_any (c0 : Cp) (fresh : Prop) (w0 : World) (hle : c0.la.length = c0.lb.length) (h0 : CpOk w0 w0.heap.size c0) (hw : weigh c0.la ≤ 100000) (hf : fresh → c0.bs.Nodup ∧ ∀ x ∈ c0.bs, ∃ c t, w0.heap[x]? = some (.cells c t (0, 0))) :
    Calls Tryz.prog 50 #[.slice c0.a c0.la.length c0.ca, .slice c0.b c0.lb.length c0.cb] w0 (SameP c0 fresh w0) := by
  have hlen := h0.up.tb.len
  unfold maxLen at hlen
  have HL := Lib.hid hle
  rw [← hle]
  clear hle
  go_enter Tryz.func50, Tryz.ntmps50
  go_wp2_with fail
  have hs0 := sst_first c0 w0 h0
  rw [← HL.out] at hs0
  have HS := Lib.hid hs0
  have HM := Lib.hid ((met_first c0 fresh w0 h0 hf).below (HS.out.bel))
  clear hs0
  clear h0 hf
  refine wp_scope_ghost 0 (sameRel c0 fresh w0) rfl ?_ ?_
  · intro H hb
    have HW := Lib.hid hw
    clear hw
    have hmk : (Instr.makeMap 109 none).run Tryz.prog w0 = .ok (.map (some w0.heap.size)) (w0.alloc (.map #[] 0)) := by kernel_rfl
    go_wp2_with fail
    go_step3
    rename_i hK
    refine hK _ _ (hb (wsum [c0]) _ _ ?_)
    unfold sameRel
    refine ⟨w0.heap.size, w0.heap.size + 1, 1, [c0], fun _ => False, ?_⟩
    repeat apply Exists.intro
    exact ⟨rfl, HS.out, HM.out, rfl, by simp only [wsum]; have := HW.out; omega⟩
  · clear HS HM hw hlen
    rintro n a' w' ⟨M, g, cap, cs, S, u2, u3, u7, u8, u9, u10, u11, u12, u13, u14, u15, u16, u17, u18, u19, u20, u21, u22, u23, u24, u25, u26, u27, u28, u29, u30, u31, u32, u33, u34, u35, u36, u37, u38, u39, u40, u41, u42, u43, u44, u45, u46, u47, u48, u49, u50, u51, u52, u53, u54, u55, u56, u57, u58, u59, u60, u61, u62, u63, u64, u65, u66, u67, u68, u69, u70, u71, u72, u73, u74, u75, u76, u77, u78, u79, u80, u81, u82, u83, u84, rfl, hs, hm, rfl, hn⟩ H hH
    rcases List.eq_nil_or_concat cs with rfl | ⟨r, c, rfl⟩
    · have HM := Lib.hid hm
      have HS := Lib.hid hs
      clear hm hs
      go_wp2_with fail
      simp only [Exit.jump]
      go_ret
      have hm := HM.out
      have ht : AlikeT c0.la c0.lb := by
        rcases hm.top with ⟨h, _⟩ | ⟨_, h⟩
        · exact h
        · cases h
      exact ⟨true, rfl, HS.out.bel, fun _ => rfl, fun _ => ht, fun hf _ => (hm.sep hf).2 (by intro x hx; cases hx)⟩
    · rw [List.concat_eq_append] at *
      obtain ⟨hc1, hc2, hfz⟩ := hs.cells
      have hcap := hs.capOk
      have hsp := Lib.hid hs.pop
      have HN := Lib.hid hn
      have hlc : (r ++ [c]).length = r.length + 1 := by simp
      rw [hlc] at hcap ⊢
      obtain ⟨hcap1, hcap2⟩ := hcap
      unfold maxLen at hcap2
      have hw1 : IntKind.i64.wrap (((r.length + 1 : Nat) : Int) - 1) = (r.length : Int) := by rw [IntWalk.i64_in _ (by omega)]; omega
      have HM := Lib.hid hm
      clear hm hs hlc
      have hr0 : (0 : Int) ≤ (r.length : Int) := by omega
      have hr1 : (r.length : Int) < ((r.length + 1 : Nat) : Int) := by omega
      have hr2 : (r.length : Int) ≤ (cap : Int) := by omega
      have hr3 : (((r.length + 1 : Nat) : Int) == 0) = false := by rw [beq_eq_false_iff_ne]; omega
      go_wp2_with fail
      clear hw1 hr0 hr1 hr2 hr3 hc1 hc2 hfz hn
      have hck := HM.out.ok c (by simp)
      have hbA : Below w'.heap.size w' (w'.alloc (.cells #[.slice c.a c.la.length c.ca, .slice c.b c.lb.length c.cb] 111)) := (Below.refl _ _).alloc (Nat.le_refl _) _
      refine (couple_any _ (hck.up.tb.below hbA) (hck.tb.tb.below hbA)).mono ?_
      rintro e w2 ⟨rfl, hb2⟩
      have hbB := hbA.trans (hb2.mono (by simp))
      have HS2 := Lib.hid (hsp.out.below hbB)
      have HM2 := Lib.hid (HM.out.below (hbB.mono hsp.out.size))
      have hbox : w2.heap[w'.heap.size]? = some (.cells #[.slice c.a c.la.length c.ca, .slice c.b c.lb.length c.cb] 111 (0, 0)) := (hb2.block _ (by simp)).trans (heap_alloc_new w' _)
      have HBOX := Lib.hid hbox
      have HCg := Lib.hid (show w'.heap.size ≠ g ∧ w0.heap.size ≤ w'.heap.size ∧ w'.heap.size < w2.heap.size from ⟨by have := hsp.out.lt; omega, hsp.out.size, (Array.getElem?_eq_some_iff.1 hbox).1⟩)
      clear hbA hbB hb2 hbox HM hsp
      have hck2 := HM2.out.ok c (by simp)
      have hkey : KeyOk w2 (key4 (pl c.a c.la) c.la.length (pl c.b c.lb) c.lb.length) (pl c.a c.la) c.la.length (pl c.b c.lb) c.lb.length := ⟨rfl, pl_ok hck2.up.tb, pl_ok hck2.tb.tb⟩
      obtain ⟨ok, m, hlook, hq⟩ := run_lookup HS2.out.map hkey
      have HLK := Lib.hid hlook
      have HQ := Lib.hid hq
      have hx0 : w2.cell? ⟨w'.heap.size, 0, none⟩ = some (.slice c.a c.la.length c.ca) := by rw [cell_of_row w2 _ _ _ _ _ HBOX.out]; rfl
      have hx1 : w2.cell? ⟨w'.heap.size, 1, none⟩ = some (.slice c.b c.lb.length c.cb) := by rw [cell_of_row w2 _ _ _ _ _ HBOX.out]; rfl
      have HCK := Lib.hid hck2
      clear hlook hq hck hkey hck2
      have hbC : Below w2.heap.size w2 ((w2.drewN m).alloc (.cells #[] 105)) := (Go.Proofs.YtiobcgolcoocnaaGreatDoor.Below.drewN (Below.refl _ _) m).alloc (Nat.le_refl _) _
      have HBC := Lib.hid hbC
      have hy0 : ((w2.drewN m).alloc (.cells #[] 105)).cell? ⟨w'.heap.size, 0, none⟩ = some (.slice c.a c.la.length c.ca) := (hbC.cell HCg.out.2.2).trans hx0
      have hy1 : ((w2.drewN m).alloc (.cells #[] 105)).cell? ⟨w'.heap.size, 1, none⟩ = some (.slice c.b c.lb.length c.cb) := (hbC.cell HCg.out.2.2).trans hx1
      clear hx0 hx1 hbC
      cases ok
      · clear HQ
        go_wp2_with (at_lookup; refine wpList_lookup_run rfl (.tmp 38) (.tmp 40) _ true rfl rfl rfl HLK.out ?_)
        clear hy0 hy1 HLK
        have hck3 := HCK.out.below (HBC.out.mono (HS2.out.size))
        refine (couple_any _ hck3.up.tb hck3.tb.tb).mono ?_
        rintro e w4 ⟨rfl, hb4⟩
        have hbD := HBC.out.trans (hb4.mono HBC.out.size)
        have hs4 := HS2.out.below hbD
        have hck4 := HCK.out.below (hbD.mono HS2.out.size)
        obtain ⟨w5, hup, hmap5, hg5⟩ := run_update hs4.map (k := key4 (pl c.a c.la) c.la.length (pl c.b c.lb) c.lb.length) (pa := pl c.a c.la) (pb := pl c.b c.lb) ⟨rfl, pl_ok hck4.up.tb, pl_ok hck4.tb.tb⟩ ⟨pl_low hck4.up, pl_low hck4.tb⟩
        have hs5 := hs4.upd hg5 hmap5
        have hb5 : Below w0.heap.size w4 w5 := (Below.refl _ _).grown hg5 hs4.size (fun k e => by cases e; exact hs4.hM)
        have hm5 := (HM2.out.below (hbD.mono HS2.out.size)).below hb5
        have hCM : w'.heap.size ≠ M := by
          intro e
          obtain ⟨es, k, hm, _⟩ := HS2.out.map
          rw [← e, HBOX.out] at hm
          cases hm
        have hbox5 : w5.heap[w'.heap.size]? = some (.cells #[.slice c.a c.la.length c.ca, .slice c.b c.lb.length c.cb] 111 (0, 0)) := (hg5.block _ (Nat.lt_of_lt_of_le HCg.out.2.2 hbD.size) (fun e => hCM (by simpa using e))).trans ((hbD.block _ HCg.out.2.2).trans HBOX.out)
        have hz0 : w5.cell? ⟨w'.heap.size, 0, none⟩ = some (.slice c.a c.la.length c.ca) := by rw [cell_of_row w5 _ _ _ _ _ hbox5]; rfl
        have HUP := Lib.hid hup
        have HS5 := Lib.hid hs5
        have HM5 := Lib.hid hm5
        have HX5 := Lib.hid hbox5
        have HC5 := Lib.hid (show w'.heap.size ≠ M from hCM)
        have HLT := Lib.hid (show w'.heap.size < w5.heap.size from (Array.getElem?_eq_some_iff.1 hbox5).1)
        clear hck3 hck4 hbD hs4 hup hmap5 hg5 hs5 hb5 hm5 hCM hbox5 hb4 HBC HBOX HS2 HM2 HCK
        go_wp2_with (refine wpList_update_run rfl (.tmp 45) (.tmp 47) (.tmp 48) _ rfl rfl rfl rfl HUP.out ?_)
        clear HUP hz0
        rename_i hKl
        have hck5 := HM5.out.ok c (by simp)
        obtain ⟨ba, oa, bb, ob, vs, vs', bss, ho⟩ := hck5.opened
        have hsum : wsum r + weigh c.la ≤ 100000 := by have := HN.out; rw [wsum_append] at this; simpa [wsum] using this
        refine wp_loop_ghost (inRel (.slice c0.a c0.la.length c0.ca) (.slice c0.b c0.la.length c0.cb) c r (fun p => S p ∨ p = pl c.a c.la) vs vs' bss M w'.heap.size w0 w5) c.la.length ?_ (fun n a w h => same_round hck5.len ho hsum ?_ ?_ n a w h _ (fun n' a' w' h1 h2 => ⟨n', h1, h2⟩))
        · refine ⟨g, cap, 0, r.length, ?_⟩
          rw [kids, List.append_nil]
          repeat apply Exists.intro
          exact ⟨rfl, rfl, Nat.zero_le _, by omega, HS5.out, Below.refl _ _, HX5.out, HCg.out.1, fun i hi => by omega⟩
        · clear n a w h
          rintro a6 w6 ⟨g', cap', k, N, u2, u3, u8, u9, u10, u11, u12, u13, u14, u15, u16, u17, u18, u19, u20, u21, u22, u23, u24, u25, u26, u27, u28, u29, u30, u31, u32, u33, u34, u35, u36, u37, u38, u39, u40, u41, u42, u43, u44, u45, u46, u47, u48, u49, u50, u53, u54, u55, u56, u57, u58, u59, u60, u61, u62, u63, u64, u65, u66, u67, u68, u69, u70, u71, u72, u73, u74, u75, u76, u77, u78, u79, u80, u81, u82, u83, u84, rfl, hN, hk, hz, hs6, hb56, hbx6, hCg6, hal⟩
          have ek : k = c.la.length := by omega
          subst ek
          subst hN
          first | refine hKl _ _ ?_ | (simp only [Exit.inBlock, Exit.then]; refine hKl _ _ ?_)
          go_step3
          have hks := kids_sum (vs := vs) (vs' := vs') (bss := bss) (la := c.la) (lb := c.lb) (k := c.la.length) (Nat.le_refl _)
          rw [List.take_length] at hks
          have hlt : wsum (r ++ kids vs vs' bss c.la c.lb c.la.length) < wsum (r ++ [c]) := by simp only [wsum_append, wsum]; omega
          refine ⟨rfl, hH _ _ _ hlt ?_⟩
          unfold sameRel
          refine ⟨M, g', cap', r ++ kids vs vs' bss c.la c.lb c.la.length, fun p => S p ∨ p = pl c.a c.la, ?_⟩
          repeat apply Exists.intro
          exact ⟨rfl, hs6, (HM5.out.below hb56).next (ho.below hck5.len hb56) hal, rfl, by have := HN.out; omega⟩
        · clear n a w h
          intro u0 u1 u2 u3 u5 u6 u7 u8 u9 u10 u11 u12 u13 u14 u15 u16 u17 u18 u19 u20 u21 u22 u23 u24 u25 u26 u27 u28 u29 u30 u31 u32 u33 u34 u35 u36 u37 u38 u39 u40 u41 u42 u43 u44 u45 u46 u47 u48 u49 u50 u51 u52 u53 u54 u55 u56 u57 u58 u59 u60 u61 u62 u63 u64 u65 u66 u67 u68 u69 u70 u71 u72 u73 u74 u75 u76 u77 u78 u79 u80 u81 u82 u83 u84 w6 hb6 hna
          simp only [Exit.inBlock, Exit.then, Exit.jump]
          go_ret
          refine ⟨false, rfl, hb6, fun e => ?_, (fun h => by cases h), fun _ h => by cases h⟩
          obtain ⟨i, hi, hn⟩ := hna
          have := HM5.out.eq e c (by simp)
          rw [← this] at hn
          exact absurd ⟨rfl, rfl, rfl, rfl, rfl⟩ hn
      · clear hy0 hy1
        have HQQ := Lib.hid (HQ.out rfl)
        clear HQ
        go_wp2_with (at_lookup; refine wpList_lookup_run rfl (.tmp 38) (.tmp 40) _ true rfl rfl rfl HLK.out ?_)
        go_step3
        refine ⟨rfl, hH (wsum r) _ _ (by have := weigh_pos c.la; simp only [wsum_append, wsum]; omega) ?_⟩
        unfold sameRel
        refine ⟨M, g, cap, r, S, ?_⟩
        repeat apply Exists.intro
        exact ⟨rfl, HS2.out.below HBC.out, (HM2.out.skip HQQ.out).below (HBC.out.mono HS2.out.size), rfl, by have := HN.out; rw [wsum_append] at this; omega⟩

end Go.Proofs.YtiobcgolcoocnaaGreatDoor

namespace Go.Proofs.YtiobcgolcoocnaaGreatDoor
open Go.RowKit
set_option linter.unusedVariables false

def SameQ (l m : List It) (fresh : Prop) (w : World) (e : Ending) (w' : World) : Prop :=
  ∃ r : Bool, e = .returned (.bool r) ∧ Below w.heap.size w w' ∧ (l = m → r = true) ∧ (r = true → AlikeT l m) ∧ (fresh → r = true → l = m)

set_option maxRecDepth 100000 in
theorem same_two (fresh : Prop) {w : World} {bs : List Nat} {a b : Option Addr} {cap cap' : Nat} {l m : List It} (h : SlAt w bs a cap l) (hm : Tb w b cap' m) (hw : weigh l ≤ 100000)
    (hf : fresh → bs.Nodup ∧ ∀ x ∈ bs, ∃ c t, w.heap[x]? = some (.cells c t (0, 0))) :
    Calls Tryz.prog 50 #[.slice a l.length cap, .slice b m.length cap'] w (SameQ l m fresh w) := by
  by_cases hle : l.length = m.length
  · exact same_any ⟨a, cap, l, b, cap', m, bs⟩ fresh w hle ⟨h, h.lt, hm.up, hle⟩ hw hf
  · have h1 := Tb.len ⟨_, h⟩
    have h2 := hm.len
    unfold maxLen at h1 h2
    have hb : ((l.length : Int) == (m.length : Int)) = false := by rw [beq_eq_false_iff_ne]; omega
    have HL := Lib.hid hle
    clear hle h hm hf
    go_enter Tryz.func50, Tryz.ntmps50
    go_wp2_with fail
    go_step3
    go_wp2_with fail
    go_ret
    exact ⟨false, rfl, Below.refl _ _, fun e => absurd (by rw [e]) HL.out, (fun h => by cases h), fun _ h => by cases h⟩

end Go.Proofs.YtiobcgolcoocnaaGreatDoor
