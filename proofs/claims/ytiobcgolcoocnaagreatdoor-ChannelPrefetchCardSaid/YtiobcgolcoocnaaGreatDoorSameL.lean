/-
  Same's inner loop: the items of one couple.
-/
import Derived.Test.YtiobcgolcoocnaaGreatDoorStk
import Derived.Deep.LoopGhost
import Derived.Deep.RegionHeld3
namespace Go.Proofs.YtiobcgolcoocnaaGreatDoor
open Go.RowKit
set_option linter.unusedVariables false

/-- the first loop's body in a code. -/
def loopIn : Code → Option Code
  | .loop c => some c
  | .seq a b => (loopIn a).or (loopIn b)
  | .cond _ a b => (loopIn a).or (loopIn b)
  | .block _ a => loopIn a
  | .scope a => loopIn a
  | _ => none
noncomputable def sameBody : Code := (Tryz.f50.body.bind loopIn).getD .skip

def inRel (v0 v1 : Value) (c : Cp) (r : List Cp) (S : Option Addr → Prop) (vs vs' : Nat → Option Addr × Nat) (bss : Nat → List Nat) (M C : Nat) (w0 w5 : World) (n : Nat) (a' : Act) (w' : World) : Prop :=
  ∃ (g cap k N : Nat) (u2 u3 : Value) (u8 u9 u10 u11 u12 u13 u14 u15 u16 u17 u18 u19 u20 u21 u22 u23 u24 u25 u26 u27 u28 u29 u30 u31 u32 u33 u34 u35 u36 u37 u38 u39 u40 u41 u42 u43 u44 u45 u46 u47 u48 u49 u50 : Value) (u53 u54 u55 u56 u57 u58 u59 u60 u61 u62 u63 u64 u65 u66 u67 u68 u69 u70 u71 u72 u73 u74 u75 u76 u77 u78 u79 u80 u81 u82 u83 u84 : Value), a' = { tmps := #[v0, v1, u2, u3, .bool false, .map (some M), .slice (some ⟨g, 0, none⟩) N cap, .pointer (some ⟨C, 0, none⟩), u8, u9, u10, u11, u12, u13, u14, u15, u16, u17, u18, u19, u20, u21, u22, u23, u24, u25, u26, u27, u28, u29, u30, u31, u32, u33, u34, u35, u36, u37, u38, u39, u40, u41, u42, u43, u44, u45, u46, u47, u48, u49, u50, .int .i64 c.la.length, .int .i64 k, u53, u54, u55, u56, u57, u58, u59, u60, u61, u62, u63, u64, u65, u66, u67, u68, u69, u70, u71, u72, u73, u74, u75, u76, u77, u78, u79, u80, u81, u82, u83, u84], defers := [] } ∧
    N = (r ++ kids vs vs' bss c.la c.lb k).length ∧ k ≤ c.la.length ∧ n = c.la.length - k ∧ Sst w0.heap.size w0 w' M g cap (r ++ kids vs vs' bss c.la c.lb k) S ∧ Below w0.heap.size w5 w' ∧
    w'.heap[C]? = some (.cells #[.slice c.a c.la.length c.ca, .slice c.b c.lb.length c.cb] 111 (0, 0)) ∧ C ≠ g ∧ ∀ i, i < k → Alike (c.la.getD i it0) (c.lb.getD i it0)

theorem two_made (w : World) (o1 o2 : Obj) : ((w.alloc o1).alloc o2).drew.heap[w.heap.size]? = some o1 ∧ ((w.alloc o1).alloc o2).drew.heap[w.heap.size + 1]? = some o2 := by
  constructor
  · show ((w.alloc o1).alloc o2).heap[w.heap.size]? = some o1
    rw [Below.heap_alloc _ _ _ (by simp)]
    exact heap_alloc_new w o1
  · show ((w.alloc o1).alloc o2).heap[w.heap.size + 1]? = some o2
    have := heap_alloc_new (w.alloc o1) o2
    have e : (w.alloc o1).heap.size = w.heap.size + 1 := by simp
    rw [e] at this
    exact this
theorem cells5 {w : World} {g : Nat} {a b c d e : Value} {t : TypeId} (h : w.heap[g]? = some (.cells #[a, b, c, d, e] t (0, 0))) :
    w.cell? ⟨g, 0, none⟩ = some a ∧ w.cell? ⟨g, 1, none⟩ = some b ∧ w.cell? ⟨g, 2, none⟩ = some c ∧ w.cell? ⟨g, 3, none⟩ = some d ∧ w.cell? ⟨g, 4, none⟩ = some e := by
  refine ⟨?_, ?_, ?_, ?_, ?_⟩
  all_goals (rw [cell_of_row w _ _ _ _ _ h]; rfl)

set_option maxRecDepth 100000 in
set_option maxHeartbeats 4000000 in
theorem same_round {v0 v1 : Value} {c : Cp} {r : List Cp} {S : Option Addr → Prop} {vs vs' : Nat → Option Addr × Nat} {bss : Nat → List Nat} {ba oa bb ob M C : Nat} {w0 w5 : World} {Q0 : Exit → Act → World → Prop}
    (hle : c.la.length = c.lb.length) (ho : Opened w5 w0.heap.size c ba oa bb ob vs vs' bss) (hsum : wsum r + weigh c.la ≤ 100000)
    (hexit : ∀ a' w', inRel v0 v1 c r S vs vs' bss M C w0 w5 0 a' w' → Q0 (.exit 0) a' w')
    (hret : ∀ (u0 u1 u2 u3 : Value) (u5 u6 u7 u8 u9 u10 u11 u12 u13 u14 u15 u16 u17 u18 u19 u20 u21 u22 u23 u24 u25 u26 u27 u28 u29 u30 u31 u32 u33 u34 u35 u36 u37 u38 u39 u40 u41 u42 u43 u44 u45 u46 u47 u48 u49 u50 u51 u52 u53 u54 u55 u56 u57 u58 u59 u60 u61 u62 u63 u64 u65 u66 u67 u68 u69 u70 u71 u72 u73 u74 u75 u76 u77 u78 u79 u80 u81 u82 u83 u84 : Value) w', Below w0.heap.size w0 w' → (∃ i, i < c.la.length ∧ ¬ Alike (c.la.getD i it0) (c.lb.getD i it0)) → Q0 .ret { tmps := #[u0, u1, u2, u3, .bool false, u5, u6, u7, u8, u9, u10, u11, u12, u13, u14, u15, u16, u17, u18, u19, u20, u21, u22, u23, u24, u25, u26, u27, u28, u29, u30, u31, u32, u33, u34, u35, u36, u37, u38, u39, u40, u41, u42, u43, u44, u45, u46, u47, u48, u49, u50, u51, u52, u53, u54, u55, u56, u57, u58, u59, u60, u61, u62, u63, u64, u65, u66, u67, u68, u69, u70, u71, u72, u73, u74, u75, u76, u77, u78, u79, u80, u81, u82, u83, u84], defers := [] } w')
    (n : Nat) (a' : Act) (w' : World) (h : inRel v0 v1 c r S vs vs' bss M C w0 w5 n a' w') (K : Act → World → Prop) (hK : ∀ n' a' w', n' < n → inRel v0 v1 c r S vs vs' bss M C w0 w5 n' a' w' → K a' w') :
    Code.wp Tryz.prog sameBody (Exit.then K Q0) a' w' := by
  obtain ⟨g, cap, k, N, u2, u3, u8, u9, u10, u11, u12, u13, u14, u15, u16, u17, u18, u19, u20, u21, u22, u23, u24, u25, u26, u27, u28, u29, u30, u31, u32, u33, u34, u35, u36, u37, u38, u39, u40, u41, u42, u43, u44, u45, u46, u47, u48, u49, u50, u53, u54, u55, u56, u57, u58, u59, u60, u61, u62, u63, u64, u65, u66, u67, u68, u69, u70, u71, u72, u73, u74, u75, u76, u77, u78, u79, u80, u81, u82, u83, u84, rfl, hN, hk, rfl, hs, hb5, hbox, hCg, hal⟩ := h
  conv => arg 2; whnf
  have HN := Lib.hid hN
  clear hN
  by_cases hlt : k < c.la.length
  · have ho' := ho.below hle hb5
    obtain ⟨ea, _, hba⟩ := ho'.pa (by omega)
    obtain ⟨eb, hbb⟩ := ho'.pb (by omega)
    obtain ⟨x, hx⟩ : ∃ x, x = c.la.getD k it0 := ⟨_, rfl⟩
    obtain ⟨y, hy⟩ : ∃ y, y = c.lb.getD k it0 := ⟨_, rfl⟩
    have ex : c.la[k] = x := by rw [hx]; simp [List.getD, List.getElem?_eq_getElem hlt]
    have ey : c.lb[k]'(by omega) = y := by rw [hy]; simp [List.getD, List.getElem?_eq_getElem (show k < c.lb.length by omega)]
    have ia : ItAt w' ba (oa + k * 5) x (.slice (vs k).1 x.sub.length (vs k).2) := by rw [← ex]; exact ho'.ita k hlt
    have ib : ItAt w' bb (ob + k * 5) y (.slice (vs' k).1 y.sub.length (vs' k).2) := by rw [← ey]; exact ho'.itb k (by omega)
    have lx : x.sub.length ≤ maxLen := by rw [← ex]; exact ho'.sla k hlt
    have ly : y.sub.length ≤ maxLen := by rw [← ey]; exact ho'.slb k (by omega)
    clear ex ey
    have hx0 : w'.cell? ⟨C, 0, none⟩ = some (.slice (some ⟨ba, oa, none⟩) c.la.length c.ca) := by rw [cell_of_row w' _ _ _ _ _ hbox, ea]; rfl
    have hx1 : w'.cell? ⟨C, 1, none⟩ = some (.slice (some ⟨bb, ob, none⟩) c.lb.length c.cb) := by rw [cell_of_row w' _ _ _ _ _ hbox, eb]; rfl
    have hxa := ho'.capa
    have hxb := ho'.capb
    unfold maxLen at hxa hxb
    have k0 : (0 : Int) ≤ (k : Int) := by omega
    have k1 : (k : Int) < (c.la.length : Int) := by omega
    have k2 : (k : Int) < (c.lb.length : Int) := by omega
    have k3 : (k : Int) ≤ (c.ca : Int) := by omega
    have k4 : (k : Int) ≤ (c.cb : Int) := by omega
    obtain ⟨a0, a1, a2, a3, a4, _, _, _, _⟩ := ia
    obtain ⟨b0, b1, b2, b3, b4, _, _, _, _⟩ := ib
    have HSZ := Lib.hid hs.size
    have hs1 : IntKind.i64.wrap ((k : Int) + 1) = ((k + 1 : Nat) : Int) := by rw [IntWalk.i64_in _ (by omega)]; omega
    have HS1 := Lib.hid hs1
    clear hs1
    have HCL := Lib.hid (show C < w'.heap.size from (Array.getElem?_eq_some_iff.1 hbox).1)
    have HO := Lib.hid ho'
    have HS := Lib.hid hs
    have HLE := Lib.hid hle
    have HAL := Lib.hid hal
    have HB5 := Lib.hid hb5
    have HBX := Lib.hid hbox
    have HEA := Lib.hid ea
    have HEB := Lib.hid eb
    have HCG := Lib.hid hCg
    have HX := Lib.hid hx
    have HY := Lib.hid hy
    have HLX := Lib.hid lx
    have HLY := Lib.hid ly
    have KS : ∀ wx, Below w'.heap.size w' wx → wx.cell? ⟨C, 0, none⟩ = some (.slice (some ⟨ba, oa, none⟩) c.la.length c.ca) ∧ wx.cell? ⟨C, 1, none⟩ = some (.slice (some ⟨bb, ob, none⟩) c.lb.length c.cb) ∧
        (wx.cell? ⟨ba, oa + k * 5, none⟩ = some (.string x.name) ∧ wx.cell? ⟨ba, oa + k * 5 + 1, none⟩ = some (.int .i64 x.kind) ∧ wx.cell? ⟨ba, oa + k * 5 + 2, none⟩ = some (.int .i64 x.n) ∧ wx.cell? ⟨ba, oa + k * 5 + 3, none⟩ = some (.string x.s) ∧ wx.cell? ⟨ba, oa + k * 5 + 4, none⟩ = some (.slice (vs k).1 x.sub.length (vs k).2)) ∧
        (wx.cell? ⟨bb, ob + k * 5, none⟩ = some (.string y.name) ∧ wx.cell? ⟨bb, ob + k * 5 + 1, none⟩ = some (.int .i64 y.kind) ∧ wx.cell? ⟨bb, ob + k * 5 + 2, none⟩ = some (.int .i64 y.n) ∧ wx.cell? ⟨bb, ob + k * 5 + 3, none⟩ = some (.string y.s) ∧ wx.cell? ⟨bb, ob + k * 5 + 4, none⟩ = some (.slice (vs' k).1 y.sub.length (vs' k).2)) ∧ Below w'.heap.size w' wx := by
      intro wx h
      have l1 := lt_of_cell hx0
      have l2 := lt_of_cell a0
      have l3 := lt_of_cell b0
      exact ⟨(h.cell l1).trans hx0, (h.cell l1).trans hx1, ⟨(h.cell l2).trans a0, (h.cell l2).trans a1, (h.cell l2).trans a2, (h.cell l2).trans a3, (h.cell l2).trans a4⟩, ⟨(h.cell l3).trans b0, (h.cell l3).trans b1, (h.cell l3).trans b2, (h.cell l3).trans b3, (h.cell l3).trans b4⟩, h⟩
    have KH := Lib.hid KS
    clear ho' hs hle hal hb5 hbox ea eb hxa hxb hCg ho hx hy lx ly KS hexit
    go_wp2_with fail
    go_region_held3 (fun wx => wx.cell? ⟨C, 0, none⟩ = some (.slice (some ⟨ba, oa, none⟩) c.la.length c.ca) ∧ wx.cell? ⟨C, 1, none⟩ = some (.slice (some ⟨bb, ob, none⟩) c.lb.length c.cb) ∧
        (wx.cell? ⟨ba, oa + k * 5, none⟩ = some (.string x.name) ∧ wx.cell? ⟨ba, oa + k * 5 + 1, none⟩ = some (.int .i64 x.kind) ∧ wx.cell? ⟨ba, oa + k * 5 + 2, none⟩ = some (.int .i64 x.n) ∧ wx.cell? ⟨ba, oa + k * 5 + 3, none⟩ = some (.string x.s) ∧ wx.cell? ⟨ba, oa + k * 5 + 4, none⟩ = some (.slice (vs k).1 x.sub.length (vs k).2)) ∧
        (wx.cell? ⟨bb, ob + k * 5, none⟩ = some (.string y.name) ∧ wx.cell? ⟨bb, ob + k * 5 + 1, none⟩ = some (.int .i64 y.kind) ∧ wx.cell? ⟨bb, ob + k * 5 + 2, none⟩ = some (.int .i64 y.n) ∧ wx.cell? ⟨bb, ob + k * 5 + 3, none⟩ = some (.string y.s) ∧ wx.cell? ⟨bb, ob + k * 5 + 4, none⟩ = some (.slice (vs' k).1 y.sub.length (vs' k).2)) ∧ Below w'.heap.size w' wx)
      (first | exact KH.out _ (by repeat (first | exact Below.refl _ _ | refine Below.drew ?_ | refine Below.alloc ?_ (by simp) _ | refine Below.setCell ?_ (by simp) _)) | exact KH.out _ (by assumption))
      (fail)
    · rename_i hHeld
      have hbz := hHeld.2.2.2.2
      clear hHeld a0 a1 a2 a3 a4 b0 b1 b2 b3 b4 hx0 hx1 KH
      obtain ⟨ho1, ho2⟩ := two_made w' (.cells #[.string x.name, .int .i64 x.kind, .int .i64 x.n, .string x.s, .slice (vs k).1 x.sub.length (vs k).2] 45) (.cells #[.string y.name, .int .i64 y.kind, .int .i64 y.n, .string y.s, .slice (vs' k).1 y.sub.length (vs' k).2] 45)
      generalize (((w'.alloc (.cells #[.string x.name, .int .i64 x.kind, .int .i64 x.n, .string x.s, .slice (vs k).1 x.sub.length (vs k).2] 45)).alloc (.cells #[.string y.name, .int .i64 y.kind, .int .i64 y.n, .string y.s, .slice (vs' k).1 y.sub.length (vs' k).2] 45)).drew) = wz at *
      have hX := ho1
      have hY := ho2
      clear ho1 ho2
      obtain ⟨X, eX⟩ : ∃ X, X = w'.heap.size := ⟨_, rfl⟩
      obtain ⟨Y, eY⟩ : ∃ Y, Y = w'.heap.size + 1 := ⟨_, rfl⟩
      rw [← eY, ← eX]
      rw [← eX] at hX
      rw [← eY] at hY
      have HXY := Lib.hid (show X ≠ C ∧ Y ≠ C by have := HCL.out; omega)
      clear eX eY
      have hs7 := HS.out.below hbz
      obtain ⟨p0, p1, p2, p3, p4⟩ := cells5 hX
      obtain ⟨q0, q1, q2, q3, q4⟩ := cells5 hY
      have HXR := Lib.hid hX
      have HYR := Lib.hid hY
      have HBZ := Lib.hid hbz
      have HS7 := Lib.hid hs7
      clear hX hY hbz hs7 HS
      go_wp2_with fail
      clear p0 p1 p2 p3 p4 q0 q1 q2 q3 q4
      refine (alike_any x y _ _ _ _ _ HLX.out HLY.out).mono ?_
      rintro e w8 ⟨rr, hr, rfl, hb8⟩
      have hX8 := (hb8.block X (Array.getElem?_eq_some_iff.1 HXR.out).1).trans HXR.out
      have hY8 := (hb8.block Y (Array.getElem?_eq_some_iff.1 HYR.out).1).trans HYR.out
      have hs8 := HS7.out.below hb8
      have hbw : Below w'.heap.size w' w8 := HBZ.out.trans (hb8.mono HBZ.out.size)
      have p4 := (cells5 hX8).2.2.2.2
      have q4 := (cells5 hY8).2.2.2.2
      have HS8 := Lib.hid hs8
      have HR := Lib.hid hr
      have HBW := Lib.hid hbw
      clear hX8 hY8 hs8 hbw hr hb8 HXR HYR HBZ HS7
      cases rr
      · clear p4 q4 hK
        go_wp2_with fail
        apply hret
        · exact HS8.out.bel
        · refine ⟨k, hlt, fun h => ?_⟩
          rw [← HX.out, ← HY.out] at h
          cases HR.out.2 h
      · clear hret
        have hxy : Alike x y := HR.out.1 rfl
        have hal' : ∀ i, i < k + 1 → Alike (c.la.getD i it0) (c.lb.getD i it0) := fun i hi => by
          by_cases e : i = k
          · subst e
            rw [← HX.out, ← HY.out]
            exact hxy
          · exact HAL.out i (by omega)
        have hbx8 : w8.heap[C]? = some (.cells #[.slice c.a c.la.length c.ca, .slice c.b c.lb.length c.cb] 111 (0, 0)) := (HBW.out.block C HCL.out).trans HBX.out
        have hb58 := HB5.out.trans (HBW.out.mono HSZ.out)
        have HAL' := Lib.hid hal'
        have HBX8 := Lib.hid hbx8
        have HB58 := Lib.hid hb58
        have hsm : (r ++ kids vs vs' bss c.la c.lb k).length ≤ 100000 := by
          have h1 := len_wsum (r ++ kids vs vs' bss c.la c.lb k)
          rw [wsum_append] at h1
          have h2 := kids_sum (vs := vs) (vs' := vs') (bss := bss) (la := c.la) (lb := c.lb) (k := k) (by omega)
          have h3 : weigh (c.la.take k) ≤ weigh c.la := weigh_take c.la k
          omega
        have HSM := Lib.hid hsm
        obtain ⟨nx, hnx⟩ : ∃ nx, nx = x.sub.length := ⟨_, rfl⟩
        rw [← hnx] at p4
        have HNX := Lib.hid hnx
        clear hxy hal' hbx8 hsm HR HAL hb58 hnx
        by_cases h0 : nx = 0
        · subst h0
          clear q4
          have hs1 := HS1.out
          go_wp2_with fail
          clear hs1 p4
          refine hK (c.la.length - (k + 1)) _ _ (by omega) ⟨g, cap, k + 1, N, ?_⟩
          have hkids : kids vs vs' bss c.la c.lb (k + 1) = kids vs vs' bss c.la c.lb k := by
            rw [kids, ← HX.out, if_pos HNX.out.symm]; simp
          rw [hkids]
          repeat apply Exists.intro
          exact ⟨rfl, HN.out, by omega, rfl, HS8.out, HB58.out, HBX8.out, HCG.out, HAL'.out⟩
        · have n0 : 0 < nx := by omega
          have n1 : (0 : Int) < (nx : Int) := by omega
          have hs1 := HS1.out
          go_wp2_with (at_builtin; refine put_couple rfl (.tmp 74) (.tmp 82) rfl (kid vs vs' bss c.la c.lb k) HS8.out HSM.out (by simp only [cc, kid]; rw [HNX.out, HX.out, HY.out]) N HN.out rfl _ rfl rfl ?_; intro g' cap' w9 hs9 hg9 hat; have HS9 := Lib.hid hs9; have HG9 := Lib.hid hg9; have HAT := Lib.hid hat; clear hs9 hg9 hat)
          clear hs1 p4 q4
          refine hK (c.la.length - (k + 1)) _ _ (by omega) ⟨g', cap', k + 1, N + 1, ?_⟩
          have hkids : kids vs vs' bss c.la c.lb (k + 1) = kids vs vs' bss c.la c.lb k ++ [kid vs vs' bss c.la c.lb k] := by
            rw [kids, ← HX.out, if_neg (by rw [← HNX.out]; omega)]
          rw [hkids, ← List.append_assoc]
          have hCw8 : C < w8.heap.size := Nat.lt_of_lt_of_le HCL.out HBW.out.size
          have hCg' := HAT.out
          have hCg := HCG.out
          repeat apply Exists.intro
          exact ⟨rfl, by have h := HN.out; simp only [List.length_append, List.length_cons, List.length_nil] at h ⊢; omega, by omega, rfl, HS9.out, HB58.out.trans ((Below.refl _ _).grown HG9.out HS8.out.size (fun j e => by cases e; exact HS8.out.hg)), (HG9.out.block C hCw8 (fun e => hCg (by simpa using e))).trans HBX8.out, by omega, HAL'.out⟩
    · rename_i hHeld
      have hbz := hHeld.2.2.2.2
      clear hHeld a0 a1 a2 a3 a4 b0 b1 b2 b3 b4 hx0 hx1 KH
      obtain ⟨ho1, ho2⟩ := two_made w' (.cells #[.string y.name, .int .i64 y.kind, .int .i64 y.n, .string y.s, .slice (vs' k).1 y.sub.length (vs' k).2] 45) (.cells #[.string x.name, .int .i64 x.kind, .int .i64 x.n, .string x.s, .slice (vs k).1 x.sub.length (vs k).2] 45)
      generalize (((w'.alloc (.cells #[.string y.name, .int .i64 y.kind, .int .i64 y.n, .string y.s, .slice (vs' k).1 y.sub.length (vs' k).2] 45)).alloc (.cells #[.string x.name, .int .i64 x.kind, .int .i64 x.n, .string x.s, .slice (vs k).1 x.sub.length (vs k).2] 45)).drew) = wz at *
      have hX := ho2
      have hY := ho1
      clear ho1 ho2
      obtain ⟨X, eX⟩ : ∃ X, X = w'.heap.size + 1 := ⟨_, rfl⟩
      obtain ⟨Y, eY⟩ : ∃ Y, Y = w'.heap.size := ⟨_, rfl⟩
      rw [← eX, ← eY]
      rw [← eX] at hX
      rw [← eY] at hY
      have HXY := Lib.hid (show X ≠ C ∧ Y ≠ C by have := HCL.out; omega)
      clear eX eY
      have hs7 := HS.out.below hbz
      obtain ⟨p0, p1, p2, p3, p4⟩ := cells5 hX
      obtain ⟨q0, q1, q2, q3, q4⟩ := cells5 hY
      have HXR := Lib.hid hX
      have HYR := Lib.hid hY
      have HBZ := Lib.hid hbz
      have HS7 := Lib.hid hs7
      clear hX hY hbz hs7 HS
      go_wp2_with fail
      clear p0 p1 p2 p3 p4 q0 q1 q2 q3 q4
      refine (alike_any x y _ _ _ _ _ HLX.out HLY.out).mono ?_
      rintro e w8 ⟨rr, hr, rfl, hb8⟩
      have hX8 := (hb8.block X (Array.getElem?_eq_some_iff.1 HXR.out).1).trans HXR.out
      have hY8 := (hb8.block Y (Array.getElem?_eq_some_iff.1 HYR.out).1).trans HYR.out
      have hs8 := HS7.out.below hb8
      have hbw : Below w'.heap.size w' w8 := HBZ.out.trans (hb8.mono HBZ.out.size)
      have p4 := (cells5 hX8).2.2.2.2
      have q4 := (cells5 hY8).2.2.2.2
      have HS8 := Lib.hid hs8
      have HR := Lib.hid hr
      have HBW := Lib.hid hbw
      clear hX8 hY8 hs8 hbw hr hb8 HXR HYR HBZ HS7
      cases rr
      · clear p4 q4 hK
        go_wp2_with fail
        apply hret
        · exact HS8.out.bel
        · refine ⟨k, hlt, fun h => ?_⟩
          rw [← HX.out, ← HY.out] at h
          cases HR.out.2 h
      · clear hret
        have hxy : Alike x y := HR.out.1 rfl
        have hal' : ∀ i, i < k + 1 → Alike (c.la.getD i it0) (c.lb.getD i it0) := fun i hi => by
          by_cases e : i = k
          · subst e
            rw [← HX.out, ← HY.out]
            exact hxy
          · exact HAL.out i (by omega)
        have hbx8 : w8.heap[C]? = some (.cells #[.slice c.a c.la.length c.ca, .slice c.b c.lb.length c.cb] 111 (0, 0)) := (HBW.out.block C HCL.out).trans HBX.out
        have hb58 := HB5.out.trans (HBW.out.mono HSZ.out)
        have HAL' := Lib.hid hal'
        have HBX8 := Lib.hid hbx8
        have HB58 := Lib.hid hb58
        have hsm : (r ++ kids vs vs' bss c.la c.lb k).length ≤ 100000 := by
          have h1 := len_wsum (r ++ kids vs vs' bss c.la c.lb k)
          rw [wsum_append] at h1
          have h2 := kids_sum (vs := vs) (vs' := vs') (bss := bss) (la := c.la) (lb := c.lb) (k := k) (by omega)
          have h3 : weigh (c.la.take k) ≤ weigh c.la := weigh_take c.la k
          omega
        have HSM := Lib.hid hsm
        obtain ⟨nx, hnx⟩ : ∃ nx, nx = x.sub.length := ⟨_, rfl⟩
        rw [← hnx] at p4
        have HNX := Lib.hid hnx
        clear hxy hal' hbx8 hsm HR HAL hb58 hnx
        by_cases h0 : nx = 0
        · subst h0
          clear q4
          have hs1 := HS1.out
          go_wp2_with fail
          clear hs1 p4
          refine hK (c.la.length - (k + 1)) _ _ (by omega) ⟨g, cap, k + 1, N, ?_⟩
          have hkids : kids vs vs' bss c.la c.lb (k + 1) = kids vs vs' bss c.la c.lb k := by
            rw [kids, ← HX.out, if_pos HNX.out.symm]; simp
          rw [hkids]
          repeat apply Exists.intro
          exact ⟨rfl, HN.out, by omega, rfl, HS8.out, HB58.out, HBX8.out, HCG.out, HAL'.out⟩
        · have n0 : 0 < nx := by omega
          have n1 : (0 : Int) < (nx : Int) := by omega
          have hs1 := HS1.out
          go_wp2_with (at_builtin; refine put_couple rfl (.tmp 74) (.tmp 82) rfl (kid vs vs' bss c.la c.lb k) HS8.out HSM.out (by simp only [cc, kid]; rw [HNX.out, HX.out, HY.out]) N HN.out rfl _ rfl rfl ?_; intro g' cap' w9 hs9 hg9 hat; have HS9 := Lib.hid hs9; have HG9 := Lib.hid hg9; have HAT := Lib.hid hat; clear hs9 hg9 hat)
          clear hs1 p4 q4
          refine hK (c.la.length - (k + 1)) _ _ (by omega) ⟨g', cap', k + 1, N + 1, ?_⟩
          have hkids : kids vs vs' bss c.la c.lb (k + 1) = kids vs vs' bss c.la c.lb k ++ [kid vs vs' bss c.la c.lb k] := by
            rw [kids, ← HX.out, if_neg (by rw [← HNX.out]; omega)]
          rw [hkids, ← List.append_assoc]
          have hCw8 : C < w8.heap.size := Nat.lt_of_lt_of_le HCL.out HBW.out.size
          have hCg' := HAT.out
          have hCg := HCG.out
          repeat apply Exists.intro
          exact ⟨rfl, by have h := HN.out; simp only [List.length_append, List.length_cons, List.length_nil] at h ⊢; omega, by omega, rfl, HS9.out, HB58.out.trans ((Below.refl _ _).grown HG9.out HS8.out.size (fun j e => by cases e; exact HS8.out.hg)), (HG9.out.block C hCw8 (fun e => hCg (by simpa using e))).trans HBX8.out, by omega, HAL'.out⟩
  · have hkk : k = c.la.length := by omega
    subst hkk
    have k1 : ¬ (c.la.length : Int) < (c.la.length : Int) := by omega
    have HS := Lib.hid hs
    have HB5 := Lib.hid hb5
    have HBX := Lib.hid hbox
    have HCG := Lib.hid hCg
    have HAL := Lib.hid hal
    clear ho hs hb5 hbox hCg hal hret hK hle
    go_wp2_with fail
    refine ⟨g, cap, c.la.length, N, ?_⟩
    repeat apply Exists.intro
    exact ⟨rfl, HN.out, Nat.le_refl _, by omega, HS.out, HB5.out, HBX.out, HCG.out, HAL.out⟩

end Go.Proofs.YtiobcgolcoocnaaGreatDoor
