/-
  MethodBack.
-/
import Derived.Test.YtenpcadgelpbgaaMBackD
namespace Go.Proofs.Ytenpcadgelpbgaa
open Go.RowKit
set_option linter.unusedVariables false

theorem below_alloc (w : World) (b : Obj) : Below w.heap.size w (w.alloc b) := (Below.refl _ _).alloc (Nat.le_refl _) _

set_option maxRecDepth 100000 in
set_option maxHeartbeats 8000000 in
theorem backM_any (m0 : Me) (a0 : Option Addr) (cap0 : Nat) (p1 p2 : Int) (w : World) (w0 : Tb w a0 cap0 m0.args ∧ m0.Wf) (w1 : (Lit.int .i64 p1).wf = true) (w2 : (Lit.int .u8 p2).wf = true) :
    Calls Try.prog 4 #[.agg (meC m0 a0 cap0), .int .i64 p1, .int .u8 p2] w fun e w' => e = .returned (.bool true) ∧ Below w.heap.size w w' := by
  obtain ⟨c, rfl⟩ := byte_of (in_u8 w2)
  obtain ⟨ht, wf⟩ := w0
  have hb0 : Below w.heap.size w (w.alloc (.cells (meC m0 a0 cap0) 25)) := below_alloc w _
  have henv : MEnv w (w.alloc (.cells (meC m0 a0 cap0) 25)) m0 a0 cap0 := ⟨heap_alloc_new w _, ht.below hb0, hb0⟩
  have WF := Lib.hid wf
  have HE := Lib.hid henv
  clear w1 w2 ht hb0 wf
  obtain ⟨⟨c0, c1, c2, c3, c4, c5⟩, c6, c7, c8, c9, c10, c11⟩ := henv.at_.cells
  clear henv
  obtain ⟨mc, hmc⟩ : ∃ c, c = meC m0 a0 cap0 := ⟨_, rfl⟩
  rw [← hmc] at HE c0 c1 c2 c3 c4 c5 c6 c7 c8 c9 c10 c11 ⊢
  clear hmc
  go_enter Try.func4, Try.ntmps4
  go_wp2_with fail
  generalize w.alloc (.cells mc 25) = w1 at *
  refine (fewM_any HE.out.tab WF.out).mono ?_
  rintro e w2 ⟨r, rfl, hb, hf⟩
  have HE := Lib.hid (HE.out.below hb)
  have HF := Lib.hid hf
  clear hb hf c0 c1 c2 c3 c4 c5 c6 c7 c8 c9 c10 c11
  cases r
  · go_wp2_with fail
    refine (told_any _).mono ?_
    rintro e w3 ⟨rfl, hb⟩
    have HE := Lib.hid (HE.out.below hb)
    clear hb
    go_wp2_with fail
    go_ret
    exact ⟨rfl, HE.out.bel⟩
  obtain ⟨⟨c0, c1, c2, c3, c4, c5⟩, c6, c7, c8, c9, c10, c11⟩ := HE.out.at_.cells
  go_wp2_with fail
  refine (putM_any HE.out.tab WF.out).mono ?_
  intro e w3 h
  obtain ⟨hb, h⟩ := putM_two h
  have HE := Lib.hid (HE.out.below hb)
  clear hb c0 c1 c2 c3 c4 c5 c6 c7 c8 c9 c10 c11
  rcases h with ⟨ce, rfl, hce, hce0⟩ | ⟨hgood, gb, capb, rfl, -, hbb⟩
  · go_wp2_with fail
    refine (told_any _).mono ?_
    rintro e w4 ⟨rfl, hb⟩
    have HE := Lib.hid (HE.out.below hb)
    clear hb
    go_wp2_with fail
    go_ret
    exact ⟨by first | rfl | (simp [*]; done) | (simp [*]; omega), HE.out.bel⟩
  have hl4 := putM_short m0 hgood
  have hlmax := putM_le hgood
  obtain ⟨L, hL⟩ : ∃ L, L = putM m0 := ⟨_, rfl⟩
  rw [← hL] at hbb hl4 hlmax ⊢
  have HL := Lib.hid hL
  have HG := Lib.hid hgood
  have HBB := Lib.hid hbb
  have hcb := hbb.len
  have hcm := hbb.max
  unfold maxLen at hcm
  clear hL hgood hbb
  have hnz : ((L.length : Int) == 0) = false := by rw [beq_eq_false_iff_ne]; omega
  have hn4 : ¬ (L.length : Int) < 4 := by omega
  go_wp2_with fail
  refine (getM_any (B := w3.heap.size) _ L w3 (Nat.le_refl _) HBB.out.in).mono ?_
  intro e w4 h
  rw [HL.out] at h
  obtain ⟨hb, a2, cap2, bs2, he, hs, ho⟩ := get_good HG.out h
  replace he : e = .returned (.tuple #[.agg #[.int .i64 m0.id, .string m0.name, .string m0.typ, .string m0.ex, .string m0.key, .string m0.text, .int .i64 m0.code, .int .i64 m0.count, .int .u64 (m0.tag : Nat), .bool m0.flag, .bool m0.back, .slice a2 m0.args.length cap2], .int .i64 0]) := he
  subst he
  have hM : MeAt (w4.alloc (.cells #[.int .i64 m0.id, .string m0.name, .string m0.typ, .string m0.ex, .string m0.key, .string m0.text, .int .i64 m0.code, .int .i64 m0.count, .int .u64 (m0.tag : Nat), .bool m0.flag, .bool m0.back, .slice a2 m0.args.length cap2] 25)) w4.heap.size m0 a2 cap2 := heap_alloc_new w4 _
  have hb4 := below_alloc w4 (.cells #[.int .i64 m0.id, .string m0.name, .string m0.typ, .string m0.ex, .string m0.key, .string m0.text, .int .i64 m0.code, .int .i64 m0.count, .int .u64 (m0.tag : Nat), .bool m0.flag, .bool m0.back, .slice a2 m0.args.length cap2] 25)
  have HE := Lib.hid ((HE.out.below hb).below hb4)
  have HBB := Lib.hid ((HBB.out.below hb).below hb4)
  have HX := Lib.hid (MGot.laid hs ho hb4 hM)
  clear h hb hs ho hM hb4
  obtain ⟨q1, hq1⟩ : ∃ q, IntKind.u64.wrap p1 = q := ⟨_, rfl⟩
  have hqb1 : 0 ≤ q1 := by rw [← hq1, IntKind.wrap_u64]; omega
  have hlw : IntKind.u64.wrap (L.length : Int) = (L.length : Int) := by rw [IntKind.wrap_u64]; omega
  obtain ⟨k, hk, hkl⟩ : ∃ i : Nat, q1.tmod (L.length : Int) = (i : Int) ∧ i < L.length := by
    rw [Int.tmod_eq_emod_of_nonneg hqb1]
    have h1 := Int.emod_nonneg q1 (b := (L.length : Int)) (by omega)
    have h2 := Int.emod_lt_of_pos q1 (b := (L.length : Int)) (by omega)
    exact ⟨(q1 % (L.length : Int)).toNat, by omega, by omega⟩
  clear hqb1
  have hl0 : ¬ (L.length : Int) = 0 := by omega
  have hwk : IntKind.i64.wrap (k : Int) = (k : Int) := IntWalk.i64_in _ (by omega)
  have hk0 : (0 : Int) ≤ (k : Int) := by omega
  have hk1 : (k : Int) ≤ (capb : Int) := by omega
  go_wp2_with fail
  generalize hw5 : w4.alloc (.cells #[.int .i64 m0.id, .string m0.name, .string m0.typ, .string m0.ex, .string m0.key, .string m0.text, .int .i64 m0.code, .int .i64 m0.count, .int .u64 (m0.tag : Nat), .bool m0.flag, .bool m0.back, .slice a2 m0.args.length cap2] 25) = w5 at *
  obtain ⟨g9, hg9⟩ : ∃ g, g = w4.heap.size := ⟨_, rfl⟩
  rw [← hg9] at HX ⊢
  clear hq1 hlw hk hl0 hwk hw5 hg9
  refine (getM_any (B := w5.heap.size) _ (L.take k) w5 (Nat.le_refl _) (HBB.out.cut (by omega))).mono ?_
  intro e w6 h
  obtain ⟨hb, he⟩ := get_syn (fun m hm hp => cutM (k := k) HG.out (by rw [← HL.out]; exact hkl) hm (by rw [← HL.out]; exact hp)) (by rw [HL.out]; exact headM_cut HG.out k) h
  replace he : e = .returned (.tuple #[.agg #[.int .i64 0, .string ⟨#[]⟩, .string ⟨#[]⟩, .string ⟨#[]⟩, .string ⟨#[]⟩, .string ⟨#[]⟩, .int .i64 0, .int .i64 0, .int .u64 0, .bool false, .bool false, .slice none 0 0], .int .i64 502]) := he
  subst he
  have hb6 := below_alloc w6 (.cells #[.int .i64 0, .string ⟨#[]⟩, .string ⟨#[]⟩, .string ⟨#[]⟩, .string ⟨#[]⟩, .string ⟨#[]⟩, .int .i64 0, .int .i64 0, .int .u64 0, .bool false, .bool false, .slice none 0 0] 25)
  have HE := Lib.hid ((HE.out.below hb).below hb6)
  have HBB := Lib.hid ((HBB.out.below hb).below hb6)
  have HX := Lib.hid ((HX.out.below hb).below hb6)
  clear h hb hb6
  have hL0 : 0 < L.length := by omega
  have hL1 : L.length ≤ 100000 := by omega
  have hL2 : L.length ≤ 1000000 := by omega
  obtain ⟨w7, hw7⟩ : ∃ x, x = w6.alloc (.cells #[.int .i64 0, .string ⟨#[]⟩, .string ⟨#[]⟩, .string ⟨#[]⟩, .string ⟨#[]⟩, .string ⟨#[]⟩, .int .i64 0, .int .i64 0, .int .u64 0, .bool false, .bool false, .slice none 0 0] 25) := ⟨_, rfl⟩
  rw [← hw7] at HE HBB HX
  go_wp2_with (at_builtin; first
    | (rw [← hw7]; refine put_dup (w := w7) (l := L) rfl (.tmp 62) (.tmp 63) rfl hL0 hL1 HBB.out (by rw [hw7]; simp) rfl rfl rfl ?_; intro g8 cap8 w8 hg8 hbuf8 hb8; have HG8 := Lib.hid hg8; have HBUF8 := Lib.hid hbuf8; have HB8 := Lib.hid hb8; clear hg8 hbuf8 hb8)
    | (refine put_one (w := w8) rfl (.tmp 64) (.tmp 66) rfl HBUF8.out HB8.out.size hL2 c rfl rfl _ rfl rfl ?_; intro v9 w9 hbuf9 hon9; have HBUF9 := Lib.hid hbuf9; have HO9 := Lib.hid hon9; clear hbuf9 hon9))
  have hb79 : Below w7.heap.size w7 w9 := HB8.out.trans (HO9.out.below HBUF8.out HB8.out.size)
  refine (getM_any (B := w9.heap.size) _ (L ++ [c]) w9 (Nat.le_refl _) HBUF9.out.bytes).mono ?_
  intro e w10 h
  obtain ⟨hb, he⟩ := get_syn (fun m hm hp => moreM (c := c) HG.out hm (by rw [← HL.out]; exact hp)) (.inr (by rw [HL.out]; exact headM_more HG.out [c])) h
  replace he : e = .returned (.tuple #[.agg #[.int .i64 0, .string ⟨#[]⟩, .string ⟨#[]⟩, .string ⟨#[]⟩, .string ⟨#[]⟩, .string ⟨#[]⟩, .int .i64 0, .int .i64 0, .int .u64 0, .bool false, .bool false, .slice none 0 0], .int .i64 502]) := he
  subst he
  have hb10 := below_alloc w10 (.cells #[.int .i64 0, .string ⟨#[]⟩, .string ⟨#[]⟩, .string ⟨#[]⟩, .string ⟨#[]⟩, .string ⟨#[]⟩, .int .i64 0, .int .i64 0, .int .u64 0, .bool false, .bool false, .slice none 0 0] 25)
  have hb79 := hb79.trans ((hb.trans (hb10.mono hb.size)).mono hb79.size)
  have HE := Lib.hid (HE.out.below hb79)
  have HBB := Lib.hid (HBB.out.below hb79)
  have HX := Lib.hid (HX.out.below hb79)
  clear h hb hb79 hb10 hw7 HBUF9 HO9 HBUF8 HB8 HG8
  obtain ⟨⟨c0, c1, c2, c3, c4, c5⟩, c6, c7, c8, c9, c10, c11⟩ := HE.out.at_.cells
  obtain ⟨⟨d0, d1, d2, d3, d4, d5⟩, d6, d7, d8, d9, d10, d11⟩ := HX.out.at_.cells
  go_wp2_with fail
  generalize w10.alloc (.cells #[.int .i64 0, .string ⟨#[]⟩, .string ⟨#[]⟩, .string ⟨#[]⟩, .string ⟨#[]⟩, .string ⟨#[]⟩, .int .i64 0, .int .i64 0, .int .u64 0, .bool false, .bool false, .slice none 0 0] 25) = w11 at *
  refine (sameM_any (m := m0) (s := m0) (a := a2) (cap := cap2) (b := a0) (cap' := cap0) (fun r => r = true) (fun wx hbx => (same_two False (HX.out.below hbx).sl (HE.out.below hbx).tab (by have := HF.out (by trivial); omega) (fun h => h.elim)).mono (by
    rintro e wy ⟨r, rfl, hby, hr, _⟩
    exact ⟨r, rfl, hby, hr rfl⟩))).mono ?_
  rintro e w12 ⟨r, rfl, hb, hr⟩
  obtain rfl : r = true := by
    rcases hr with ⟨_, h⟩ | ⟨h, _⟩
    · exact h
    · exact (h (HeadEq.refl _)).elim
  have HE := Lib.hid (HE.out.below hb)
  have HBB := Lib.hid (HBB.out.below hb)
  clear hb hr HX c0 c1 c2 c3 c4 c5 c6 c7 c8 c9 c10 c11 d0 d1 d2 d3 d4 d5 d6 d7 d8 d9 d10 d11
  obtain ⟨x, hx⟩ : ∃ x, x = L[k] := ⟨_, rfl⟩
  have hxor := xor_byte x c
  have hkc : (k : Int) < (L.length : Int) := by omega
  have HXX := Lib.hid hx
  clear hx
  go_wp2_with (at_builtin; refine put_dup (w := w12) (l := L) rfl (.tmp 87) (.tmp 88) rfl hL0 hL1 HBB.out rfl rfl rfl rfl ?_; intro g13 cap13 w13 hg13 hbuf13 hb13; have hb1 := buf_row hbuf13 hL0; have hc13 := hb1.cell hkl; rw [← HXX.out] at hc13; have hf13 := hb1.frozen k; have HBB13 := Lib.hid hb1; have HG13 := Lib.hid hg13; have HB13 := Lib.hid hb13; clear hg13 hbuf13 hb13 hb1)
  have hb14 : Bytes1 (w13.setCell ⟨g13, k, none⟩ (.int .u8 ((x.toNat ^^^ c.toNat : Nat) : Int))) g13 cap13 (L.set k (x ^^^ c)) := by
    have := HBB13.out.set k (x ^^^ c)
    rwa [UInt8.toNat_xor] at this
  have hb : Below w12.heap.size w12 (w13.setCell ⟨g13, k, none⟩ (.int .u8 ((x.toNat ^^^ c.toNat : Nat) : Int))) := HB13.out.setCell HG13.out _
  generalize w13.setCell ⟨g13, k, none⟩ (.int .u8 ((x.toNat ^^^ c.toNat : Nat) : Int)) = w14 at *
  have hT0 : c = 0 → L.set k (x ^^^ c) = L := fun e => by rw [HXX.out, e]; exact set_same hkl
  have hT1 : L.set k (x ^^^ c) = L → c = 0 := fun e => by rw [HXX.out] at e; exact set_turn hkl e
  have hT4 : 4 ≤ k → ∃ pl, HeadOk (L.set k (x ^^^ c)) pl := fun e => by rw [HL.out]; exact headM_set HG.out e _
  have hTL : (L.set k (x ^^^ c)).length = L.length := by simp
  obtain ⟨t, hT⟩ : ∃ t, t = L.set k (x ^^^ c) := ⟨_, rfl⟩
  rw [← hT] at hb14 hT0 hT1 hTL hT4
  have HE := Lib.hid (HE.out.below hb)
  have HBT := Lib.hid hb14
  have H0 := Lib.hid hT0
  have H1 := Lib.hid hT1
  have H4 := Lib.hid hT4
  have HTL := Lib.hid hTL
  clear hb14 hb hT0 hT1 hT4 hTL hT hc13 hf13 hxor HBB13 HG13 HB13 HBB HXX
  have hin : BytesIn w14.heap.size w14 (.slice (some ⟨g13, 0, none⟩) L.length cap13) t := by
    have := HBT.out.in
    rwa [HTL.out] at this
  refine (getM_any (B := w14.heap.size) _ t w14 (Nat.le_refl _) hin).mono ?_
  rintro e w15 ⟨hb, h⟩
  have HE := Lib.hid (HE.out.below hb)
  have HBT := Lib.hid (HBT.out.below hb)
  have hb15 := hb.size
  clear hin hb
  rcases h with ⟨he, -, h⟩ | ⟨he, -, h⟩ | ⟨m, a15, cap15, bs15, g1, g2, he, g5, g6⟩
  · have hc : ¬ c = 0 := fun e => h m0 HG.out (by rw [H0.out e, HL.out])
    have hcn : ¬ (c.toNat : Int) = 0 := fun e => hc (by
      have : c.toNat = (0 : UInt8).toNat := by simp; omega
      exact UInt8.toNat_inj.1 this)
    have hcb2 : ((c.toNat : Int) == 0) = false := by rw [beq_eq_false_iff_ne]; exact hcn
    replace he : e = .returned (.tuple #[.agg #[.int .i64 0, .string ⟨#[]⟩, .string ⟨#[]⟩, .string ⟨#[]⟩, .string ⟨#[]⟩, .string ⟨#[]⟩, .int .i64 0, .int .i64 0, .int .u64 0, .bool false, .bool false, .slice none 0 0], .int .i64 502]) := he
    subst he
    have hb := below_alloc w15 (.cells #[.int .i64 0, .string ⟨#[]⟩, .string ⟨#[]⟩, .string ⟨#[]⟩, .string ⟨#[]⟩, .string ⟨#[]⟩, .int .i64 0, .int .i64 0, .int .u64 0, .bool false, .bool false, .slice none 0 0] 25)
    have HE := Lib.hid (HE.out.below hb)
    clear h hc hb
    go_wp2_with fail
    generalize w15.alloc (.cells #[.int .i64 0, .string ⟨#[]⟩, .string ⟨#[]⟩, .string ⟨#[]⟩, .string ⟨#[]⟩, .string ⟨#[]⟩, .int .i64 0, .int .i64 0, .int .u64 0, .bool false, .bool false, .slice none 0 0] 25) = w16 at *
    refine (told_any _).mono ?_
    rintro e w17 ⟨rfl, hb⟩
    have HE := Lib.hid (HE.out.below hb)
    clear hb
    go_wp2_with fail
    go_ret
    exact ⟨by first | rfl | (simp [*]; done) | (simp [*]; omega), HE.out.bel⟩
  · have hc : ¬ c = 0 := fun e => by
      obtain ⟨pl, _, hp, _⟩ := putM_head m0 HG.out
      exact h pl (by rw [H0.out e, HL.out]; exact hp)
    have hk4 : (k : Int) < 4 := by
      refine Classical.byContradiction fun hk => ?_
      obtain ⟨pl, hp⟩ := H4.out (by omega)
      exact h pl hp
    have hcn : ¬ (c.toNat : Int) = 0 := fun e => hc (by
      have : c.toNat = (0 : UInt8).toNat := by simp; omega
      exact UInt8.toNat_inj.1 this)
    have hcb2 : ((c.toNat : Int) == 0) = false := by rw [beq_eq_false_iff_ne]; exact hcn
    replace he : e = .returned (.tuple #[.agg #[.int .i64 0, .string ⟨#[]⟩, .string ⟨#[]⟩, .string ⟨#[]⟩, .string ⟨#[]⟩, .string ⟨#[]⟩, .int .i64 0, .int .i64 0, .int .u64 0, .bool false, .bool false, .slice none 0 0], .int .i64 503]) := he
    subst he
    have hb := below_alloc w15 (.cells #[.int .i64 0, .string ⟨#[]⟩, .string ⟨#[]⟩, .string ⟨#[]⟩, .string ⟨#[]⟩, .string ⟨#[]⟩, .int .i64 0, .int .i64 0, .int .u64 0, .bool false, .bool false, .slice none 0 0] 25)
    have HE := Lib.hid (HE.out.below hb)
    clear h hc hb
    go_wp2_with fail
    generalize w15.alloc (.cells #[.int .i64 0, .string ⟨#[]⟩, .string ⟨#[]⟩, .string ⟨#[]⟩, .string ⟨#[]⟩, .string ⟨#[]⟩, .int .i64 0, .int .i64 0, .int .u64 0, .bool false, .bool false, .slice none 0 0] 25) = w16 at *
    refine (told_any _).mono ?_
    rintro e w17 ⟨rfl, hb⟩
    have HE := Lib.hid (HE.out.below hb)
    clear hb
    go_wp2_with fail
    go_ret
    exact ⟨by first | rfl | (simp [*]; done) | (simp [*]; omega), HE.out.bel⟩
  · replace he : e = .returned (.tuple #[.agg #[.int .i64 m.id, .string m.name, .string m.typ, .string m.ex, .string m.key, .string m.text, .int .i64 m.code, .int .i64 m.count, .int .u64 (m.tag : Nat), .bool m.flag, .bool m.back, .slice a15 m.args.length cap15], .int .i64 0]) := he
    subst he
    have hM : MeAt (w15.alloc (.cells #[.int .i64 m.id, .string m.name, .string m.typ, .string m.ex, .string m.key, .string m.text, .int .i64 m.code, .int .i64 m.count, .int .u64 (m.tag : Nat), .bool m.flag, .bool m.back, .slice a15 m.args.length cap15] 25)) w15.heap.size m a15 cap15 := heap_alloc_new w15 _
    have hb := below_alloc w15 (.cells #[.int .i64 m.id, .string m.name, .string m.typ, .string m.ex, .string m.key, .string m.text, .int .i64 m.code, .int .i64 m.count, .int .u64 (m.tag : Nat), .bool m.flag, .bool m.back, .slice a15 m.args.length cap15] 25)
    have HE := Lib.hid (HE.out.below hb)
    have HBT := Lib.hid (HBT.out.below hb)
    have HX := Lib.hid (MGot.laid g5 g6 hb hM)
    have HM := Lib.hid (And.intro g1 g2)
    obtain ⟨⟨c0, c1, c2, c3, c4, c5⟩, c6, c7, c8, c9, c10, c11⟩ := HX.out.at_.cells
    clear hb hM g1 g2 g5 g6
    go_wp2_with fail
    generalize hw16 : w15.alloc (.cells #[.int .i64 m.id, .string m.name, .string m.typ, .string m.ex, .string m.key, .string m.text, .int .i64 m.code, .int .i64 m.count, .int .u64 (m.tag : Nat), .bool m.flag, .bool m.back, .slice a15 m.args.length cap15] 25) = w16 at *
    obtain ⟨g15, hg15⟩ : ∃ g, g = w15.heap.size := ⟨_, rfl⟩
    rw [← hg15] at HX ⊢
    clear hw16 hg15 c0 c1 c2 c3 c4 c5 c6 c7 c8 c9 c10 c11
    refine (putM_any (m := m) (a := a15) (cap := cap15) ⟨_, HX.out.sl⟩ HM.out.1.wf).mono ?_
    intro e w17 h
    obtain ⟨hb, gd, capd, rfl, -, hbd⟩ := put_good HM.out.1 h
    rw [HM.out.2, HTL.out]
    rw [HM.out.2] at hbd
    have HE := Lib.hid (HE.out.below hb)
    have HBT := Lib.hid (HBT.out.below hb)
    have HX := Lib.hid (HX.out.below hb)
    have HD := Lib.hid hbd
    clear h hb hbd
    go_wp2_with fail
    refine (told_any _).mono ?_
    rintro e w18 ⟨rfl, hb⟩
    have HE := Lib.hid (HE.out.below hb)
    have HX := Lib.hid (HX.out.below hb)
    have hcv1 := conv_str capd (HD.out.below hb).at
    have hcv2 := conv_str cap13 (HBT.out.below hb).at
    rw [HTL.out] at hcv1 hcv2
    clear hb HD HBT
    obtain ⟨⟨c0, c1, c2, c3, c4, c5⟩, c6, c7, c8, c9, c10, c11⟩ := HE.out.at_.cells
    obtain ⟨⟨d0, d1, d2, d3, d4, d5⟩, d6, d7, d8, d9, d10, d11⟩ := HX.out.at_.cells
    go_wp2_with fail
    refine (sameM_any (m := m) (s := m0) (a := a15) (cap := cap15) (b := a0) (cap' := cap0) (fun r => r = true ↔ m.args = m0.args) (fun wx hbx => (same_two True (HX.out.below hbx).sl (HE.out.below hbx).tab (weighM HM.out.1) (fun _ => ⟨(HX.out.below hbx).own.1, fun b hb => ((HX.out.below hbx).own.2 b hb).2.2⟩)).mono (by
      rintro e wy ⟨r, rfl, hby, hr, _, hr2⟩
      exact ⟨r, rfl, hby, fun h => hr2 trivial h, hr⟩))).mono ?_
    rintro e w19 ⟨r, rfl, hb, hr⟩
    have HE := Lib.hid (HE.out.below hb)
    have hrm : r = true ↔ m = m0 := by
      rcases hr with ⟨h1, h2⟩ | ⟨h1, h2⟩
      · rw [h2]
        exact ⟨fun h => h1.eq h, fun h => by rw [h]⟩
      · subst h2
        exact ⟨fun h => by (cases h), fun h => (h1 (by rw [h]; exact HeadEq.refl _)).elim⟩
    have hmc : m = m0 ↔ c = 0 := by
      constructor
      · intro h
        refine H1.out ?_
        rw [← HM.out.2, h, HL.out]
      · intro h
        refine putM_inj HM.out.1 HG.out ?_
        rw [HM.out.2, H0.out h, HL.out]
    have hrc : (r == ((c.toNat : Int) == 0)) = true := by
      by_cases hc : c = 0
      · rw [hrm.2 (hmc.2 hc), hc]
        rfl
      · have hrf : r = false := by
          cases r
          · rfl
          · exact (hc (hmc.1 (hrm.1 rfl))).elim
        have hcn : ¬ (c.toNat : Int) = 0 := fun e => hc (by
          have : c.toNat = (0 : UInt8).toNat := by simp; omega
          exact UInt8.toNat_inj.1 this)
        rw [hrf, beq_eq_false_iff_ne.2 hcn]
        rfl
    clear hb hr hrm hmc hcv1 hcv2 HX c0 c1 c2 c3 c4 c5 c6 c7 c8 c9 c10 c11 d0 d1 d2 d3 d4 d5 d6 d7 d8 d9 d10 d11
    go_wp2_with fail
    go_ret
    exact ⟨by first | rfl | (simp [*]; done) | (simp [*]; omega), HE.out.bel⟩

end Go.Proofs.Ytenpcadgelpbgaa
