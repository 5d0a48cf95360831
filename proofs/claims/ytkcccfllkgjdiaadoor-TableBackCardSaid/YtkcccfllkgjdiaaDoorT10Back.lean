/-
  TableBack, walked.
-/
import Derived.Test.YtkcccfllkgjdiaaDoorTlToldW
import Derived.Test.YtkcccfllkgjdiaaDoorTlArg
import Derived.Test.YtkcccfllkgjdiaaDoorXor
namespace Go.Proofs.YtkcccfllkgjdiaaDoor.Tl
open Go.RowKit Rg
set_option linter.unusedVariables false

theorem below_alloc (w : World) (b : Obj) : Below w.heap.size w (w.alloc b) := (Below.refl _ _).alloc (Nat.le_refl _) _
/-- the law's table in its box. -/
structure TEnv (W w' : World) (aa : Option Addr) (ac : Nat) (na : Option Addr) (nc : Nat) (t : Ta) : Prop where
  box : w'.heap[W.heap.size]? = some (.cells #[.int .i64 t.ep, .slice aa t.arcs.length ac, .slice na t.nodes.length nc] 26 (0, 0))
  ta : TaAt w' aa ac na nc t
  bel : Below W.heap.size W w'
theorem TEnv.below {W w' w2 : World} {aa na : Option Addr} {ac nc : Nat} {t : Ta} (h : TEnv W w' aa ac na nc t) (hb : Below w'.heap.size w' w2) : TEnv W w2 aa ac na nc t :=
  ⟨(hb.block _ (Array.getElem?_eq_some_iff.1 h.box).1).trans h.box, h.ta.below hb, h.bel.trans (hb.mono h.bel.size)⟩
/-- a table that an answer laid into a box, g its number. -/
structure TAns (w' : World) (g : Nat) (aa : Option Addr) (ac : Nat) (na : Option Addr) (nc : Nat) (t : Ta) : Prop where
  box : w'.heap[g]? = some (.cells #[.int .i64 t.ep, .slice aa t.arcs.length ac, .slice na t.nodes.length nc] 26 (0, 0))
  ta : TaAt w' aa ac na nc t
theorem TAns.below {w' w2 : World} {g : Nat} {aa na : Option Addr} {ac nc : Nat} {t : Ta} (h : TAns w' g aa ac na nc t) (hb : Below w'.heap.size w' w2) : TAns w2 g aa ac na nc t :=
  ⟨(hb.block _ (Array.getElem?_eq_some_iff.1 h.box).1).trans h.box, h.ta.below hb⟩

set_option maxRecDepth 100000 in
set_option maxHeartbeats 8000000 in
theorem backT_any (t : Ta) (aa : Option Addr) (ac : Nat) (na : Option Addr) (nc : Nat) (p1 p2 : Int) (w : World) (w0 : TaArg w aa ac na nc t) (w1 : (Lit.int .i64 p1).wf = true) (w2 : (Lit.int .u8 p2).wf = true) :
    Calls Tryd.prog 4 #[.agg #[.int .i64 t.ep, .slice aa t.arcs.length ac, .slice na t.nodes.length nc], .int .i64 p1, .int .u8 p2] w fun e w' => e = .returned (.bool true) ∧ Below w.heap.size w w' := by
  obtain ⟨c, rfl⟩ := byte_of (in_u8 w2)
  obtain ⟨ht, hwf, -⟩ := w0
  have HWF := Lib.hid hwf
  have hb0 := below_alloc w (.cells #[.int .i64 t.ep, .slice aa t.arcs.length ac, .slice na t.nodes.length nc] 26)
  have henv : TEnv w (w.alloc (.cells #[.int .i64 t.ep, .slice aa t.arcs.length ac, .slice na t.nodes.length nc] 26)) aa ac na nc t := ⟨heap_alloc_new w _, ht.below hb0, hb0⟩
  have HE := Lib.hid henv
  clear w1 w2 ht hb0 hwf henv
  go_enter Tryd.func4, Tryd.ntmps4
  go_wp2_with fail
  generalize w.alloc (.cells #[.int .i64 t.ep, .slice aa t.arcs.length ac, .slice na t.nodes.length nc] 26) = w1 at *
  refine (few_any t aa ac na nc w1).mono ?_
  rintro e w2 ⟨rfl, hb⟩
  have HE := Lib.hid (HE.out.below hb)
  clear hb
  by_cases hfew : FewT t
  case neg =>
    rw [decide_eq_false hfew]
    clear hfew
    go_wp2_with fail
    refine (told_any _).mono ?_
    rintro e w3 ⟨rfl, hb⟩
    have HE := Lib.hid (HE.out.below hb)
    clear hb
    go_wp2_with fail
    go_ret
    exact ⟨rfl, HE.out.bel⟩
  rw [decide_eq_true hfew]
  obtain ⟨⟨c0, c1, c2⟩, -⟩ := box3 HE.out.box
  have hfa := hfew.1
  have hfn := hfew.2
  have HPU := Lib.hid (put_any t aa ac na nc w2 HE.out.ta HWF.out)
  unfold PutBR putC putL at HPU
  clear hfew
  go_wp2_with fail
  by_cases hmay : MayT t
  case neg =>
    rw [if_neg hmay, if_neg hmay] at HPU
    clear hmay
    refine HPU.out.mono ?_
    rintro e w3 ⟨v, rfl, -, hb⟩
    have HE := Lib.hid (HE.out.below hb)
    clear hb c0 c1 c2
    go_wp2_with fail
    refine (told_any _).mono ?_
    rintro e w4 ⟨rfl, hb⟩
    have HE := Lib.hid (HE.out.below hb)
    clear hb
    go_wp2_with fail
    go_ret
    exact ⟨by first | rfl | (simp [*]; done) | (simp [*]; omega), HE.out.bel⟩
  rw [if_pos hmay, if_pos hmay] at HPU
  have hlen := putT_length t
  obtain ⟨L, hL⟩ : ∃ L, L = putT t := ⟨_, rfl⟩
  rw [← hL] at HPU hlen
  have HL := Lib.hid hL
  have HM := Lib.hid hmay
  have hL0 : 0 < L.length := by omega
  have hL1 : L.length ≤ 100000 := by omega
  have hL2 : L.length ≤ 1000000 := by omega
  clear hL hmay hlen hfa hfn
  refine HPU.out.mono ?_
  rintro e w3 ⟨v, rfl, hbuf, hb⟩
  obtain ⟨gb, capb, rfl, -, hbb⟩ := hbuf.bytes1 hL0
  have HE := Lib.hid (HE.out.below hb)
  have HBB := Lib.hid hbb
  have hcb := hbb.len
  have hcm := hbb.max
  have HCM : Hid (capb ≤ maxLen) := Lib.hid hcm
  unfold maxLen at hcm
  clear hbuf hb hbb c0 c1 c2 HPU
  have hnz : ((L.length : Int) == 0) = false := by rw [beq_eq_false_iff_ne]; omega
  have hg1 := get_any (some ⟨gb, 0, none⟩) capb L hcb HCM.out w3 HBB.out.at
  unfold GetTR at hg1
  rw [HL.out, (got_put HM.out HWF.out).1, (got_put HM.out HWF.out).2, ← HL.out] at hg1
  have HG1 := Lib.hid hg1
  clear hg1
  go_wp2_with fail
  refine HG1.out.mono ?_
  rintro e w4 ⟨ua, uc, un, uk, rfl, hta, hb⟩
  have hb4 := below_alloc w4 (.cells #[.int .i64 t.ep, .slice ua t.arcs.length uc, .slice un t.nodes.length uk] 26)
  have HE := Lib.hid ((HE.out.below hb).below hb4)
  have HBB := Lib.hid ((HBB.out.below hb).below hb4)
  have hans : TAns (w4.alloc (.cells #[.int .i64 t.ep, .slice ua t.arcs.length uc, .slice un t.nodes.length uk] 26)) w4.heap.size ua uc un uk t := ⟨heap_alloc_new w4 _, hta.below hb4⟩
  have HX := Lib.hid hans
  clear hb hta hb4 hans HG1
  obtain ⟨q1, hq1⟩ : ∃ q, IntKind.u64.wrap p1 = q := ⟨_, rfl⟩
  have hqb1 : 0 ≤ q1 := by rw [← hq1, IntKind.wrap_u64]; omega
  have hlw : IntKind.u64.wrap (L.length : Int) = (L.length : Int) := by rw [IntKind.wrap_u64]; omega
  obtain ⟨k, hk, hkl⟩ : ∃ i : Nat, q1.tmod (L.length : Int) = (i : Int) ∧ i < L.length := by
    rw [Int.tmod_eq_emod_of_nonneg hqb1]
    have h1 := Int.emod_nonneg q1 (b := (L.length : Int)) (by omega)
    have h2 := Int.emod_lt_of_pos q1 (b := (L.length : Int)) (by omega)
    exact ⟨(q1 % (L.length : Int)).toNat, by omega, by omega⟩
  clear hqb1
  have hl0 : ¬ (L.length : Int) = 0 := by omega
  have hwk : IntKind.i64.wrap (k : Int) = (k : Int) := IntWalk.i64_in _ (by omega)
  have hk0 : (0 : Int) ≤ (k : Int) := by omega
  have hk1 : (k : Int) ≤ (capb : Int) := by omega
  go_wp2_with fail
  generalize hw5 : w4.alloc (.cells #[.int .i64 t.ep, .slice ua t.arcs.length uc, .slice un t.nodes.length uk] 26) = w5 at *
  obtain ⟨g9, hg9⟩ : ∃ g, g = w4.heap.size := ⟨_, rfl⟩
  rw [← hg9] at HX ⊢
  clear hq1 hlw hk hl0 hwk hw5 hg9
  have hg2 := get_any (some ⟨gb, 0, none⟩) capb (L.take k) (by simp; omega) HCM.out w5 (HBB.out.at.take k)
  unfold GetTR at hg2
  have hcut : gotC (L.take k) = 2 := by rw [HL.out]; exact not_cut HM.out HWF.out (by rw [← HL.out]; exact hkl)
  rw [hcut, List.length_take, Nat.min_eq_left (by omega)] at hg2
  generalize gotT (L.take k) = tA at hg2
  refine hg2.mono ?_
  rintro e w6 ⟨xa, xc, xn, xk, rfl, -, hb⟩
  have hb6 := below_alloc w6 (.cells #[.int .i64 tA.ep, .slice xa tA.arcs.length xc, .slice xn tA.nodes.length xk] 26)
  have HE := Lib.hid ((HE.out.below hb).below hb6)
  have HBB := Lib.hid ((HBB.out.below hb).below hb6)
  have HX := Lib.hid ((HX.out.below hb).below hb6)
  clear hb hb6 hg2 hcut
  obtain ⟨w7, hw7⟩ : ∃ x, x = w6.alloc (.cells #[.int .i64 tA.ep, .slice xa tA.arcs.length xc, .slice xn tA.nodes.length xk] 26) := ⟨_, rfl⟩
  rw [← hw7] at HE HBB HX
  go_wp2_with (at_builtin; first
    | (rw [← hw7]; refine put_dup (w := w7) (l := L) rfl (.tmp 60) (.tmp 61) rfl hL0 hL1 HBB.out (by rw [hw7]; simp) rfl rfl rfl ?_; intro g8 cap8 w8 hg8 hbuf8 hb8; have HG8 := Lib.hid hg8; have HBUF8 := Lib.hid hbuf8; have HB8 := Lib.hid hb8; clear hg8 hbuf8 hb8)
    | (refine put_one (w := w8) rfl (.tmp 62) (.tmp 64) rfl HBUF8.out HB8.out.size hL2 c rfl rfl _ rfl rfl ?_; intro v9 w9 hbuf9 hon9; have HO9 := Lib.hid (HB8.out.trans (hon9.below HBUF8.out HB8.out.size)); obtain ⟨a9, c9, rfl, hl9, hm9, hat9⟩ := hbuf9.bytes; have HM9 := Lib.hid (And.intro hl9 (And.intro hm9 hat9)); clear hbuf9 hon9 hl9 hm9 hat9))
  have hb79 := HO9.out
  have hg3 := get_any a9 c9 (L ++ [c]) HM9.out.1 HM9.out.2.1 w9 HM9.out.2.2
  unfold GetTR at hg3
  have hmore : gotC (L ++ [c]) = 2 := by rw [HL.out]; exact not_more HM.out HWF.out (by simp)
  rw [hmore, List.length_append] at hg3
  generalize gotT (L ++ [c]) = tB at hg3
  refine hg3.mono ?_
  rintro e w10 ⟨ya, yc, yn, yk, rfl, -, hb⟩
  have hb10 := below_alloc w10 (.cells #[.int .i64 tB.ep, .slice ya tB.arcs.length yc, .slice yn tB.nodes.length yk] 26)
  have hb79 := hb79.trans ((hb.trans (hb10.mono hb.size)).mono hb79.size)
  have HE := Lib.hid (HE.out.below hb79)
  have HBB := Lib.hid (HBB.out.below hb79)
  have HX := Lib.hid (HX.out.below hb79)
  clear hb hb79 hb10 hw7 HO9 HM9 hg3 hmore
  obtain ⟨w11, hw11⟩ : ∃ x, x = w10.alloc (.cells #[.int .i64 tB.ep, .slice ya tB.arcs.length yc, .slice yn tB.nodes.length yk] 26) := ⟨_, rfl⟩
  rw [← hw11] at HE HBB HX
  obtain ⟨x, hx⟩ : ∃ x, x = L[k] := ⟨_, rfl⟩
  have hxor := xor_byte x c
  have hkc : (k : Int) < (L.length : Int) := by omega
  have HXX := Lib.hid hx
  clear hx
  go_wp2_with (at_builtin; rw [← hw11]; refine put_dup (w := w11) (l := L) rfl (.tmp 69) (.tmp 70) rfl hL0 hL1 HBB.out (by rw [hw11]; simp) rfl rfl rfl ?_; intro g13 cap13 w13 hg13 hbuf13 hb13; have hb1 := buf_row hbuf13 hL0; have hc13 := hb1.cell hkl; rw [← HXX.out] at hc13; have hf13 := hb1.frozen k; have HBB13 := Lib.hid hb1; have HG13 := Lib.hid hg13; have HB13 := Lib.hid hb13; clear hg13 hbuf13 hb13 hb1)
  have hb14 : Bytes1 (w13.setCell ⟨g13, k, none⟩ (.int .u8 ((x.toNat ^^^ c.toNat : Nat) : Int))) g13 cap13 (L.set k (x ^^^ c)) := by
    have := HBB13.out.set k (x ^^^ c)
    rwa [UInt8.toNat_xor] at this
  have hb : Below w11.heap.size w11 (w13.setCell ⟨g13, k, none⟩ (.int .u8 ((x.toNat ^^^ c.toNat : Nat) : Int))) := HB13.out.setCell HG13.out _
  generalize w13.setCell ⟨g13, k, none⟩ (.int .u8 ((x.toNat ^^^ c.toNat : Nat) : Int)) = w14 at *
  have hT0 : c = 0 → L.set k (x ^^^ c) = L := fun e => by rw [HXX.out, e]; exact set_same hkl
  have hT1 : L.set k (x ^^^ c) = L → c = 0 := fun e => by rw [HXX.out] at e; exact set_turn hkl e
  have hTL : (L.set k (x ^^^ c)).length = L.length := by simp
  obtain ⟨y, hT⟩ : ∃ y, y = L.set k (x ^^^ c) := ⟨_, rfl⟩
  rw [← hT] at hb14 hT0 hT1 hTL
  have HE := Lib.hid (HE.out.below hb)
  have HX := Lib.hid (HX.out.below hb)
  have HBT := Lib.hid hb14
  have H0 := Lib.hid hT0
  have H1 := Lib.hid hT1
  have HTL := Lib.hid hTL
  clear hb14 hb hT0 hT1 hTL hT hc13 hf13 hxor HBB13 HG13 HB13 HBB HXX hw11
  have hg4 := get_any (some ⟨g13, 0, none⟩) cap13 y HBT.out.len HBT.out.max w14 HBT.out.at
  unfold GetTR at hg4
  rw [HTL.out] at hg4
  have HOC : Hid (okG y → c = 0 → getP y = t) := Lib.hid fun ho e => (got_other HM.out HWF.out ho).1.2 (by rw [H0.out e, HL.out])
  have HOC2 : Hid (okG y → getP y = t → c = 0) := Lib.hid fun ho e => H1.out (by rw [HL.out]; exact (got_other HM.out HWF.out ho).1.1 e)
  have HOM : Hid (okG y → May (getP y).arcs) := Lib.hid fun ho => (got_other HM.out HWF.out ho).2
  have hnok : ¬ okG y → c ≠ 0 := fun hn e => hn (by
    have := H0.out e
    rw [this, HL.out]
    have hgp := (get_put HM.out HWF.out [])
    rw [List.append_nil] at hgp
    exact ⟨hgp.2, by rw [hgp.1]; exact HM.out⟩)
  by_cases hok : okG y
  case neg =>
    rw [(none_got hok).1, (none_got hok).2] at hg4
    have hc := hnok hok
    have hcn : ¬ (c.toNat : Int) = 0 := fun e => hc (by
      have : c.toNat = (0 : UInt8).toNat := by simp; omega
      exact UInt8.toNat_inj.1 this)
    have hcb2 : ((c.toNat : Int) == 0) = false := by rw [beq_eq_false_iff_ne]; exact hcn
    have hcb3 : ((c.toNat : Int) != 0) = true := by rw [bne_iff_ne]; exact hcn
    clear hnok hok hc
    generalize zeroT = tz at *
    refine hg4.mono ?_
    rintro e w15 ⟨za, zc, zn, zk, rfl, -, hb⟩
    have HE := Lib.hid (HE.out.below hb)
    have HX := Lib.hid (HX.out.below hb)
    obtain ⟨⟨c0, c1, c2⟩, -⟩ := box3 HE.out.box
    obtain ⟨⟨d0, d1, d2⟩, -⟩ := box3 HX.out.box
    have l1 := (Array.getElem?_eq_some_iff.1 HE.out.box).1
    have l2 := (Array.getElem?_eq_some_iff.1 HX.out.box).1
    have hb15 := below_alloc w15 (.cells #[.int .i64 tz.ep, .slice za tz.arcs.length zc, .slice zn tz.nodes.length zk] 26)
    have HE := Lib.hid (HE.out.below hb15)
    have HX := Lib.hid (HX.out.below hb15)
    clear hb hb15 hg4
    go_wp2_with fail
    generalize hw16 : w15.alloc (.cells #[.int .i64 tz.ep, .slice za tz.arcs.length zc, .slice zn tz.nodes.length zk] 26) = w16 at *
    have hsm := same_any t t ua aa uc ac un na uk nc w16 HX.out.ta HE.out.ta
    rw [decide_eq_true rfl] at hsm
    clear hw16 c0 c1 c2 d0 d1 d2 l1 l2
    refine hsm.mono ?_
    rintro e w17 ⟨rfl, hb⟩
    have HE := Lib.hid (HE.out.below hb)
    clear hb hsm HX
    go_wp2_with fail
    refine (told_any _).mono ?_
    rintro e w18 ⟨rfl, hb⟩
    have HE := Lib.hid (HE.out.below hb)
    clear hb
    go_wp2_with fail
    go_ret
    exact ⟨by first | rfl | (simp [*]; done) | (simp [*]; omega), HE.out.bel⟩
  have hgt : gotT y = getP y := if_pos hok
  have hgc : gotC y = 0 := if_pos hok
  rw [hgt, hgc] at hg4
  have HOK := Lib.hid hok
  clear hnok hgt hgc hok
  generalize getP y = tv at *
  refine hg4.mono ?_
  rintro e w15 ⟨za, zc, zn, zk, rfl, hta, hb⟩
  have HE := Lib.hid (HE.out.below hb)
  have HX := Lib.hid (HX.out.below hb)
  obtain ⟨⟨c0, c1, c2⟩, -⟩ := box3 HE.out.box
  obtain ⟨⟨d0, d1, d2⟩, -⟩ := box3 HX.out.box
  have l1 := (Array.getElem?_eq_some_iff.1 HE.out.box).1
  have l2 := (Array.getElem?_eq_some_iff.1 HX.out.box).1
  have hb15 := below_alloc w15 (.cells #[.int .i64 tv.ep, .slice za tv.arcs.length zc, .slice zn tv.nodes.length zk] 26)
  have HE := Lib.hid (HE.out.below hb15)
  have HX := Lib.hid (HX.out.below hb15)
  have HZ : Hid (TAns (w15.alloc (.cells #[.int .i64 tv.ep, .slice za tv.arcs.length zc, .slice zn tv.nodes.length zk] 26)) w15.heap.size za zc zn zk tv) := Lib.hid ⟨heap_alloc_new w15 _, hta.below hb15⟩
  clear hb hb15 hg4
  go_wp2_with fail
  generalize hw16 : w15.alloc (.cells #[.int .i64 tv.ep, .slice za tv.arcs.length zc, .slice zn tv.nodes.length zk] 26) = w16 at *
  have hsm := same_any t t ua aa uc ac un na uk nc w16 HX.out.ta HE.out.ta
  rw [decide_eq_true rfl] at hsm
  obtain ⟨g15, hg15⟩ : ∃ g, g = w15.heap.size := ⟨_, rfl⟩
  rw [← hg15] at HZ ⊢
  clear hg15 hta
  clear hw16 c0 c1 c2 d0 d1 d2 l1 l2
  refine hsm.mono ?_
  rintro e w17 ⟨rfl, hb⟩
  have HE := Lib.hid (HE.out.below hb)
  have HZ := Lib.hid (HZ.out.below hb)
  clear hb hsm HX
  go_wp2_with fail
  refine (told_any _).mono ?_
  rintro e w18 ⟨rfl, hb⟩
  have HE := Lib.hid (HE.out.below hb)
  have HZ := Lib.hid (HZ.out.below hb)
  obtain ⟨⟨c0, c1, c2⟩, -⟩ := box3 HE.out.box
  obtain ⟨⟨d0, d1, d2⟩, -⟩ := box3 HZ.out.box
  clear hb
  have hsm := same_any tv t za aa zc ac zn na zk nc w18 HZ.out.ta HE.out.ta
  have hrc : (decide (tv = t) == ((c.toNat : Int) == 0)) = true := by
    by_cases hc : c = 0
    · rw [decide_eq_true (HOC.out HOK.out hc), hc]
      rfl
    · have hcn : ¬ (c.toNat : Int) = 0 := fun e => hc (by
        have : c.toNat = (0 : UInt8).toNat := by simp; omega
        exact UInt8.toNat_inj.1 this)
      rw [decide_eq_false (fun h => hc (HOC2.out HOK.out h)), beq_eq_false_iff_ne.2 hcn]
      rfl
  have HSM := Lib.hid hsm
  generalize decide (tv = t) = r at *
  clear hsm
  go_wp2_with fail
  refine HSM.out.mono ?_
  rintro e w19 ⟨rfl, hb⟩
  have HE := Lib.hid (HE.out.below hb)
  have HZ := Lib.hid (HZ.out.below hb)
  obtain ⟨⟨e0, e1, e2⟩, -⟩ := box3 HZ.out.box
  have hmy := Rg.may_any za zc tv.arcs w19 HZ.out.ta.arcs
  rw [decide_eq_true (HOM.out HOK.out)] at hmy
  have HMY := Lib.hid hmy
  clear hb hmy c0 c1 c2 d0 d1 d2
  go_wp2_with fail
  refine HMY.out.mono ?_
  rintro e w20 ⟨rfl, hd⟩
  have HE := Lib.hid (HE.out.below hd.below)
  clear hd
  go_wp2_with fail
  go_ret
  exact ⟨by first | rfl | (simp [*]; done) | (simp [*]; omega), HE.out.bel⟩

end Go.Proofs.YtkcccfllkgjdiaaDoor.Tl
