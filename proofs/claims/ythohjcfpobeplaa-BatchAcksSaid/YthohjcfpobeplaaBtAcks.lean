/-
  Law BatchAcks, walked (printed by tools/gen_backs.py).
-/
import Derived.Test.YthohjcfpobeplaaBtAcksP
import Derived.Test.YthohjcfpobeplaaBtTold
import Derived.Test.YthohjcfpobeplaaShStep
import Derived.Test.YthohjcfpobeplaaShSame
import Derived.Deep.RegionHeld3
import Derived.Deep.LoopGhost
import Derived.Deep.CutRange
import Derived.Deep.CutBlock
namespace Go.Proofs.Ythohjcfpobeplaa.Bt
open Go.RowKit Rg Sh Go.Sort
set_option linter.unusedVariables false
set_option linter.unusedSimpArgs false

def acksRel1 (W : World) (l : List OpD) (g : Nat) (m : Nat) (v7 : Value) (wr : World) : Prop :=
  ∃ (i : Nat), i ≤ l.length ∧ m = l.length - i ∧ v7 = .int .i64 i ∧ Below W.heap.size W wr ∧ ∃ ra rc ha hc ma mc ra2 rc2 ha2 hc2 ma2 mc2, Bx wr g ra rc ha hc ma mc (play7 (l.take i)) ∧ Bx wr (g + 1) ra2 rc2 ha2 hc2 ma2 mc2 (play7 (l.take i))
theorem own_hi {w : World} {B B' : Nat} (ra : Option Addr) (rc : Nat) (ha : Option Addr) (hc : Nat) (ma : Option Addr) (mc : Nat) {s : Sd} (h : OwnS w B s (.slice ra s.rd.length rc) (.slice ha s.hd.length hc) (.slice ma s.ms.length mc)) (hb : B' ≤ B) : Hi B' ra ∧ Hi B' ha ∧ Hi B' ma := by
  obtain ⟨a1, c1, e1, -, h1⟩ := OwnE.hi mgE h.rd
  obtain ⟨a2, c2, e2, -, h2⟩ := OwnE.hi hdE h.hd
  obtain ⟨a3, c3, e3, -, h3⟩ := OwnE.hi mkE h.ms
  obtain ⟨rfl, -, -⟩ := Value.slice.inj e1
  obtain ⟨rfl, -, -⟩ := Value.slice.inj e2
  obtain ⟨rfl, -, -⟩ := Value.slice.inj e3
  exact ⟨fun b o e => Nat.le_trans hb (h1 b o e), fun b o e => Nat.le_trans hb (h2 b o e), fun b o e => Nat.le_trans hb (h3 b o e)⟩
theorem sd_keep_hi {w w' : World} {B : Nat} (ra : Option Addr) (rc : Nat) (ha : Option Addr) (hc : Nat) (ma : Option Addr) (mc : Nat) {s : Sd} (h : SdAt w ra rc ha hc ma mc s) (hh : Hi B ra ∧ Hi B ha ∧ Hi B ma) (hk : ∀ b, B ≤ b → b < w.heap.size → w'.heap[b]? = w.heap[b]?) : SdAt w' ra rc ha hc ma mc s :=
  ⟨rows_kept h.rd hh.1 hk, rows_kept h.hd hh.2.1 hk, rows_kept h.ms hh.2.2 hk, h.nr, h.nh, h.nm, h.sm⟩
theorem blkn (w : World) (o : Obj) (a : Nat) (h : a = w.heap.size) : (w.alloc o).heap[a]? = some o := by subst h; exact heap_alloc_new _ _
theorem blkd (w : World) (o : Obj) (a : Nat) (h : a = w.heap.size) : (w.alloc o).drew.heap[a]? = some o := blkn w o a h
theorem box_ald {w : World} {g : Nat} {o : Obj} (h : w.heap[g]? = some o) (o1 : Obj) : (w.alloc o1).drew.heap[g]? = some o := box_al h o1
theorem own_lit_of {w : World} {B e0 : Nat} (h : w.heap[e0]? = some (.cells #[] 3 (0, 0))) (hB : B ≤ e0) : OwnI w B (.slice (some ⟨e0, 0, none⟩) 0 0) ([] : List Int) :=
  ⟨by simp, .inr ⟨e0, 0, #[], rfl, hB, h, Nat.le_refl _, by simp [maxLen], rfl, by simp⟩⟩
theorem ins_one {w : World} {g : Nat} {x : Int} (h : w.heap[g]? = some (.cells #[.int .i64 x] 3 (0, 0))) : InsAt w (some ⟨g, 0, none⟩) 1 [x] := ins_of (l := [x]) h (by simp)
theorem grown_lit {w w' : World} {k e0 : Nat} {o1 o0 : Obj} (hg : w.grownBy w' (some e0)) (h1 : w.heap[k]? = some o1) (h0 : w.heap[e0]? = some o0) (hne : o1 ≠ o0) : w'.heap[k]? = some o1 :=
  (hg.block k (Array.getElem?_eq_some_iff.1 h1).1 (fun e => hne (by
    have e := Option.some.inj e
    subst e
    exact Option.some.inj (h1.symm.trans h0)))).trans h1
theorem grown_own {w w' : World} {b k n g : Nat} {E T : TypeId} {v : Value} {xs : List Value} {cs : Array Value} {fr : Nat × Nat} (hg : w.grownBy w' v.ownBlock) (ho : w.ownsRow b E k v n xs) (h : w.heap[g]? = some (.cells cs T fr)) (hT : E ≠ T) : w'.heap[g]? = some (.cells cs T fr) :=
  (hg.block g (Array.getElem?_eq_some_iff.1 h).1 (fun e => own_box ho h hT e.symm)).trans h
theorem grown_below {V w w' : World} {e0 : Nat} (hb : Below V.heap.size V w) (hg : w.grownBy w' (some e0)) (he : V.heap.size ≤ e0) : Below V.heap.size V w' :=
  ⟨hg.os.trans hb.os, hg.tape.trans hb.tape, hg.output.trans hb.output, Nat.le_trans hb.size hg.size, fun k hk => (hg.block k (Nat.lt_of_lt_of_le hk hb.size) (fun e => by have e := Option.some.inj e; omega)).trans (hb.block k hk)⟩
/-- an answer laid into a box made ahead of the call. -/
theorem z_store {V w10 : World} {z : Nat} {s : Sd} (ra8 : Option Addr) (rc8 : Nat) (ha8 : Option Addr) (hc8 : Nat) (ma8 : Option Addr) (mc8 : Nat) {x y p q r : Value} (hb : Below V.heap.size V w10) (hz : V.heap.size ≤ z) (hx : w10.heap[z]? = some (.cells #[x, y, p, q, r] 26 (0, 0))) (hs : SdAt w10 ra8 rc8 ha8 hc8 ma8 mc8 s)
    (hzz : ∃ b0 n0 a1 l1 c1 a2 l2 c2 a3 l3 c3, (#[x, y, p, q, r] : Array Value) = #[.bool b0, .int .i64 n0, .slice a1 l1 c1, .slice a2 l2 c2, .slice a3 l3 c3]) :
    Below V.heap.size V (set5 w10 z (.bool s.fr) (.int .i64 s.nx) (.slice ra8 s.rd.length rc8) (.slice ha8 s.hd.length hc8) (.slice ma8 s.ms.length mc8)) ∧ Bx (set5 w10 z (.bool s.fr) (.int .i64 s.nx) (.slice ra8 s.rd.length rc8) (.slice ha8 s.hd.length hc8) (.slice ma8 s.ms.length mc8)) z ra8 rc8 ha8 hc8 ma8 mc8 s := by
  obtain ⟨b0, n0, a1, l1, c1, a2, l2, c2, a3, l3, c3, e⟩ := hzz
  rw [e] at hx
  exact ⟨set5_below hb hz _ _ _ _ _, ⟨set5_box hx _ _ _ _ _, sd_keep _ _ _ _ _ _ hs hx fun b hb => set5_heap _ _ _ _ _ _ _ _ hb⟩⟩
/-- the second loop: the shard s stands as it stood in V; the other one's box, the tags so far. -/
def acksRel2 (W V : World) (g g10 : Nat) (s : Sd) (m : Nat) (v9 v11 : Value) (wr : World) : Prop :=
  ∃ (i : Nat) (tags : List Int) (t : Sd) (ta : Option Addr) (tc : Nat) (ra rb : Nat) (ra4 : Option Addr) (rc4 : Nat) (ha4 : Option Addr) (hc4 : Nat) (ma4 : Option Addr) (mc4 : Nat), i ≤ s.hd.length ∧ m = s.hd.length - i ∧ v11 = .int .i64 i ∧ v9 = .slice ta tags.length tc ∧ AkI s i tags t ∧ OwnI wr V.heap.size v9 tags ∧ Below V.heap.size V wr ∧ Bx wr g10 ra4 rc4 ha4 hc4 ma4 mc4 t
set_option maxRecDepth 100000 in
set_option maxHeartbeats 8000000 in
theorem acks_law (a : Option Addr) (cap : Nat) (l : List OpD) (which : Int) (w : World) (w0 : OpsAt w a cap l) :
    Calls Try.prog 12 #[.slice a l.length cap, .int .i64 which] w fun e w' => e = .returned (.bool true) ∧ Below w.heap.size w w' := by
  have HT := Lib.hid told_any
  have hcap := w0.max
  have hlen := w0.len
  have HO := Lib.hid w0
  clear w0
  by_cases h120 : (60 : Int) < (l.length : Int)
  · go_enter Try.func12, Try.ntmps12
    go_wp2_with fail
    refine (HT.out w).mono ?_
    rintro e w2 ⟨rfl, hb⟩
    have HB3 := Lib.hid hb
    clear hb
    go_wp2_with fail
    go_ret
    exact ⟨rfl, HB3.out⟩
  have hl9 : l.length ≤ 60 := by omega
  go_enter Try.func12, Try.ntmps12
  go_wp2_with fail
  refine (new_any w).mono ?_
  rintro e w1 ⟨rfl, hb1⟩
  have HB1 := Lib.hid hb1
  clear hb1
  go_wp2_with fail
  refine (rnew_any w1).mono ?_
  rintro e w2 ⟨rfl, hb2⟩
  have HB2 := Lib.hid (HB1.out.trans (hb2.mono HB1.out.size))
  clear hb2
  go_wp2_with fail
  obtain ⟨p1, p2, p3, p4⟩ := two_box (w := w2) (.cells #[.bool false, .int .i64 1, .slice none 0 0, .slice none 0 0, .slice none 0 0] 26) (.cells #[.bool false, .int .i64 1, .slice none 0 0, .slice none 0 0, .slice none 0 0] 26)
  generalize (w2.alloc (.cells #[.bool false, .int .i64 1, .slice none 0 0, .slice none 0 0, .slice none 0 0] 26)).alloc (.cells #[.bool false, .int .i64 1, .slice none 0 0, .slice none 0 0, .slice none 0 0] 26) = W3 at *
  have HX0 := Lib.hid (show Bx W3 w2.heap.size none 0 none 0 none 0 sd1 from ⟨p1, sd_nil _⟩)
  have HY0 := Lib.hid (show Bx W3 (w2.heap.size + 1) none 0 none 0 none 0 sd1 from ⟨p2, sd_nil _⟩)
  have HB3 := Lib.hid (HB2.out.trans (p3.mono HB2.out.size))
  have hg1 : w.heap.size ≤ w2.heap.size := HB2.out.size
  clear p1 p2 p3 p4
  generalize w2.heap.size = g at *
  go_loopg [7] l.length (acksRel1 w l g)
  case atStart => exact ⟨0, Nat.zero_le _, rfl, rfl, HB3.out, none, 0, none, 0, none, 0, none, 0, none, 0, none, 0, HX0.out, HY0.out⟩
  case round =>
    obtain ⟨i, hi, rfl, rfl, hb, ra, rc, ha, hc, ma, mc, ra2, rc2, ha2, hc2, ma2, mc2, hx, hy⟩ := hrel
    have HB4 := Lib.hid hb
    have HX := Lib.hid hx
    have HY := Lib.hid hy
    clear HX0 HY0 HB3 hb hx hy
    by_cases hlt : i < l.length
    · have h1 : (i : Int) < (l.length : Int) := by omega
      have h0i : (0 : Int) ≤ (i : Int) := by omega
      have h2 : IntKind.i64.wrap ((i : Int) + 1) = (i : Int) + 1 := IntWalk.i64_in _ (by omega)
      have wi : IntKind.i64.wrap (i : Int) = (i : Int) := IntWalk.i64_in _ (by omega)
      have HPS := Lib.hid (play7_snoc l i hlt)
      have HPM := Lib.hid (play7_may (l.take i))
      obtain ⟨bb, oo, haa, hcc⟩ := (HO.out.below HB4.out).at' (by omega)
      subst haa
      obtain ⟨ao, co, ⟨c0, c1, c2, c3, c4, c5⟩, hop⟩ := hcc i hlt
      have HOP := Lib.hid (show OpAt wr ao co (op7 l[i]) from ⟨hop.at', hop.nil⟩)
      have HK9 := Lib.hid (op7_kd l[i])
      have HSN := Lib.hid (step_nx (play7 (l.take i)) (op7 l[i]))
      clear hcc hop
      generalize play7 (l.take i) = s at *
      obtain ⟨hk1, hk2⟩ := u64_mod l[i].kind 7 (by decide)
      rw [show ((7 : Nat) : Int) = 7 from rfl] at hk1
      have hko : (op7 l[i]).kind = (u64m l[i].kind 7 : Nat) := rfl
      have hkp : (op7 l[i]).pub = l[i].pub := rfl
      have hkk : (op7 l[i]).key = l[i].key := rfl
      have hkm : (op7 l[i]).many = l[i].many := rfl
      have hkn : (op7 l[i]).n = l[i].n := rfl
      have hkl : (op7 l[i]).l = l[i].l := rfl
      have HKO := Lib.hid (And.intro hko (And.intro hkp (And.intro hkk (And.intro hkm (And.intro hkn hkl)))))
      clear hko hkp hkk hkm hkn hkl
      generalize op7 l[i] = o at *
      generalize l[i] = x at *
      generalize u64m x.kind 7 = kd at *
      have wkd : IntKind.i64.wrap (kd : Int) = (kd : Int) := IntWalk.i64_in _ (by omega)
      obtain ⟨⟨x0, x1, x2, x3, x4⟩, -⟩ := box5 HX.out.bx
      obtain ⟨⟨y0, y1, y2, y3, y4⟩, -⟩ := box5 HY.out.bx
      obtain ⟨g0, g1, g2⟩ := box_lt HX.out.bx
      obtain ⟨g3, g4, g5⟩ := box_lt HY.out.bx
      have HDO : Hid (∀ wx, SdAt wx ra rc ha hc ma mc s → SdAt wx ra2 rc2 ha2 hc2 ma2 mc2 s → OpAt wx ao co o → Calls Try.prog 40 #[.agg #[.bool s.fr, .int .i64 s.nx, .slice ra s.rd.length rc, .slice ha s.hd.length hc, .slice ma s.ms.length mc], .agg #[.bool s.fr, .int .i64 s.nx, .slice ra2 s.rd.length rc2, .slice ha2 s.hd.length hc2, .slice ma2 s.ms.length mc2], .agg #[.int .i64 kd, .int .i64 x.pub, .int .i64 x.key, .int .i64 x.many, .int .i64 x.n, .slice ao x.l.length co]] wx (DoR s o wx)) := Lib.hid (fun wx h1 h2 h3 => by
        have h := do_any s ra rc ha hc ma mc ra2 rc2 ha2 hc2 ma2 mc2 o ao co HPM.out (fun e => absurd e (by have := HK9.out; omega)) wx h1 h2 h3
        rwa [HKO.out.1, HKO.out.2.1, HKO.out.2.2.1, HKO.out.2.2.2.1, HKO.out.2.2.2.2.1, HKO.out.2.2.2.2.2] at h)
      obtain ⟨t1, t2, t3⟩ := one_box (w := wr) (.cells #[.int .i64 kd, .int .i64 x.pub, .int .i64 x.key, .int .i64 x.many, .int .i64 x.n, .slice ao x.l.length co] 48)
      have HX4 := Lib.hid (HX.out.below _ _ _ _ _ _ t2)
      have HY4 := Lib.hid (HY.out.below _ _ _ _ _ _ t2)
      have HOP4 := Lib.hid (HOP.out.below t2)
      have HG4 := Lib.hid t2
      clear t1 t2 t3
      go_wp2_with (go_at_call 40; refine (HDO.out _ HX4.out.sd HY4.out.sd HOP4.out).mono ?_; rintro e w7 ⟨ra3, rc3, ha3, hc3, ma3, mc3, ra4, rc4, ha4, hc4, ma4, mc4, rfl, hs3, hs4, hb7⟩; have HB7 := Lib.hid hb7; have HS3 := Lib.hid hs3; have HS4 := Lib.hid hs4; clear hs3 hs4 hb7; obtain ⟨⟨u0, u1, u2, u3, u4⟩, q0, q1, q2, q3, q4⟩ := box5 (box_bl HX4.out.bx HB7.out); obtain ⟨⟨z0, z1, z2, z3, z4⟩, r0, r1, r2, r3, r4⟩ := box5 (box_bl HY4.out.bx HB7.out))
      generalize hE : World.setCell (World.setCell (World.setCell (World.setCell (World.setCell w7 _ _) _ _) _ _) _ _) _ _ = E
      have hE' : set5 w7 g (.bool (stepF s o).fr) (.int .i64 (stepF s o).nx) (.slice ra3 (stepF s o).rd.length rc3) (.slice ha3 (stepF s o).hd.length hc3) (.slice ma3 (stepF s o).ms.length mc3) = E := hE
      clear hE
      generalize hF : World.setCell (World.setCell (World.setCell (World.setCell (World.setCell E _ _) _ _) _ _) _ _) _ _ = F
      have hF' : set5 E (g + 1) (.bool (stepF s o).fr) (.int .i64 (stepF s o).nx) (.slice ra4 (stepF s o).rd.length rc4) (.slice ha4 (stepF s o).hd.length hc4) (.slice ma4 (stepF s o).ms.length mc4) = F := hF
      clear hF
      have k1 := box_bl HX4.out.bx HB7.out
      have k2 := box_bl HY4.out.bx HB7.out
      have gE : E.heap[g]? = _ := hE' ▸ set5_box k1 _ _ _ _ _
      have gE1 : E.heap[g + 1]? = _ := hE' ▸ (set5_heap _ _ _ _ _ _ _ _ (by omega)).trans k2
      have gF : F.heap[g]? = _ := hF' ▸ (set5_heap _ _ _ _ _ _ _ _ (by omega)).trans gE
      have gF1 : F.heap[g + 1]? = _ := hF' ▸ set5_box gE1 _ _ _ _ _
      have e3 : SdAt F ra3 rc3 ha3 hc3 ma3 mc3 (stepF s o) := hF' ▸ sd_keep _ _ _ _ _ _ (hE' ▸ sd_keep _ _ _ _ _ _ HS3.out k1 fun b hb => set5_heap _ _ _ _ _ _ _ _ hb) gE1 fun b hb => set5_heap _ _ _ _ _ _ _ _ hb
      have e4 : SdAt F ra4 rc4 ha4 hc4 ma4 mc4 (stepF s o) := hF' ▸ sd_keep _ _ _ _ _ _ (hE' ▸ sd_keep _ _ _ _ _ _ HS4.out k1 fun b hb => set5_heap _ _ _ _ _ _ _ _ hb) gE1 fun b hb => set5_heap _ _ _ _ _ _ _ _ hb
      have hw7 : Below w.heap.size w w7 := (HB4.out.trans (HG4.out.mono HB4.out.size)).trans (HB7.out.mono (Nat.le_trans HB4.out.size HG4.out.size))
      have hbF : Below w.heap.size w F := hF' ▸ set5_below (hE' ▸ set5_below hw7 hg1 _ _ _ _ _) (Nat.le_succ_of_le hg1) _ _ _ _ _
      have HXF := Lib.hid (show Bx F g ra3 rc3 ha3 hc3 ma3 mc3 (stepF s o) from ⟨gF, e3⟩)
      have HYF := Lib.hid (show Bx F (g + 1) ra4 rc4 ha4 hc4 ma4 mc4 (stepF s o) from ⟨gF1, e4⟩)
      have HBF := Lib.hid hbF
      have HMS := Lib.hid (step_may o HPM.out)
      clear hE' hF' k1 k2 gE gE1 gF gF1 e3 e4 hw7 hbF HDO HX4 HY4 HOP4 HG4 HB7 HS3 HS4 u0 u1 u2 u3 u4 q0 q1 q2 q3 q4 z0 z1 z2 z3 z4 r0 r1 r2 r3 r4 x0 x1 x2 x3 x4 y0 y1 y2 y3 y4 c0 c1 c2 c3 c4 c5
      go_wp2_with fail
      go_roundg (l.length - (i + 1))
      case measure => omega
      case rel => exact ⟨i + 1, by omega, rfl, by go_num, HBF.out, _, _, _, _, _, _, _, _, _, _, _, _, by rw [HPS.out]; exact HXF.out, by rw [HPS.out]; exact HYF.out⟩
    · obtain rfl : i = l.length := by omega
      have h1 : ¬ ((l.length : Int) < (l.length : Int)) := by omega
      have HMS := Lib.hid (play7_may (l.take l.length))
      generalize play7 (l.take l.length) = s at *
      have HX1 := Lib.hid HX.out
      clear HY
      obtain ⟨g0, g1, g2⟩ := box_lt HX.out.bx
      obtain ⟨⟨x0, x1, x2, x3, x4⟩, -⟩ := box5 HX.out.bx
      go_upto_block 2 with fail
      have hV := HX.out.below _ _ _ _ _ _ ((Below.refl _ _).alloc (Nat.le_refl _) (.cells #[.bool s.fr, .int .i64 s.nx, .slice ra s.rd.length rc, .slice ha s.hd.length hc, .slice ma s.ms.length mc] 26))
      have HX10 := Lib.hid (show Bx (wr.alloc (.cells #[.bool s.fr, .int .i64 s.nx, .slice ra s.rd.length rc, .slice ha s.hd.length hc, .slice ma s.ms.length mc] 26)) wr.heap.size ra rc ha hc ma mc s from ⟨heap_alloc_new _ _, hV.sd⟩)
      have HBV := Lib.hid HB4.out
      have HXV := Lib.hid HX.out
      have HBA := Lib.hid ((Below.refl wr.heap.size wr).alloc (Nat.le_refl _) (.cells #[.bool s.fr, .int .i64 s.nx, .slice ra s.rd.length rc, .slice ha s.hd.length hc, .slice ma s.ms.length mc] 26))
      clear hV HX HX1 HB4 x0 x1 x2 x3 x4 g0 g1 g2
      obtain ⟨V, hV⟩ : ∃ V, V = wr := ⟨_, rfl⟩
      rw [← hV] at HBV HXV HBA HX10 ⊢
      clear hV
      go_cut [9, 11, 12, 13] from 49 to 88 (fun v9 v11 v12 v13 wx => ∃ (i : Nat) (tags : List Int) (t : Sd) (ta : Option Addr) (tc : Nat) (ra4 : Option Addr) (rc4 : Nat) (ha4 : Option Addr) (hc4 : Nat) (ma4 : Option Addr) (mc4 : Nat), i ≤ s.hd.length ∧ v9 = .slice ta tags.length tc ∧ AkI s i tags t ∧ OwnI wx V.heap.size v9 tags ∧ Below V.heap.size V wx ∧ Bx wx V.heap.size ra4 rc4 ha4 hc4 ma4 mc4 t)
      case first =>
        go_wp2_with fail
        go_loopg [9, 11] s.hd.length (acksRel2 w V g V.heap.size s)
        case atStart => exact ⟨0, [], s, none, 0, 0, 0, _, _, _, _, _, _, Nat.zero_le _, rfl, rfl, rfl, AkI.start HMS.out, OwnE.nil _ _ _ _ _, HBA.out, HX10.out⟩
        case round =>
          obtain ⟨i, tags, t, ta, tc, -, -, ra4, rc4, ha4, hc4, ma4, mc4, hi, rfl, rfl, rfl, hak, hown, hb, hx10⟩ := hrel
          have HAK := Lib.hid hak
          have HOWN := Lib.hid hown
          have HB := Lib.hid hb
          have HT10 := Lib.hid hx10
          have HS := Lib.hid (HXV.out.below _ _ _ _ _ _ hb)
          have hs48 := HMS.out.2.2.1
          clear hak hown hb hx10 HX10 HBA
          obtain ⟨⟨x0, x1, x2, x3, x4⟩, -⟩ := box5 HS.out.bx
          by_cases hlt : i < s.hd.length
          case pos =>
            have j1 : (i : Int) < (s.hd.length : Int) := by omega
            have j0 : (0 : Int) ≤ (i : Int) := by omega
            have j2 : IntKind.i64.wrap ((i : Int) + 1) = (i : Int) + 1 := IntWalk.i64_in _ (by omega)
            by_cases h8 : i < 8
            case pos =>
              have j3 : (i : Int) < 8 := by omega
              have j4 : IntKind.u64.wrap (i : Int) = (i : Int) := by rw [IntKind.wrap_u64]; omega
              go_wp2_with fail
              · go_roundg (s.hd.length - (i + 1))
                case measure => omega
                case rel => exact ⟨i + 1, tags, t, ta, tc, 0, 0, _, _, _, _, _, _, by omega, rfl, by simp, rfl, HAK.out.skip, HOWN.out, HB.out, HT10.out⟩
              obtain ⟨hb9, ho9, rfl, e0, -⟩ := HdsAt.get HS.out.sd.hd i hlt
              have HNK := Lib.hid (HAK.out.code hlt)
              have HST := Lib.hid (HAK.out.step HMS.out hlt)
              obtain ⟨tg, htg⟩ : ∃ tg, s.hd[i].tag = tg := ⟨_, rfl⟩
              rw [htg] at e0 HNK HST
              have HTG := Lib.hid htg
              clear htg

              go_cut [12, 13] from 49 to 88 (fun vp vc wx => ∃ (gp : Nat) (ra6 : Option Addr) (rc6 : Nat) (ha6 : Option Addr) (hc6 : Nat) (ma6 : Option Addr) (mc6 : Nat), vp = .pointer (some ⟨gp, 0, none⟩) ∧ vc = .int .i64 0 ∧ Bx wx gp ra6 rc6 ha6 hc6 ma6 mc6 (ackS t tg) ∧ Below wr.heap.size wr wx ∧ wr.heap.size ≤ gp ∧ (Hi wr.heap.size ra6 ∧ Hi wr.heap.size ha6 ∧ Hi wr.heap.size ma6))
              case first =>
                have HSK := Lib.hid (fun (wz : World) (k : Below wr.heap.size wr wz) => And.intro (box5 (box_bl HT10.out.bx k)).1 (And.intro (box5 (box_bl HS.out.bx k)).1.2.2.2.1 ((k.cell (p := ⟨hb9, ho9 + i * 6, none⟩) (lt_of_cell e0)).trans e0)))
                have hSS := HSK.out _ (Below.refl _ _)
                have HDR : Hid (Below wr.heap.size wr wr.drew) := Lib.hid (Below.refl _ _).drew
                have HDA : Hid (Below wr.heap.size wr (wr.alloc (.cells #[.bool false, .int .i64 0, .slice none 0 0, .slice none 0 0, .slice none 0 0] 26)).drew) := Lib.hid ((Below.refl _ _).alloc (Nat.le_refl _) _).drew
                have HDB : Hid (Below wr.heap.size wr (wr.drew.alloc (.cells #[.bool false, .int .i64 0, .slice none 0 0, .slice none 0 0, .slice none 0 0] 26))) := Lib.hid ((Below.refl _ _).drew.alloc (Nat.le_refl _) _)
                have hlt9 : wr.heap.size < (wr.alloc (.cells #[.bool false, .int .i64 0, .slice none 0 0, .slice none 0 0, .slice none 0 0] 26)).drew.heap.size := by show _ < (wr.alloc (.cells #[.bool false, .int .i64 0, .slice none 0 0, .slice none 0 0, .slice none 0 0] 26)).heap.size; simp
                go_region_held3 (fun wx => ((wx.cell? ⟨V.heap.size, 0, none⟩ = some (.bool t.fr) ∧ wx.cell? ⟨V.heap.size, 1, none⟩ = some (.int .i64 t.nx) ∧ wx.cell? ⟨V.heap.size, 2, none⟩ = some (.slice ra4 t.rd.length rc4) ∧ wx.cell? ⟨V.heap.size, 3, none⟩ = some (.slice ha4 t.hd.length hc4) ∧ wx.cell? ⟨V.heap.size, 4, none⟩ = some (.slice ma4 t.ms.length mc4)) ∧ wx.cell? ⟨g, 3, none⟩ = some (.slice (some ⟨hb9, ho9, none⟩) s.hd.length hc) ∧ wx.cell? ⟨hb9, ho9 + i * 6, none⟩ = some (.int .i64 tg)))
                  (first | (refine HSK.out _ ?_; first | with_reducible exact HDR.out | with_reducible exact HDA.out | with_reducible exact HDB.out | with_reducible exact HB7.out | with_reducible exact Below.refl _ _ | with_reducible exact low_al HB7.out (Nat.le_refl _) _ | exact set5_below HB7.out (Nat.le_refl _) _ _ _ _ _))
                  (first | (go_at_call 27; (with_reducible refine (ack_any t tg ra4 rc4 ha4 hc4 ma4 mc4 _ (HT10.out.sd.below _ _ _ _ _ _ (by first | with_reducible exact HDR.out | with_reducible exact HDA.out | with_reducible exact HDB.out))).mono ?_); rintro e w7 ⟨ra6, rc6, ha6, hc6, ma6, mc6, rfl, ho7, hsm7, hb7⟩; rw [HNK.out]; have HB7 : Hid (Below wr.heap.size wr w7) := Lib.hid (by first | with_reducible exact HDR.out.trans (hb7.mono HDR.out.size) | with_reducible exact HDA.out.trans (hb7.mono HDA.out.size) | with_reducible exact HDB.out.trans (hb7.mono HDB.out.size)); have HHI := Lib.hid (own_hi _ _ _ _ _ _ ho7 (by first | exact HDR.out.size | exact HDA.out.size | exact HDB.out.size) : Hi wr.heap.size ra6 ∧ Hi wr.heap.size ha6 ∧ Hi wr.heap.size ma6); (try (have hz7 : w7.heap[wr.heap.size]? = some (.cells #[.bool false, .int .i64 0, .slice none 0 0, .slice none 0 0, .slice none 0 0] 26 (0, 0)) := (by first | with_reducible exact box_bl (w := (wr.alloc (.cells #[.bool false, .int .i64 0, .slice none 0 0, .slice none 0 0, .slice none 0 0] 26)).drew) (heap_alloc_new wr (.cells #[.bool false, .int .i64 0, .slice none 0 0, .slice none 0 0, .slice none 0 0] 26)) hb7 | with_reducible exact box_bl (heap_alloc_new wr.drew (.cells #[.bool false, .int .i64 0, .slice none 0 0, .slice none 0 0, .slice none 0 0] 26)) hb7); obtain ⟨⟨u0, u1, u2, u3, u4⟩, r0, r1, r2, r3, r4⟩ := box5 hz7; have HZ7 := Lib.hid (bx_store _ _ _ _ _ _ HB7.out (Nat.le_refl _) hlt9 ho7 hsm7 hz7); clear hz7)); have HS7 := Lib.hid (ho7.sd _ _ _ _ _ _ hsm7); clear ho7 hsm7 hb7; dsimp only) | fail)
                all_goals
                  go_wp2_with fail
                  go_meet
                  case rel => first | exact ⟨_, _, _, _, _, _, _, rfl, rfl, HZ7.out.2, HZ7.out.1, Nat.le_refl _, HHI.out⟩ | exact ⟨_, _, _, _, _, _, _, rfl, rfl, ⟨heap_alloc_new w7 _, sd_al _ _ _ _ _ _ HS7.out _⟩, low_al HB7.out (Nat.le_refl _) _, HB7.out.size, HHI.out⟩
              case rest =>
              obtain ⟨gp, ra6, rc6, ha6, hc6, ma6, mc6, rfl, rfl, hx6, hb6, hgp, hhi⟩ := hcut
              have HX6 := Lib.hid hx6
              have HB6 := Lib.hid hb6
              have HHI := Lib.hid hhi
              have HX10 := Lib.hid (HT10.out.below _ _ _ _ _ _ hb6)
              clear hx6 hb6 hhi e0 x0 x1 x2 x3 x4
              obtain ⟨⟨y0, y1, y2, y3, y4⟩, -⟩ := box5 HX6.out.bx
              obtain ⟨⟨d0, d1, d2, d3, d4⟩, k0, k1, k2, k3, k4⟩ := box5 HX10.out.bx
              go_upto_region 20 with fail
              generalize hE : World.setCell (World.setCell (World.setCell (World.setCell (World.setCell wc _ _) _ _) _ _) _ _) _ _ = E
              have hE' : set5 wc V.heap.size (.bool (ackS t tg).fr) (.int .i64 (ackS t tg).nx) (.slice ra6 (ackS t tg).rd.length rc6) (.slice ha6 (ackS t tg).hd.length hc6) (.slice ma6 (ackS t tg).ms.length mc6) = E := hE
              clear hE
              have hbE : Below V.heap.size V E := hE' ▸ set5_below (HB.out.trans (HB6.out.mono HB.out.size)) (Nat.le_refl _) _ _ _ _ _
              have hxE : Bx E V.heap.size ra6 rc6 ha6 hc6 ma6 mc6 (ackS t tg) := hE' ▸ ⟨set5_box HX10.out.bx _ _ _ _ _, sd_keep _ _ _ _ _ _ HX6.out.sd HX10.out.bx fun b hb => set5_heap _ _ _ _ _ _ _ _ hb⟩
              have hoE : OwnI E V.heap.size (.slice ta tags.length tc) tags := hE' ▸ (set5_kept wc V.heap.size _ _ _ _ _).row (HOWN.out.below1 HB6.out) fun j hj hm => by
                rw [List.mem_singleton] at hm
                subst hm
                exact own_box (HOWN.out.below1 HB6.out) HX10.out.bx (by decide) hj
              have HBE := Lib.hid hbE
              have HXE := Lib.hid hxE
              have HOE := Lib.hid hoE
              have HSE := Lib.hid (HXV.out.below _ _ _ _ _ _ hbE)
              clear hE' hbE hxE hoE y0 y1 y2 y3 y4 d0 d1 d2 d3 d4 k0 k1 k2 k3 k4 HX6 HX10
              obtain ⟨⟨x0, x1, x2, x3, x4⟩, -⟩ := box5 HSE.out.bx
              obtain ⟨hb8, ho8, hae, e0, -⟩ := HdsAt.get HSE.out.sd.hd i hlt
              obtain ⟨rfl, rfl⟩ : hb9 = hb8 ∧ ho9 = ho8 := by injection hae with he; injection he with e1 e2; exact ⟨e1, e2⟩
              rw [HTG.out] at e0
              have m1 : hb9 < E.heap.size := World.block_lt_of_cell? _ _ e0
              have m2 : ¬ hb9 = E.heap.size := by omega
              obtain ⟨m3, m4, -⟩ := box_lt HSE.out.bx
              have HTL := Lib.hid HAK.out.len
              go_wp2_with (first | (refine put_one inE tg (w := E) rfl (.tmp 80) (.tmp 87) rfl HOE.out HBE.out.size (by have := HTL.out; omega) _ rfl rfl _ rfl rfl ?_; intro v8 w8 ho8' hg8; obtain ⟨xa, xc, rfl, -, -⟩ := OwnE.at inE ho8'; have HO8 := Lib.hid ho8'; have HG8 := Lib.hid hg8; clear ho8' hg8))
              go_roundg (s.hd.length - (i + 1))
              case measure => omega
              case rel =>
                have ho9 := HO8.out
                rw [show (tags ++ [tg]).length = tags.length + 1 from List.length_append] at ho9
                refine ⟨i + 1, tags ++ [tg], ackS t tg, xa, xc, 0, 0, _, _, _, _, _, _, by omega, rfl, by simp, by rw [List.length_append]; rfl, HST.out, ho9, OwnE.grown HBE.out HOE.out HG8.out HBE.out.size, ⟨grown_own HG8.out HOE.out HXE.out.bx (by decide), sd_keep_hi _ _ _ _ _ _ HXE.out.sd HHI.out fun b hb hlt => HG8.out.block b hlt fun e => ?_⟩⟩
                have := (World.ownsRow.lt HOWN.out b e.symm).2
                omega
            case neg =>
              have j3 : ¬ (i : Int) < 8 := by omega
              go_wp2_with fail
              go_meet
              case rel => exact ⟨i, tags, t, ta, tc, _, _, _, _, _, _, hi, rfl, HAK.out, HOWN.out, HB.out, HT10.out⟩
          case neg =>
            have j1 : ¬ (i : Int) < (s.hd.length : Int) := by omega
            go_wp2_with fail
            go_meet
            case rel => exact ⟨i, tags, t, ta, tc, _, _, _, _, _, _, hi, rfl, HAK.out, HOWN.out, HB.out, HT10.out⟩
      case rest =>
      obtain ⟨i, tags, t, ta, tc, ra4, rc4, ha4, hc4, ma4, mc4, hi, rfl, hak, hown, hb, hx10⟩ := hcut
      have hs48 := HMS.out.2.2.1
      have HAK := Lib.hid hak
      have HTL : Hid (tags.length ≤ 100) := Lib.hid (by
        have := hak.len
        omega)
      obtain ⟨ta', tc', he', hins, hnn⟩ := OwnE.at inE hown
      obtain ⟨rfl, -, rfl⟩ := Value.slice.inj he'
      have HS := Lib.hid (HXV.out.below _ _ _ _ _ _ hb)
      have HT10 := Lib.hid hx10
      have HINS := Lib.hid (And.intro hins hnn)
      have HB := Lib.hid (HBV.out.trans (hb.mono HBV.out.size))
      clear hak hown hb hx10 hins hnn he' HX10 HBA HXV HBV
      generalize wc = V3 at *
      obtain ⟨⟨x0, x1, x2, x3, x4⟩, -⟩ := box5 HS.out.bx
      have hdo := bdo_any s ra rc ha hc ma mc none 0 [] (by decide) ta tc tags V3 HS.out.sd (RowsAt.nil _ _ _ _ _ (by simp [maxLen])) (fun _ => rfl) HINS.out.1 HINS.out.2
      cases tags with
      | nil =>
        rw [ak_none] at hdo
        go_wp2_with (first | (go_at_call 55; refine hdo.mono ?_; clear hdo; rintro e w7 ⟨ra5, rc5, ha5, hc5, ma5, mc5, rfl, hs7, hb7⟩; have HB7 := Lib.hid (low_al (HB.out.trans (hb7.mono HB.out.size)) (Nat.le_refl _) (.cells #[.bool (doS s [] []).fr, .int .i64 (doS s [] []).nx, .slice ra5 (doS s [] []).rd.length rc5, .slice ha5 (doS s [] []).hd.length hc5, .slice ma5 (doS s [] []).ms.length mc5] 26)); clear hs7 hb7) | (go_at_call 47; refine (HT.out _).mono ?_; rintro e w9 ⟨rfl, hb9⟩; have HB9 := Lib.hid (HB7.out.trans (hb9.mono HB7.out.size)); clear hb9))
        go_ret
        exact ⟨rfl, HB9.out⟩
      | cons x rest =>
        obtain ⟨e1, e2⟩ := ak_do HAK.out (by simp)
        rw [e1, e2] at hdo
        obtain ⟨f1, f2⟩ := ak_twice HAK.out
        have HTW := Lib.hid (And.intro f1 f2)
        clear e1 e2 f1 f2
        have n1 : (((rest.length : Int) + 1 == 0)) = false := by rw [beq_eq_false_iff_ne]; omega
        go_upto_region 24 with (go_at_call 55; refine hdo.mono ?_; clear hdo; rintro e w7 ⟨ra5, rc5, ha5, hc5, ma5, mc5, rfl, hs7, hb7⟩; have HS7 := Lib.hid hs7; have HB7 := Lib.hid hb7; clear hs7 hb7)
        have hbn : Below V3.heap.size V3 (w7.alloc (.cells #[.bool t.fr, .int .i64 t.nx, .slice ra5 t.rd.length rc5, .slice ha5 t.hd.length hc5, .slice ma5 t.ms.length mc5] 26)) := low_al HB7.out (Nat.le_refl _) _
        have HS4 := Lib.hid (HS.out.below _ _ _ _ _ _ hbn)
        have HT4 := Lib.hid (HT10.out.below _ _ _ _ _ _ hbn)
        have HA4 := Lib.hid (show Bx (w7.alloc (.cells #[.bool t.fr, .int .i64 t.nx, .slice ra5 t.rd.length rc5, .slice ha5 t.hd.length hc5, .slice ma5 t.ms.length mc5] 26)) w7.heap.size ra5 rc5 ha5 hc5 ma5 mc5 t from ⟨heap_alloc_new _ _, sd_al _ _ _ _ _ _ HS7.out _⟩)
        have HI4 := Lib.hid (And.intro (HINS.out.1.below hbn) HINS.out.2)
        have HB4 := Lib.hid (HB.out.trans (hbn.mono HB.out.size))
        clear hbn HS HT10 HINS HB HB7 HS7 x0 x1 x2 x3 x4
        generalize w7.alloc (.cells #[.bool t.fr, .int .i64 t.nx, .slice ra5 t.rd.length rc5, .slice ha5 t.hd.length hc5, .slice ma5 t.ms.length mc5] 26) = V4 at *
        generalize w7.heap.size = ga at *
        go_cut [16, 17] from 103 to 115 (fun v16 v17 wx => ∃ (gp : Nat) (ra8 : Option Addr) (rc8 : Nat) (ha8 : Option Addr) (hc8 : Nat) (ma8 : Option Addr) (mc8 : Nat), v16 = .pointer (some ⟨gp, 0, none⟩) ∧ v17 = .int .i64 3 ∧ Bx wx gp ra8 rc8 ha8 hc8 ma8 mc8 s ∧ Below V4.heap.size V4 wx)
        case first =>
          have HINS := HI4
          have HDO : Hid (∀ wx ta9 tc9 (n : Nat), Below V4.heap.size V4 wx → InsAt wx ta9 tc9 ((x :: rest) ++ [x]) → (ta9 = none → tc9 = 0) → n = ((x :: rest) ++ [x]).length → Calls Try.prog 55 #[.agg #[.bool s.fr, .int .i64 s.nx, .slice ra s.rd.length rc, .slice ha s.hd.length hc, .slice ma s.ms.length mc], .slice none 0 0, .slice ta9 n tc9] wx (ShR s 3 wx)) := Lib.hid (fun wx ta9 tc9 n h1 h2 h3 hn => by
            subst hn
            have h := bdo_any s ra rc ha hc ma mc none 0 [] (by decide) ta9 tc9 ((x :: rest) ++ [x]) wx (HS4.out.sd.below _ _ _ _ _ _ h1) (RowsAt.nil _ _ _ _ _ (by simp [maxLen])) (fun _ => rfl) h2 h3
            rwa [HTW.out.1, HTW.out.2] at h)
          obtain ⟨b0, o0, rfl, xc⟩ := InsAt.get HI4.out.1 0 (by simp)
          rw [Nat.add_zero] at xc
          have xc : V4.cell? ⟨b0, o0, none⟩ = some (.int .i64 x) := xc
          have HSK := Lib.hid (fun (wz : World) (k : Below V4.heap.size V4 wz) => And.intro (And.intro (box5 (box_bl HS4.out.bx k)).1 ((k.cell (p := ⟨b0, o0, none⟩) (lt_of_cell xc)).trans xc)) k)
          have hSS := HSK.out _ (Below.refl _ _)
          have HDR : Hid (Below V4.heap.size V4 V4.drew) := Lib.hid (Below.refl _ _).drew
          have n2 : (0 : Int) < (rest.length : Int) + 1 := by omega
          have n3 : 0 < rest.length + 1 := by omega
          clear xc
          go_region_held3 (fun wx => ((wx.cell? ⟨g, 0, none⟩ = some (.bool s.fr) ∧ wx.cell? ⟨g, 1, none⟩ = some (.int .i64 s.nx) ∧ wx.cell? ⟨g, 2, none⟩ = some (.slice ra s.rd.length rc) ∧ wx.cell? ⟨g, 3, none⟩ = some (.slice ha s.hd.length hc) ∧ wx.cell? ⟨g, 4, none⟩ = some (.slice ma s.ms.length mc)) ∧ wx.cell? ⟨b0, o0, none⟩ = some (.int .i64 x)) ∧ Below V4.heap.size V4 wx)
            (first | (refine HSK.out _ ?_; (repeat (first | with_reducible exact Below.refl _ _ | with_reducible exact HDR.out | with_reducible exact HB10.out | with_reducible exact HB9.out | with_reducible exact HB8.out | (with_reducible refine Below.drew ?_) | (with_reducible refine low_al ?_ (Nat.le_refl _) _))); done) | (refine HSK.out _ HZF.out.1))
            (first
              | (refine step_put_rows inE (base := V4.heap.size) (l := []) (m := x :: rest) rfl (.tmp 105) (.tmp 106) rfl ?_ ?_ rfl _ rfl rfl ?_ ?_ ?_ ?_; (focus exact own_lit_of (by (repeat (first | with_reducible exact HXK.out | with_reducible exact HZK.out | with_reducible exact blkn _ _ _ (by first | rfl | (simp; done) | (simp; omega) | (show _ = (World.alloc _ _).heap.size; simp; done) | (show _ = (World.alloc _ _).heap.size; simp; omega)) | with_reducible exact blkd _ _ _ (by first | rfl | (simp; done) | (simp; omega) | (show _ = (World.alloc _ _).heap.size; simp; done) | (show _ = (World.alloc _ _).heap.size; simp; omega)) | (with_reducible refine box_al ?_ _) | (with_reducible refine box_ald ?_ _))); first | done | fail) (by first | exact Nat.le_refl _ | (simp; done) | omega)); (focus exact (by assumption : _ ∧ Below _ _ _).2.size); (focus exact HINS.out.1.below (by (repeat (first | with_reducible exact Below.refl _ _ | with_reducible exact HDR.out | with_reducible exact HB10.out | with_reducible exact HB9.out | with_reducible exact HB8.out | (with_reducible refine Below.drew ?_) | (with_reducible refine low_al ?_ (Nat.le_refl _) _))); first | done | fail)); (focus (have := HTL.out; rw [List.length_nil]; omega)); (focus exact HINS.out.2); intro v8 w8 ho8 hg8; have hbx := (by assumption : _ ∧ Below _ _ _).2; have HB8 : Hid (Below V4.heap.size V4 w8) := Lib.hid (grown_below hbx hg8 (by first | exact Nat.le_refl _ | exact Nat.le_succ _ | exact Nat.le_succ_of_le (Nat.le_succ _) | exact Nat.le_add_right _ _ | (simp; done) | omega)); rw [List.nil_append] at ho8; have HO8 := Lib.hid ho8; (first | (have HXK : Hid (w8.heap[V4.heap.size]? = some (.cells #[.int .i64 x] 3 (0, 0))) := Lib.hid (grown_lit (o0 := .cells #[] 3) hg8 (by (repeat (first | with_reducible exact HXK.out | with_reducible exact HZK.out | with_reducible exact blkn _ _ _ (by first | rfl | (simp; done) | (simp; omega) | (show _ = (World.alloc _ _).heap.size; simp; done) | (show _ = (World.alloc _ _).heap.size; simp; omega)) | with_reducible exact blkd _ _ _ (by first | rfl | (simp; done) | (simp; omega) | (show _ = (World.alloc _ _).heap.size; simp; done) | (show _ = (World.alloc _ _).heap.size; simp; omega)) | (with_reducible refine box_al ?_ _) | (with_reducible refine box_ald ?_ _))); first | done | fail) (by (repeat (first | with_reducible exact HXK.out | with_reducible exact HZK.out | with_reducible exact blkn _ _ _ (by first | rfl | (simp; done) | (simp; omega) | (show _ = (World.alloc _ _).heap.size; simp; done) | (show _ = (World.alloc _ _).heap.size; simp; omega)) | with_reducible exact blkd _ _ _ (by first | rfl | (simp; done) | (simp; omega) | (show _ = (World.alloc _ _).heap.size; simp; done) | (show _ = (World.alloc _ _).heap.size; simp; omega)) | (with_reducible refine box_al ?_ _) | (with_reducible refine box_ald ?_ _))); first | done | fail) (by simp))) | (have HXK : Hid (w8.heap[V4.heap.size + 1]? = some (.cells #[.int .i64 x] 3 (0, 0))) := Lib.hid (grown_lit (o0 := .cells #[] 3) hg8 (by (repeat (first | with_reducible exact HXK.out | with_reducible exact HZK.out | with_reducible exact blkn _ _ _ (by first | rfl | (simp; done) | (simp; omega) | (show _ = (World.alloc _ _).heap.size; simp; done) | (show _ = (World.alloc _ _).heap.size; simp; omega)) | with_reducible exact blkd _ _ _ (by first | rfl | (simp; done) | (simp; omega) | (show _ = (World.alloc _ _).heap.size; simp; done) | (show _ = (World.alloc _ _).heap.size; simp; omega)) | (with_reducible refine box_al ?_ _) | (with_reducible refine box_ald ?_ _))); first | done | fail) (by (repeat (first | with_reducible exact HXK.out | with_reducible exact HZK.out | with_reducible exact blkn _ _ _ (by first | rfl | (simp; done) | (simp; omega) | (show _ = (World.alloc _ _).heap.size; simp; done) | (show _ = (World.alloc _ _).heap.size; simp; omega)) | with_reducible exact blkd _ _ _ (by first | rfl | (simp; done) | (simp; omega) | (show _ = (World.alloc _ _).heap.size; simp; done) | (show _ = (World.alloc _ _).heap.size; simp; omega)) | (with_reducible refine box_al ?_ _) | (with_reducible refine box_ald ?_ _))); first | done | fail) (by simp))) | (have HXK : Hid (w8.heap[V4.heap.size + 2]? = some (.cells #[.int .i64 x] 3 (0, 0))) := Lib.hid (grown_lit (o0 := .cells #[] 3) hg8 (by (repeat (first | with_reducible exact HXK.out | with_reducible exact HZK.out | with_reducible exact blkn _ _ _ (by first | rfl | (simp; done) | (simp; omega) | (show _ = (World.alloc _ _).heap.size; simp; done) | (show _ = (World.alloc _ _).heap.size; simp; omega)) | with_reducible exact blkd _ _ _ (by first | rfl | (simp; done) | (simp; omega) | (show _ = (World.alloc _ _).heap.size; simp; done) | (show _ = (World.alloc _ _).heap.size; simp; omega)) | (with_reducible refine box_al ?_ _) | (with_reducible refine box_ald ?_ _))); first | done | fail) (by (repeat (first | with_reducible exact HXK.out | with_reducible exact HZK.out | with_reducible exact blkn _ _ _ (by first | rfl | (simp; done) | (simp; omega) | (show _ = (World.alloc _ _).heap.size; simp; done) | (show _ = (World.alloc _ _).heap.size; simp; omega)) | with_reducible exact blkd _ _ _ (by first | rfl | (simp; done) | (simp; omega) | (show _ = (World.alloc _ _).heap.size; simp; done) | (show _ = (World.alloc _ _).heap.size; simp; omega)) | (with_reducible refine box_al ?_ _) | (with_reducible refine box_ald ?_ _))); first | done | fail) (by simp))) | skip); (first | (have HZK : Hid (w8.heap[V4.heap.size]? = some (.cells #[.bool false, .int .i64 0, .slice none 0 0, .slice none 0 0, .slice none 0 0] 26 (0, 0))) := Lib.hid (grown_lit (o0 := .cells #[] 3) hg8 (by (repeat (first | with_reducible exact HXK.out | with_reducible exact HZK.out | with_reducible exact blkn _ _ _ (by first | rfl | (simp; done) | (simp; omega) | (show _ = (World.alloc _ _).heap.size; simp; done) | (show _ = (World.alloc _ _).heap.size; simp; omega)) | with_reducible exact blkd _ _ _ (by first | rfl | (simp; done) | (simp; omega) | (show _ = (World.alloc _ _).heap.size; simp; done) | (show _ = (World.alloc _ _).heap.size; simp; omega)) | (with_reducible refine box_al ?_ _) | (with_reducible refine box_ald ?_ _))); first | done | fail) (by (repeat (first | with_reducible exact HXK.out | with_reducible exact HZK.out | with_reducible exact blkn _ _ _ (by first | rfl | (simp; done) | (simp; omega) | (show _ = (World.alloc _ _).heap.size; simp; done) | (show _ = (World.alloc _ _).heap.size; simp; omega)) | with_reducible exact blkd _ _ _ (by first | rfl | (simp; done) | (simp; omega) | (show _ = (World.alloc _ _).heap.size; simp; done) | (show _ = (World.alloc _ _).heap.size; simp; omega)) | (with_reducible refine box_al ?_ _) | (with_reducible refine box_ald ?_ _))); first | done | fail) (by simp))) | (have HZK : Hid (w8.heap[V4.heap.size + 1]? = some (.cells #[.bool false, .int .i64 0, .slice none 0 0, .slice none 0 0, .slice none 0 0] 26 (0, 0))) := Lib.hid (grown_lit (o0 := .cells #[] 3) hg8 (by (repeat (first | with_reducible exact HXK.out | with_reducible exact HZK.out | with_reducible exact blkn _ _ _ (by first | rfl | (simp; done) | (simp; omega) | (show _ = (World.alloc _ _).heap.size; simp; done) | (show _ = (World.alloc _ _).heap.size; simp; omega)) | with_reducible exact blkd _ _ _ (by first | rfl | (simp; done) | (simp; omega) | (show _ = (World.alloc _ _).heap.size; simp; done) | (show _ = (World.alloc _ _).heap.size; simp; omega)) | (with_reducible refine box_al ?_ _) | (with_reducible refine box_ald ?_ _))); first | done | fail) (by (repeat (first | with_reducible exact HXK.out | with_reducible exact HZK.out | with_reducible exact blkn _ _ _ (by first | rfl | (simp; done) | (simp; omega) | (show _ = (World.alloc _ _).heap.size; simp; done) | (show _ = (World.alloc _ _).heap.size; simp; omega)) | with_reducible exact blkd _ _ _ (by first | rfl | (simp; done) | (simp; omega) | (show _ = (World.alloc _ _).heap.size; simp; done) | (show _ = (World.alloc _ _).heap.size; simp; omega)) | (with_reducible refine box_al ?_ _) | (with_reducible refine box_ald ?_ _))); first | done | fail) (by simp))) | (have HZK : Hid (w8.heap[V4.heap.size + 2]? = some (.cells #[.bool false, .int .i64 0, .slice none 0 0, .slice none 0 0, .slice none 0 0] 26 (0, 0))) := Lib.hid (grown_lit (o0 := .cells #[] 3) hg8 (by (repeat (first | with_reducible exact HXK.out | with_reducible exact HZK.out | with_reducible exact blkn _ _ _ (by first | rfl | (simp; done) | (simp; omega) | (show _ = (World.alloc _ _).heap.size; simp; done) | (show _ = (World.alloc _ _).heap.size; simp; omega)) | with_reducible exact blkd _ _ _ (by first | rfl | (simp; done) | (simp; omega) | (show _ = (World.alloc _ _).heap.size; simp; done) | (show _ = (World.alloc _ _).heap.size; simp; omega)) | (with_reducible refine box_al ?_ _) | (with_reducible refine box_ald ?_ _))); first | done | fail) (by (repeat (first | with_reducible exact HXK.out | with_reducible exact HZK.out | with_reducible exact blkn _ _ _ (by first | rfl | (simp; done) | (simp; omega) | (show _ = (World.alloc _ _).heap.size; simp; done) | (show _ = (World.alloc _ _).heap.size; simp; omega)) | with_reducible exact blkd _ _ _ (by first | rfl | (simp; done) | (simp; omega) | (show _ = (World.alloc _ _).heap.size; simp; done) | (show _ = (World.alloc _ _).heap.size; simp; omega)) | (with_reducible refine box_al ?_ _) | (with_reducible refine box_ald ?_ _))); first | done | fail) (by simp))) | skip); clear ho8 hg8 hbx)
              | (refine step_put_rows inE (base := V4.heap.size) (l := x :: rest) (m := [x]) rfl (.tmp 107) (.tmp 111) rfl ?_ ?_ rfl _ rfl rfl ?_ ?_ ?_ ?_; (focus exact HO8.out.below1 (by (repeat (first | with_reducible exact Below.refl _ _ | (with_reducible refine Below.drew ?_) | (with_reducible refine low_al ?_ (Nat.le_refl _) _))); first | done | fail)); (focus exact (by assumption : _ ∧ Below _ _ _).2.size); (focus exact ins_one (by (repeat (first | with_reducible exact HXK.out | with_reducible exact HZK.out | with_reducible exact blkn _ _ _ (by first | rfl | (simp; done) | (simp; omega) | (show _ = (World.alloc _ _).heap.size; simp; done) | (show _ = (World.alloc _ _).heap.size; simp; omega)) | with_reducible exact blkd _ _ _ (by first | rfl | (simp; done) | (simp; omega) | (show _ = (World.alloc _ _).heap.size; simp; done) | (show _ = (World.alloc _ _).heap.size; simp; omega)) | (with_reducible refine box_al ?_ _) | (with_reducible refine box_ald ?_ _))); first | done | fail)); (focus (have := HTL.out; show (x :: rest).length + 1 ≤ 1000000; omega)); (focus exact (fun e => by cases e)); intro v9 w9 ho9 hg9; have hbx := (by assumption : _ ∧ Below _ _ _).2; have HB9 : Hid (Below V4.heap.size V4 w9) := Lib.hid (OwnE.grown hbx (HO8.out.below1 (by (repeat (first | with_reducible exact Below.refl _ _ | (with_reducible refine Below.drew ?_) | (with_reducible refine low_al ?_ (Nat.le_refl _) _))); first | done | fail)) hg9 hbx.size); obtain ⟨ta9, tc9, rfl, hat9, hnn9⟩ := OwnE.at inE ho9; have HAT9 := Lib.hid (And.intro hat9 hnn9); (first | (have HZ9 : Hid (w9.heap[V4.heap.size]? = some (.cells #[.bool false, .int .i64 0, .slice none 0 0, .slice none 0 0, .slice none 0 0] 26 (0, 0))) := Lib.hid (grown_own hg9 (HO8.out.below1 (by (repeat (first | with_reducible exact Below.refl _ _ | (with_reducible refine Below.drew ?_) | (with_reducible refine low_al ?_ (Nat.le_refl _) _))); first | done | fail)) (by (repeat (first | with_reducible exact HXK.out | with_reducible exact HZK.out | with_reducible exact blkn _ _ _ (by first | rfl | (simp; done) | (simp; omega) | (show _ = (World.alloc _ _).heap.size; simp; done) | (show _ = (World.alloc _ _).heap.size; simp; omega)) | with_reducible exact blkd _ _ _ (by first | rfl | (simp; done) | (simp; omega) | (show _ = (World.alloc _ _).heap.size; simp; done) | (show _ = (World.alloc _ _).heap.size; simp; omega)) | (with_reducible refine box_al ?_ _) | (with_reducible refine box_ald ?_ _))); first | done | fail) (by decide))) | (have HZ9 : Hid (w9.heap[V4.heap.size + 1]? = some (.cells #[.bool false, .int .i64 0, .slice none 0 0, .slice none 0 0, .slice none 0 0] 26 (0, 0))) := Lib.hid (grown_own hg9 (HO8.out.below1 (by (repeat (first | with_reducible exact Below.refl _ _ | (with_reducible refine Below.drew ?_) | (with_reducible refine low_al ?_ (Nat.le_refl _) _))); first | done | fail)) (by (repeat (first | with_reducible exact HXK.out | with_reducible exact HZK.out | with_reducible exact blkn _ _ _ (by first | rfl | (simp; done) | (simp; omega) | (show _ = (World.alloc _ _).heap.size; simp; done) | (show _ = (World.alloc _ _).heap.size; simp; omega)) | with_reducible exact blkd _ _ _ (by first | rfl | (simp; done) | (simp; omega) | (show _ = (World.alloc _ _).heap.size; simp; done) | (show _ = (World.alloc _ _).heap.size; simp; omega)) | (with_reducible refine box_al ?_ _) | (with_reducible refine box_ald ?_ _))); first | done | fail) (by decide))) | (have HZ9 : Hid (w9.heap[V4.heap.size + 2]? = some (.cells #[.bool false, .int .i64 0, .slice none 0 0, .slice none 0 0, .slice none 0 0] 26 (0, 0))) := Lib.hid (grown_own hg9 (HO8.out.below1 (by (repeat (first | with_reducible exact Below.refl _ _ | (with_reducible refine Below.drew ?_) | (with_reducible refine low_al ?_ (Nat.le_refl _) _))); first | done | fail)) (by (repeat (first | with_reducible exact HXK.out | with_reducible exact HZK.out | with_reducible exact blkn _ _ _ (by first | rfl | (simp; done) | (simp; omega) | (show _ = (World.alloc _ _).heap.size; simp; done) | (show _ = (World.alloc _ _).heap.size; simp; omega)) | with_reducible exact blkd _ _ _ (by first | rfl | (simp; done) | (simp; omega) | (show _ = (World.alloc _ _).heap.size; simp; done) | (show _ = (World.alloc _ _).heap.size; simp; omega)) | (with_reducible refine box_al ?_ _) | (with_reducible refine box_ald ?_ _))); first | done | fail) (by decide))) | (have HZ9 : Hid (w9.heap[w8.heap.size]? = some (.cells #[.bool false, .int .i64 0, .slice none 0 0, .slice none 0 0, .slice none 0 0] 26 (0, 0))) := Lib.hid (grown_own hg9 (HO8.out.below1 (by (repeat (first | with_reducible exact Below.refl _ _ | (with_reducible refine Below.drew ?_) | (with_reducible refine low_al ?_ (Nat.le_refl _) _))); first | done | fail)) (by (repeat (first | with_reducible exact HXK.out | with_reducible exact HZK.out | with_reducible exact blkn _ _ _ (by first | rfl | (simp; done) | (simp; omega) | (show _ = (World.alloc _ _).heap.size; simp; done) | (show _ = (World.alloc _ _).heap.size; simp; omega)) | with_reducible exact blkd _ _ _ (by first | rfl | (simp; done) | (simp; omega) | (show _ = (World.alloc _ _).heap.size; simp; done) | (show _ = (World.alloc _ _).heap.size; simp; omega)) | (with_reducible refine box_al ?_ _) | (with_reducible refine box_ald ?_ _))); first | done | fail) (by decide))) | (have HZ9 : Hid (w9.heap[w8.heap.size + 1]? = some (.cells #[.bool false, .int .i64 0, .slice none 0 0, .slice none 0 0, .slice none 0 0] 26 (0, 0))) := Lib.hid (grown_own hg9 (HO8.out.below1 (by (repeat (first | with_reducible exact Below.refl _ _ | (with_reducible refine Below.drew ?_) | (with_reducible refine low_al ?_ (Nat.le_refl _) _))); first | done | fail)) (by (repeat (first | with_reducible exact HXK.out | with_reducible exact HZK.out | with_reducible exact blkn _ _ _ (by first | rfl | (simp; done) | (simp; omega) | (show _ = (World.alloc _ _).heap.size; simp; done) | (show _ = (World.alloc _ _).heap.size; simp; omega)) | with_reducible exact blkd _ _ _ (by first | rfl | (simp; done) | (simp; omega) | (show _ = (World.alloc _ _).heap.size; simp; done) | (show _ = (World.alloc _ _).heap.size; simp; omega)) | (with_reducible refine box_al ?_ _) | (with_reducible refine box_ald ?_ _))); first | done | fail) (by decide))) | skip); clear ho9 hg9 hat9 hnn9 hbx)
              | (go_at_call 55; have hbx := (by assumption : _ ∧ Below _ _ _).2; refine (HDO.out _ ta9 tc9 _ hbx (HAT9.out.1.below (by (repeat (first | with_reducible exact Below.refl _ _ | (with_reducible refine Below.drew ?_) | (with_reducible refine low_al ?_ (Nat.le_refl _) _))); first | done | fail)) HAT9.out.2 (by simp)).mono ?_; rintro e w10 ⟨ra8, rc8, ha8, hc8, ma8, mc8, rfl, hs10, hb10⟩; have HB10 : Hid (Below V4.heap.size V4 w10) := Lib.hid (hbx.trans (hb10.mono hbx.size)); (first | (have hz10 : w10.heap[V4.heap.size]? = some (.cells #[.bool false, .int .i64 0, .slice none 0 0, .slice none 0 0, .slice none 0 0] 26 (0, 0)) := box_bl (by (repeat (first | with_reducible exact HZ9.out | with_reducible exact blkn _ _ _ (by first | rfl | (simp; done) | (simp; omega) | (show _ = (World.alloc _ _).heap.size; simp; done) | (show _ = (World.alloc _ _).heap.size; simp; omega)) | with_reducible exact blkd _ _ _ (by first | rfl | (simp; done) | (simp; omega) | (show _ = (World.alloc _ _).heap.size; simp; done) | (show _ = (World.alloc _ _).heap.size; simp; omega)) | (with_reducible refine box_al ?_ _) | (with_reducible refine box_ald ?_ _))); first | done | fail) hb10; obtain ⟨⟨u0, u1, u2, u3, u4⟩, r0, r1, r2, r3, r4⟩ := box5 hz10; have HZF := Lib.hid (z_store _ _ _ _ _ _ HB10.out (by first | exact Nat.le_refl _ | (simp; done) | exact HB8.out.size | exact HB9.out.size | (have := HB8.out.size; omega)) hz10 hs10 ⟨_, _, _, _, _, _, _, _, _, _, _, rfl⟩); clear hz10) | (have hz10 : w10.heap[V4.heap.size + 1]? = some (.cells #[.bool false, .int .i64 0, .slice none 0 0, .slice none 0 0, .slice none 0 0] 26 (0, 0)) := box_bl (by (repeat (first | with_reducible exact HZ9.out | with_reducible exact blkn _ _ _ (by first | rfl | (simp; done) | (simp; omega) | (show _ = (World.alloc _ _).heap.size; simp; done) | (show _ = (World.alloc _ _).heap.size; simp; omega)) | with_reducible exact blkd _ _ _ (by first | rfl | (simp; done) | (simp; omega) | (show _ = (World.alloc _ _).heap.size; simp; done) | (show _ = (World.alloc _ _).heap.size; simp; omega)) | (with_reducible refine box_al ?_ _) | (with_reducible refine box_ald ?_ _))); first | done | fail) hb10; obtain ⟨⟨u0, u1, u2, u3, u4⟩, r0, r1, r2, r3, r4⟩ := box5 hz10; have HZF := Lib.hid (z_store _ _ _ _ _ _ HB10.out (by first | exact Nat.le_refl _ | (simp; done) | exact HB8.out.size | exact HB9.out.size | (have := HB8.out.size; omega)) hz10 hs10 ⟨_, _, _, _, _, _, _, _, _, _, _, rfl⟩); clear hz10) | (have hz10 : w10.heap[V4.heap.size + 2]? = some (.cells #[.bool false, .int .i64 0, .slice none 0 0, .slice none 0 0, .slice none 0 0] 26 (0, 0)) := box_bl (by (repeat (first | with_reducible exact HZ9.out | with_reducible exact blkn _ _ _ (by first | rfl | (simp; done) | (simp; omega) | (show _ = (World.alloc _ _).heap.size; simp; done) | (show _ = (World.alloc _ _).heap.size; simp; omega)) | with_reducible exact blkd _ _ _ (by first | rfl | (simp; done) | (simp; omega) | (show _ = (World.alloc _ _).heap.size; simp; done) | (show _ = (World.alloc _ _).heap.size; simp; omega)) | (with_reducible refine box_al ?_ _) | (with_reducible refine box_ald ?_ _))); first | done | fail) hb10; obtain ⟨⟨u0, u1, u2, u3, u4⟩, r0, r1, r2, r3, r4⟩ := box5 hz10; have HZF := Lib.hid (z_store _ _ _ _ _ _ HB10.out (by first | exact Nat.le_refl _ | (simp; done) | exact HB8.out.size | exact HB9.out.size | (have := HB8.out.size; omega)) hz10 hs10 ⟨_, _, _, _, _, _, _, _, _, _, _, rfl⟩); clear hz10) | (have hz10 : w10.heap[w8.heap.size]? = some (.cells #[.bool false, .int .i64 0, .slice none 0 0, .slice none 0 0, .slice none 0 0] 26 (0, 0)) := box_bl (by (repeat (first | with_reducible exact HZ9.out | with_reducible exact blkn _ _ _ (by first | rfl | (simp; done) | (simp; omega) | (show _ = (World.alloc _ _).heap.size; simp; done) | (show _ = (World.alloc _ _).heap.size; simp; omega)) | with_reducible exact blkd _ _ _ (by first | rfl | (simp; done) | (simp; omega) | (show _ = (World.alloc _ _).heap.size; simp; done) | (show _ = (World.alloc _ _).heap.size; simp; omega)) | (with_reducible refine box_al ?_ _) | (with_reducible refine box_ald ?_ _))); first | done | fail) hb10; obtain ⟨⟨u0, u1, u2, u3, u4⟩, r0, r1, r2, r3, r4⟩ := box5 hz10; have HZF := Lib.hid (z_store _ _ _ _ _ _ HB10.out (by first | exact Nat.le_refl _ | (simp; done) | exact HB8.out.size | exact HB9.out.size | (have := HB8.out.size; omega)) hz10 hs10 ⟨_, _, _, _, _, _, _, _, _, _, _, rfl⟩); clear hz10) | (have hz10 : w10.heap[w8.heap.size + 1]? = some (.cells #[.bool false, .int .i64 0, .slice none 0 0, .slice none 0 0, .slice none 0 0] 26 (0, 0)) := box_bl (by (repeat (first | with_reducible exact HZ9.out | with_reducible exact blkn _ _ _ (by first | rfl | (simp; done) | (simp; omega) | (show _ = (World.alloc _ _).heap.size; simp; done) | (show _ = (World.alloc _ _).heap.size; simp; omega)) | with_reducible exact blkd _ _ _ (by first | rfl | (simp; done) | (simp; omega) | (show _ = (World.alloc _ _).heap.size; simp; done) | (show _ = (World.alloc _ _).heap.size; simp; omega)) | (with_reducible refine box_al ?_ _) | (with_reducible refine box_ald ?_ _))); first | done | fail) hb10; obtain ⟨⟨u0, u1, u2, u3, u4⟩, r0, r1, r2, r3, r4⟩ := box5 hz10; have HZF := Lib.hid (z_store _ _ _ _ _ _ HB10.out (by first | exact Nat.le_refl _ | (simp; done) | exact HB8.out.size | exact HB9.out.size | (have := HB8.out.size; omega)) hz10 hs10 ⟨_, _, _, _, _, _, _, _, _, _, _, rfl⟩); clear hz10) | (have hz10 : w10.heap[w9.heap.size]? = some (.cells #[.bool false, .int .i64 0, .slice none 0 0, .slice none 0 0, .slice none 0 0] 26 (0, 0)) := box_bl (by (repeat (first | with_reducible exact HZ9.out | with_reducible exact blkn _ _ _ (by first | rfl | (simp; done) | (simp; omega) | (show _ = (World.alloc _ _).heap.size; simp; done) | (show _ = (World.alloc _ _).heap.size; simp; omega)) | with_reducible exact blkd _ _ _ (by first | rfl | (simp; done) | (simp; omega) | (show _ = (World.alloc _ _).heap.size; simp; done) | (show _ = (World.alloc _ _).heap.size; simp; omega)) | (with_reducible refine box_al ?_ _) | (with_reducible refine box_ald ?_ _))); first | done | fail) hb10; obtain ⟨⟨u0, u1, u2, u3, u4⟩, r0, r1, r2, r3, r4⟩ := box5 hz10; have HZF := Lib.hid (z_store _ _ _ _ _ _ HB10.out (by first | exact Nat.le_refl _ | (simp; done) | exact HB8.out.size | exact HB9.out.size | (have := HB8.out.size; omega)) hz10 hs10 ⟨_, _, _, _, _, _, _, _, _, _, _, rfl⟩); clear hz10) | skip); have HS10 := Lib.hid hs10; clear hbx hb10 hs10; dsimp only)
              | fail)
          all_goals
            go_wp2_with fail
            go_meet
            case rel => first | exact ⟨_, _, _, _, _, _, _, rfl, rfl, HZF.out.2, HZF.out.1⟩ | exact ⟨_, _, _, _, _, _, _, rfl, rfl, ⟨heap_alloc_new w10 _, sd_al _ _ _ _ _ _ HS10.out _⟩, low_al HB10.out (Nat.le_refl _) _⟩
        case rest =>
        obtain ⟨gp, ra8, rc8, ha8, hc8, ma8, mc8, rfl, rfl, hx16, hb16⟩ := hcut
        have HX16 := Lib.hid hx16
        have HS5 := Lib.hid (HS4.out.below _ _ _ _ _ _ hb16)
        have HT5 := Lib.hid (HT4.out.below _ _ _ _ _ _ hb16)
        have HA5 := Lib.hid (HA4.out.below _ _ _ _ _ _ hb16)
        have HB5 := Lib.hid (HB4.out.trans (hb16.mono HB4.out.size))
        clear hx16 hb16 HS4 HT4 HA4 HB4 HI4 HTW
        generalize wc = V5 at *
        go_wp2_with (first
          | (go_at_call 47; refine (HT.out V5).mono ?_; rintro e w9 ⟨rfl, hb9⟩; have HB9 := Lib.hid hb9; obtain ⟨⟨x0, x1, x2, x3, x4⟩, -⟩ := box5 (HA5.out.below _ _ _ _ _ _ hb9).bx; obtain ⟨⟨y0, y1, y2, y3, y4⟩, -⟩ := box5 (HT5.out.below _ _ _ _ _ _ hb9).bx; clear hb9)
          | (go_at_call 37; have hh := psame_any t t ra5 rc5 ha5 hc5 ma5 mc5 ra4 rc4 ha4 hc4 ma4 mc4 w9 (HA5.out.below _ _ _ _ _ _ HB9.out).sd (HT5.out.below _ _ _ _ _ _ HB9.out).sd; (with_reducible refine hh.mono ?_); clear hh; rintro e w10 ⟨rfl, hb10⟩; rw [decide_eq_true (rfl : t = t)]; have HB10 := Lib.hid (HB9.out.trans (hb10.mono HB9.out.size)); clear hb10 x0 x1 x2 x3 x4 y0 y1 y2 y3 y4; obtain ⟨⟨x0, x1, x2, x3, x4⟩, -⟩ := box5 (HX16.out.below _ _ _ _ _ _ HB10.out).bx; obtain ⟨⟨y0, y1, y2, y3, y4⟩, -⟩ := box5 (HS5.out.below _ _ _ _ _ _ HB10.out).bx)
          | (go_at_call 37; have hh := psame_any s s ra8 rc8 ha8 hc8 ma8 mc8 ra rc ha hc ma mc w10 (HX16.out.below _ _ _ _ _ _ HB10.out).sd (HS5.out.below _ _ _ _ _ _ HB10.out).sd; (with_reducible refine hh.mono ?_); clear hh; rintro e w11 ⟨rfl, hb11⟩; rw [decide_eq_true (rfl : s = s)]; have HB11 := Lib.hid (HB10.out.trans (hb11.mono HB10.out.size)); clear hb11)
          | fail)
        go_ret
        exact ⟨rfl, HB5.out.trans (HB11.out.mono HB5.out.size)⟩

end Go.Proofs.Ythohjcfpobeplaa.Bt
