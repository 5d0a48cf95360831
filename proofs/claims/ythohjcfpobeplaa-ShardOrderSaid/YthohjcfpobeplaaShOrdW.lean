/-
  Law 12's ShardOrder, walked.
-/
import Derived.Test.YthohjcfpobeplaaShOrdP
import Derived.Test.YthohjcfpobeplaaShTold
import Derived.Test.YthohjcfpobeplaaShEq
import Derived.Deep.CutRange
import Derived.Deep.RegionHeld3
import Derived.BigRegion
import Derived.Deep.WholeRow
namespace Go.Proofs.Ythohjcfpobeplaa.Sh
open Go.RowKit Rg Go.Sort
set_option linter.unusedVariables false
set_option linter.unusedSimpArgs false

def bkF (back : Nat → Mg) (i : Nat) : Value := (([.int .i64 (back (i / 5)).pub, .int .i64 (back (i / 5)).seq, .string ⟨(back (i / 5)).key.toArray⟩, .string ⟨(back (i / 5)).body.toArray⟩, .bool (back (i / 5)).again] : List Value)[i % 5]?).getD undef
def dnF (done : Nat → Nat → Int) (i : Nat) : Value := .int .i64 (done (i / 6) (i % 6))
def hlF (held : Nat → Int) (i : Nat) : Value := .int .i64 (held i)
/-- the shard's box and the three arrays. -/
structure OrdM (wx : World) (g : Nat) (ra : Option Addr) (rc : Nat) (ha : Option Addr) (hc : Nat) (ma : Option Addr) (mc : Nat) (s : Sd) (done : Nat → Nat → Int) (held : Nat → Int) (back : Nat → Mg) : Prop where
  bx : Bx wx g ra rc ha hc ma mc s
  dn : wx.rowIs (g + 1) 53 24 (dnF done)
  hl : wx.rowIs (g + 2) 52 6 (hlF held)
  bk : wx.rowIs (g + 3) 54 30 (bkF back)
  hi : Hi (g + 4) ra ∧ Hi (g + 4) ha ∧ Hi (g + 4) ma
theorem Hi.mono {B B' : Nat} {a : Option Addr} (h : Hi B a) (hb : B' ≤ B) : Hi B' a := fun b o e => Nat.le_trans hb (h b o e)
theorem own_hi {w : World} {B B' : Nat} (ra : Option Addr) (rc : Nat) (ha : Option Addr) (hc : Nat) (ma : Option Addr) (mc : Nat) {s : Sd} (h : OwnS w B s (.slice ra s.rd.length rc) (.slice ha s.hd.length hc) (.slice ma s.ms.length mc)) (hb : B' ≤ B) : Hi B' ra ∧ Hi B' ha ∧ Hi B' ma := by
  obtain ⟨a1, c1, e1, -, h1⟩ := OwnE.hi mgE h.rd
  obtain ⟨a2, c2, e2, -, h2⟩ := OwnE.hi hdE h.hd
  obtain ⟨a3, c3, e3, -, h3⟩ := OwnE.hi mkE h.ms
  obtain ⟨rfl, -, -⟩ := Value.slice.inj e1
  obtain ⟨rfl, -, -⟩ := Value.slice.inj e2
  obtain ⟨rfl, -, -⟩ := Value.slice.inj e3
  exact ⟨h1.mono hb, h2.mono hb, h3.mono hb⟩
theorem sd_keep_hi {w w' : World} {B : Nat} (ra : Option Addr) (rc : Nat) (ha : Option Addr) (hc : Nat) (ma : Option Addr) (mc : Nat) {s : Sd} (h : SdAt w ra rc ha hc ma mc s) (hh : Hi B ra ∧ Hi B ha ∧ Hi B ma) (hk : ∀ b, B ≤ b → b < w.heap.size → w'.heap[b]? = w.heap[b]?) : SdAt w' ra rc ha hc ma mc s :=
  ⟨rows_kept h.rd hh.1 hk, rows_kept h.hd hh.2.1 hk, rows_kept h.ms hh.2.2 hk, h.nr, h.nh, h.nm, h.sm⟩
theorem OrdM.below {wx wy : World} {g : Nat} (ra : Option Addr) (rc : Nat) (ha : Option Addr) (hc : Nat) (ma : Option Addr) (mc : Nat) {s : Sd} {done : Nat → Nat → Int} {held : Nat → Int} {back : Nat → Mg} (h : OrdM wx g ra rc ha hc ma mc s done held back) (hb : Below wx.heap.size wx wy) : OrdM wy g ra rc ha hc ma mc s done held back :=
  ⟨h.bx.below _ _ _ _ _ _ hb, h.dn.of_block (hb.block _ h.dn.lt), h.hl.of_block (hb.block _ h.hl.lt), h.bk.of_block (hb.block _ h.bk.lt), h.hi⟩
/-- the shard's box is written anew. -/
theorem OrdM.move {w wc : World} {g h : Nat} (ra : Option Addr) (rc : Nat) (ha : Option Addr) (hc : Nat) (ma : Option Addr) (mc : Nat) (ra6 : Option Addr) (rc6 : Nat) (ha6 : Option Addr) (hc6 : Nat) (ma6 : Option Addr) (mc6 : Nat) {s0 s : Sd} {done : Nat → Nat → Int} {held : Nat → Int} {back : Nat → Mg} (hb : Below w.heap.size w wc) (hg : w.heap.size ≤ g) (hm : OrdM wc g ra rc ha hc ma mc s0 done held back) (hy : Bx wc h ra6 rc6 ha6 hc6 ma6 mc6 s) (hh : Hi (g + 4) ra6 ∧ Hi (g + 4) ha6 ∧ Hi (g + 4) ma6) :
    Below w.heap.size w (set5 wc g (.bool s.fr) (.int .i64 s.nx) (.slice ra6 s.rd.length rc6) (.slice ha6 s.hd.length hc6) (.slice ma6 s.ms.length mc6)) ∧ OrdM (set5 wc g (.bool s.fr) (.int .i64 s.nx) (.slice ra6 s.rd.length rc6) (.slice ha6 s.hd.length hc6) (.slice ma6 s.ms.length mc6)) g ra6 rc6 ha6 hc6 ma6 mc6 s done held back :=
  ⟨set5_below hb hg _ _ _ _ _, ⟨⟨set5_box hm.bx.bx _ _ _ _ _, sd_keep _ _ _ _ _ _ hy.sd hm.bx.bx fun b hb => set5_heap _ _ _ _ _ _ _ _ hb⟩, hm.dn.of_block (set5_heap _ _ _ _ _ _ _ _ (by omega)), hm.hl.of_block (set5_heap _ _ _ _ _ _ _ _ (by omega)), hm.bk.of_block (set5_heap _ _ _ _ _ _ _ _ (by omega)), hh⟩⟩
theorem kd8_is (x : Int) : (x.tmod 8 + 8).tmod 8 = ((x % 8).toNat : Int) ∧ (x % 8).toNat < 8 := by
  have hr : 0 ≤ x % 8 ∧ x % 8 < 8 := by omega
  have h1 : (x.tmod 8 = x % 8) ∨ (x.tmod 8 = x % 8 - 8 ∧ x % 8 ≠ 0) ∨ (x.tmod 8 = 0 ∧ x % 8 = 0) := by
    by_cases h : 0 ≤ x
    · left; exact Int.tmod_eq_emod_of_nonneg h
    · have h3 := Int.neg_tmod (-x) 8
      rw [Int.neg_neg, Int.tmod_eq_emod_of_nonneg (show 0 ≤ -x by omega)] at h3
      rw [h3]
      omega
  generalize x.tmod 8 = a at *
  generalize x % 8 = y at *
  have h2 : (a + 8).tmod 8 = (a + 8) % 8 := Int.tmod_eq_emod_of_nonneg (by omega)
  rw [h2]
  omega
def z30 : Array Value := #[.int .i64 0, .int .i64 0, .string ⟨#[]⟩, .string ⟨#[]⟩, .bool false, .int .i64 0, .int .i64 0, .string ⟨#[]⟩, .string ⟨#[]⟩, .bool false, .int .i64 0, .int .i64 0, .string ⟨#[]⟩, .string ⟨#[]⟩, .bool false, .int .i64 0, .int .i64 0, .string ⟨#[]⟩, .string ⟨#[]⟩, .bool false, .int .i64 0, .int .i64 0, .string ⟨#[]⟩, .string ⟨#[]⟩, .bool false, .int .i64 0, .int .i64 0, .string ⟨#[]⟩, .string ⟨#[]⟩, .bool false]
theorem z30_at : ∀ i, i < 30 → z30[i]? = some (bkF (fun _ => mg0) i)
  | 0, _ => rfl
  | 1, _ => rfl
  | 2, _ => rfl
  | 3, _ => rfl
  | 4, _ => rfl
  | 5, _ => rfl
  | 6, _ => rfl
  | 7, _ => rfl
  | 8, _ => rfl
  | 9, _ => rfl
  | 10, _ => rfl
  | 11, _ => rfl
  | 12, _ => rfl
  | 13, _ => rfl
  | 14, _ => rfl
  | 15, _ => rfl
  | 16, _ => rfl
  | 17, _ => rfl
  | 18, _ => rfl
  | 19, _ => rfl
  | 20, _ => rfl
  | 21, _ => rfl
  | 22, _ => rfl
  | 23, _ => rfl
  | 24, _ => rfl
  | 25, _ => rfl
  | 26, _ => rfl
  | 27, _ => rfl
  | 28, _ => rfl
  | 29, _ => rfl
  | n + 30, h => absurd h (by omega)
theorem b54 (ev : Operand → Value) (w : World) (o : Oper) (ho : o.op = Op.build 54 #[]) : (execOp ev o).run Try.prog w = .ok (.value (.agg z30)) w := by
  unfold execOp
  rw [ho]
  kernel_rfl
theorem a54 (ev : Operand → Value) (w : World) (o : Oper) (ho : o.op = Op.alloc 54) : (execOp ev o).run Try.prog w = .ok (.value (.pointer (some ⟨w.heap.size, 0, none⟩))) (w.alloc (.cells z30 54)) := by
  unfold execOp
  rw [ho]
  kernel_rfl
theorem s54 (ev : Operand → Value) (w : World) (o : Oper) (x y : Operand) (ho : o.op = Op.store 54 x y) (h1 : ev x = .pointer (some ⟨w.heap.size, 0, none⟩)) (h2 : ev y = .agg z30) : (execOp ev o).run Try.prog (w.alloc (.cells z30 54)) = .ok .skip (w.alloc (.cells z30 54)) := by
  have hst := run_storeAt_new (P := Try.prog) w 54 z30 z30 (by kernel_rfl) rfl (by simp [z30, Value.oneCell'])
  unfold execOp
  rw [ho]
  simp only [h1, h2, Sem.run_bind, hst, Result.andThen_ok, Sem.run_pure]
theorem back_region {ops : Array Oper} {Q : Exit → Act → World → Prop} {a : Act} {w : World} {o1 o2 o3 : Oper} (x y : Operand) (g1 : o1.guard = none) (g2 : o2.guard = none) (g3 : o3.guard = none)
    (h1 : o1.op = Op.build 54 #[]) (h2 : o2.op = Op.alloc 54) (h3 : o3.op = Op.store 54 x y)
    (e1 : ((a.put o1.dst (.agg z30)).put o2.dst (.pointer (some ⟨w.heap.size, 0, none⟩))).eval x = .pointer (some ⟨w.heap.size, 0, none⟩)) (e2 : ((a.put o1.dst (.agg z30)).put o2.dst (.pointer (some ⟨w.heap.size, 0, none⟩))).eval y = .agg z30)
    (h : wpList Try.prog ops Q [] (((a.put o1.dst (.agg z30)).put o2.dst (.pointer (some ⟨w.heap.size, 0, none⟩))).put o3.dst undef) (w.alloc (.cells z30 54))) : wpList Try.prog ops Q [o1, o2, o3] a w := by
  refine wpList_plain g1 fun K hK => ?_
  unfold Oper.wp
  rw [b54 _ _ _ h1, Oper.upon_value]
  refine hK _ _ (wpList_plain g2 fun K2 hK2 => ?_)
  unfold Oper.wp
  rw [a54 _ _ _ h2, Oper.upon_value]
  refine hK2 _ _ (wpList_plain g3 fun K3 hK3 => ?_)
  unfold Oper.wp
  rw [s54 _ _ _ x y h3 e1 e2, Oper.upon_skip]
  exact hK3 _ _ h

theorem dn_at {wx : World} {g : Nat} {done : Nat → Nat → Int} (h : wx.rowIs g 53 24 (dnF done)) (p q : Nat) (hp : p < 4) (hq : q < 6) : wx.cell? ⟨g, p * 6 + q, none⟩ = some (.int .i64 (done p q)) := by
  rw [h.cell (show p * 6 + q < 24 by omega)]
  unfold dnF
  rw [show (p * 6 + q) / 6 = p by omega, show (p * 6 + q) % 6 = q by omega]
theorem hl_at {wx : World} {g : Nat} {held : Nat → Int} (h : wx.rowIs g 52 6 (hlF held)) (q : Nat) (hq : q < 6) : wx.cell? ⟨g, q, none⟩ = some (.int .i64 (held q)) := h.cell hq
theorem bk_at {wx : World} {g : Nat} {back : Nat → Mg} (h : wx.rowIs g 54 30 (bkF back)) (q : Nat) (hq : q < 6) : wx.cell? ⟨g, q * 5, none⟩ = some (.int .i64 (back q).pub) ∧ wx.cell? ⟨g, q * 5 + 1, none⟩ = some (.int .i64 (back q).seq) ∧ wx.cell? ⟨g, q * 5 + 2, none⟩ = some (.string ⟨(back q).key.toArray⟩) ∧ wx.cell? ⟨g, q * 5 + 3, none⟩ = some (.string ⟨(back q).body.toArray⟩) ∧ wx.cell? ⟨g, q * 5 + 4, none⟩ = some (.bool (back q).again) := by
  refine ⟨?_, ?_, ?_, ?_, ?_⟩
  · rw [h.cell (show q * 5 < 30 by omega)]; unfold bkF; rw [show q * 5 / 5 = q by omega, show q * 5 % 5 = 0 by omega]; rfl
  · rw [h.cell (show q * 5 + 1 < 30 by omega)]; unfold bkF; rw [show (q * 5 + 1) / 5 = q by omega, show (q * 5 + 1) % 5 = 1 by omega]; rfl
  · rw [h.cell (show q * 5 + 2 < 30 by omega)]; unfold bkF; rw [show (q * 5 + 2) / 5 = q by omega, show (q * 5 + 2) % 5 = 2 by omega]; rfl
  · rw [h.cell (show q * 5 + 3 < 30 by omega)]; unfold bkF; rw [show (q * 5 + 3) / 5 = q by omega, show (q * 5 + 3) % 5 = 3 by omega]; rfl
  · rw [h.cell (show q * 5 + 4 < 30 by omega)]; unfold bkF; rw [show (q * 5 + 4) / 5 = q by omega, show (q * 5 + 4) % 5 = 4 by omega]; rfl
theorem dn_set {wx : World} {g : Nat} {done : Nat → Nat → Int} (h : wx.rowIs g 53 24 (dnF done)) (p q : Nat) (hp : p < 4) (hq : q < 6) (v : Int) : (wx.setCell ⟨g, p * 6 + q, none⟩ (.int .i64 v)).rowIs g 53 24 (dnF (setD done p q v)) := by
  refine (h.set (p * 6 + q) (.int .i64 v)).congr fun i hi => ?_
  unfold dnF setD
  by_cases e : i = p * 6 + q
  · rw [if_pos e, if_pos (by omega)]
  · rw [if_neg e, if_neg (by omega)]
theorem hl_set {wx : World} {g : Nat} {held : Nat → Int} (h : wx.rowIs g 52 6 (hlF held)) (q : Nat) (v : Int) : (wx.setCell ⟨g, q, none⟩ (.int .i64 v)).rowIs g 52 6 (hlF (setH held q v)) := by
  refine (h.set q (.int .i64 v)).congr fun i hi => ?_
  unfold hlF setH
  by_cases e : i = q
  · rw [if_pos e, if_pos e]
  · rw [if_neg e, if_neg e]
theorem int_no_text {n : Nat} {f : Nat → Int} {cs : Array Value} (hs : cs.size = n) (hc : ∀ i, i < n → cs[i]? = some (.int .i64 (f i))) : ∀ (i : Nat) (str : ByteArray), cs[i]? ≠ some (.string str) := fun i str h => by
  have hi := (Array.getElem?_eq_some_iff.1 h).1
  rw [hc i (by omega)] at h
  cases h
/-- a shard's rows do not lie where whole numbers alone lie. -/
theorem sd_keep_int {w w' : World} (ra : Option Addr) (rc : Nat) (ha : Option Addr) (hc : Nat) (ma : Option Addr) (mc : Nat) {s : Sd} {g n : Nat} {T : TypeId} {f : Nat → Int} (h : SdAt w ra rc ha hc ma mc s) (hr : w.rowIs g T n (fun i => .int .i64 (f i))) (hk : ∀ b, b ≠ g → w'.heap[b]? = w.heap[b]?) : SdAt w' ra rc ha hc ma mc s := by
  obtain ⟨cs, hg, hs, hc⟩ := hr
  exact ⟨rows_keep (fun x => ⟨2, _, rfl⟩) h.rd hg (int_no_text hs hc) hk, rows_keep (fun x => ⟨3, _, rfl⟩) h.hd hg (int_no_text hs hc) hk, rows_keep (fun x => ⟨1, _, rfl⟩) h.ms hg (int_no_text hs hc) hk, h.nr, h.nh, h.nm, h.sm⟩
theorem bk_set {wx : World} {g : Nat} {back : Nat → Mg} (h : wx.rowIs g 54 30 (bkF back)) (q : Nat) (m : Mg) : (((((wx.setCell ⟨g, q * 5, none⟩ (.int .i64 m.pub)).setCell ⟨g, q * 5 + 1, none⟩ (.int .i64 m.seq)).setCell ⟨g, q * 5 + 2, none⟩ (.string ⟨m.key.toArray⟩)).setCell ⟨g, q * 5 + 3, none⟩ (.string ⟨m.body.toArray⟩)).setCell ⟨g, q * 5 + 4, none⟩ (.bool m.again)).rowIs g 54 30 (bkF (setH back q m)) := by
  refine (((((h.set (q * 5) _).set (q * 5 + 1) _).set (q * 5 + 2) _).set (q * 5 + 3) _).set (q * 5 + 4) _).congr fun i hi => ?_
  unfold bkF setH
  try dsimp only
  by_cases e4 : i = q * 5 + 4
  · subst e4; rw [if_pos rfl, if_pos (by omega), show (q * 5 + 4) % 5 = 4 by omega]; rfl
  rw [if_neg e4]
  by_cases e3 : i = q * 5 + 3
  · subst e3; rw [if_pos rfl, if_pos (by omega), show (q * 5 + 3) % 5 = 3 by omega]; rfl
  rw [if_neg e3]
  by_cases e2 : i = q * 5 + 2
  · subst e2; rw [if_pos rfl, if_pos (by omega), show (q * 5 + 2) % 5 = 2 by omega]; rfl
  rw [if_neg e2]
  by_cases e1 : i = q * 5 + 1
  · subst e1; rw [if_pos rfl, if_pos (by omega), show (q * 5 + 1) % 5 = 1 by omega]; rfl
  rw [if_neg e1]
  by_cases e0 : i = q * 5
  · subst e0; rw [if_pos rfl, if_pos (by omega), show (q * 5) % 5 = 0 by omega]; rfl
  rw [if_neg e0, if_neg (by omega)]
theorem set5b_heap (w : World) (g o : Nat) (x y z u v : Value) (b : Nat) (h : b ≠ g) : (((((w.setCell ⟨g, o, none⟩ x).setCell ⟨g, o + 1, none⟩ y).setCell ⟨g, o + 2, none⟩ z).setCell ⟨g, o + 3, none⟩ u).setCell ⟨g, o + 4, none⟩ v).heap[b]? = w.heap[b]? := by
  rw [Below.heap_setCell _ _ _ _ h, Below.heap_setCell _ _ _ _ h, Below.heap_setCell _ _ _ _ h, Below.heap_setCell _ _ _ _ h, Below.heap_setCell _ _ _ _ h]
theorem set5b_low {B : Nat} {a w : World} (h : Below B a w) {g : Nat} (hg : B ≤ g) (o : Nat) (x y z u v : Value) : Below B a (((((w.setCell ⟨g, o, none⟩ x).setCell ⟨g, o + 1, none⟩ y).setCell ⟨g, o + 2, none⟩ z).setCell ⟨g, o + 3, none⟩ u).setCell ⟨g, o + 4, none⟩ v) :=
  low_set (low_set (low_set (low_set (low_set h hg) hg) hg) hg) hg
theorem setH_setH {α : Type} (f : Nat → α) (q : Nat) (x y : α) : setH (setH f q x) q y = setH f q y := by
  funext i
  unfold setH
  split <;> rfl
theorem nm_neq {j q : Nat} (hj : j < 6) (hq : q < 6) (h : j ≠ q) : (nmF j != nmF q) = true := by
  rw [bne_iff_ne]
  exact fun e => h (nm_inj' hj hq e)
def nmRel (W : World) (n : Nat) (m : Nat) (v : Value) (wr : World) : Prop := ∃ j : Nat, j ≤ n ∧ m = n - j ∧ v = .int .i64 j ∧ Below W.heap.size W wr
def orderRel (W : World) (l : List OpD) (g : Nat) (m : Nat) (v7 : Value) (wr : World) : Prop :=
  ∃ (i : Nat) (s : Sd) (done : Nat → Nat → Int) (held : Nat → Int) (back : Nat → Mg) (ra : Option Addr) (rc : Nat) (ha : Option Addr) (hc : Nat) (ma : Option Addr) (mc : Nat), i ≤ l.length ∧ m = l.length - i ∧ v7 = .int .i64 i ∧ Below W.heap.size W wr ∧ OrdM wr g ra rc ha hc ma mc s done held back ∧ OrdI s done held back i

set_option maxRecDepth 100000 in
set_option maxHeartbeats 16000000 in
theorem order_any' (a : Option Addr) (cap : Nat) (l : List OpD) (w : World) (w0 : OpsAt w a cap l) :
    Calls Try.prog 5 #[.slice a l.length cap] w fun e w' => e = .returned (.bool true) ∧ Below w.heap.size w w' := by
  have HT := Lib.hid told_any
  have HO := Lib.hid w0
  have hcap := w0.max
  have hlen := w0.len
  have mixed : Try.prog.follows .mixedOrders = true := by kernel_rfl
  clear w0
  by_cases h120 : (120 : Int) < (l.length : Int)
  · go_enter Try.func5, Try.ntmps5
    go_wp2_with fail
    refine (HT.out w).mono ?_
    rintro e w2 ⟨rfl, hb⟩
    have HB3 := Lib.hid hb
    clear hb
    go_wp2_with fail
    go_ret
    exact ⟨rfl, HB3.out⟩
  have hl9 : l.length ≤ 120 := by omega
  go_enter Try.func5, Try.ntmps5
  go_wp2_with fail
  refine (new_any w).mono ?_
  rintro e w1 ⟨rfl, hb1⟩
  have HB1 := Lib.hid hb1
  clear hb1
  go_upto_region 6 with fail
  obtain ⟨hx1, hx2, hx3, hx4, hx5⟩ := three_box (w := w1) (.cells #[.bool false, .int .i64 1, .slice none 0 0, .slice none 0 0, .slice none 0 0] 26) (.cells (List.replicate 24 (.int .i64 0)).toArray 53) (.cells (List.replicate 6 (.int .i64 0)).toArray 52)
  have hdn : ((World.alloc (w1.alloc (.cells #[.bool false, .int .i64 1, .slice none 0 0, .slice none 0 0, .slice none 0 0] 26)) (.cells (List.replicate 24 (.int .i64 0)).toArray 53)).alloc (.cells (List.replicate 6 (.int .i64 0)).toArray 52)).rowIs (w1.heap.size + 1) 53 24 (dnF fun _ _ => 0) := ⟨_, hx2, by decide, fun i hi => by unfold dnF; rw [List.getElem?_toArray, List.getElem?_replicate, if_pos hi]⟩
  have hhl : ((World.alloc (w1.alloc (.cells #[.bool false, .int .i64 1, .slice none 0 0, .slice none 0 0, .slice none 0 0] 26)) (.cells (List.replicate 24 (.int .i64 0)).toArray 53)).alloc (.cells (List.replicate 6 (.int .i64 0)).toArray 52)).rowIs (w1.heap.size + 2) 52 6 (hlF fun _ => 0) := ⟨_, hx3, by decide, fun i hi => by unfold hlF; rw [List.getElem?_toArray, List.getElem?_replicate, if_pos hi]⟩
  have hW2 : ∃ W2, W2 = (World.alloc (w1.alloc (.cells #[.bool false, .int .i64 1, .slice none 0 0, .slice none 0 0, .slice none 0 0] 26)) (.cells (List.replicate 24 (.int .i64 0)).toArray 53)).alloc (.cells (List.replicate 6 (.int .i64 0)).toArray 52) := ⟨_, rfl⟩
  obtain ⟨W2, hW2⟩ := hW2
  rw [← hW2] at hx1 hx2 hx3 hx4 hx5 hdn hhl
  have hW2' : W2 = (World.alloc (w1.alloc (.cells #[.bool false, .int .i64 1, .slice none 0 0, .slice none 0 0, .slice none 0 0] 26)) (.cells #[.int .i64 0, .int .i64 0, .int .i64 0, .int .i64 0, .int .i64 0, .int .i64 0, .int .i64 0, .int .i64 0, .int .i64 0, .int .i64 0, .int .i64 0, .int .i64 0, .int .i64 0, .int .i64 0, .int .i64 0, .int .i64 0, .int .i64 0, .int .i64 0, .int .i64 0, .int .i64 0, .int .i64 0, .int .i64 0, .int .i64 0, .int .i64 0] 53)).alloc (.cells #[.int .i64 0, .int .i64 0, .int .i64 0, .int .i64 0, .int .i64 0, .int .i64 0] 52) := hW2
  rw [← hW2']
  clear hW2 hW2'
  refine wp_region_list (back_region (.tmp 6) (.tmp 26) rfl rfl rfl rfl rfl rfl rfl rfl ?_)
  go_wp2_with fail
  obtain ⟨hz1, hz2, hz3⟩ := one_box (w := W2) (.cells z30 54)
  generalize W2.alloc (.cells z30 54) = W3 at *
  have HM0 := Lib.hid (show OrdM W3 w1.heap.size none 0 none 0 none 0 sd1 (fun _ _ => 0) (fun _ => 0) (fun _ => mg0) from ⟨⟨box_bl hx1 hz2, sd_nil _⟩, hdn.of_block (hz2.block _ hdn.lt), hhl.of_block (hz2.block _ hhl.lt), ⟨z30, by rw [show w1.heap.size + 3 = W2.heap.size from hx5.symm]; exact hz1, rfl, z30_at⟩, ⟨fun b o e => (by cases e), fun b o e => (by cases e), fun b o e => (by cases e)⟩⟩)
  have HB3 := Lib.hid (HB1.out.trans ((hx4.trans (hz2.mono hx4.size)).mono HB1.out.size))
  have hg1 : w.heap.size ≤ w1.heap.size := HB1.out.size
  clear hx1 hx2 hx3 hx4 hx5 hz1 hz2 hz3 hdn hhl
  generalize w1.heap.size = g at *
  go_loopg [7] l.length (orderRel w l g)
  case atStart => exact ⟨0, sd1, fun _ _ => 0, fun _ => 0, fun _ => mg0, none, 0, none, 0, none, 0, Nat.zero_le _, rfl, rfl, HB3.out, HM0.out, ord_start⟩
  case round =>
    obtain ⟨i, s, done, held, back, ra, rc, ha, hc, ma, mc, hi, rfl, rfl, hb, hmem, hinv⟩ := hrel
    clear HM0 HB3
    have HB2 := Lib.hid hb
    have HMEM := Lib.hid hmem
    have HI := Lib.hid hinv
    clear hb hmem hinv
    by_cases hlt : i < l.length
    case pos =>
      have h1 : (i : Int) < (l.length : Int) := by omega
      have h0i : (0 : Int) ≤ (i : Int) := by omega
      have h2 : IntKind.i64.wrap ((i : Int) + 1) = (i : Int) + 1 := IntWalk.i64_in _ (by omega)
      have hi9 : i ≤ 1000 := by omega
      obtain ⟨bb, oo, haa, hcc⟩ := (HO.out.below HB2.out).at' (by omega)
      subst haa
      obtain ⟨ao, co, ⟨c0, c1, c2, c3, c4, c5⟩, hop⟩ := hcc i hlt
      have HOP := Lib.hid hop
      clear hcc hop
      generalize l[i] = o at *
      obtain ⟨hk1, hk2⟩ := kd8_is o.kind
      have hk3 : IntKind.i64.wrap (o.kind.tmod 8 + 8) = o.kind.tmod 8 + 8 := IntWalk.i64_in _ (by have := Int.tmod_lt_of_pos o.kind (show (0 : Int) < 8 by decide); have := Int.lt_tmod_of_pos o.kind (show (0 : Int) < 8 by decide); omega)
      generalize (o.kind % 8).toNat = kd at *
      have wkd : IntKind.i64.wrap (kd : Int) = (kd : Int) := IntWalk.i64_in _ (by omega)
      obtain ⟨t1, t2, t3⟩ := one_box (w := wr) (.cells #[.int .i64 o.kind, .int .i64 o.pub, .int .i64 o.key, .int .i64 o.many, .int .i64 o.n, .slice ao o.l.length co] 48)
      have HM4 := Lib.hid (HMEM.out.below _ _ _ _ _ _ t2)
      have HB4 := Lib.hid (HB2.out.trans (t2.mono HB2.out.size))
      have HOX := Lib.hid t1
      have HOP4 := Lib.hid (HOP.out.below t2)
      go_upto_region 25 with fail
      generalize wr.alloc (.cells #[.int .i64 o.kind, .int .i64 o.pub, .int .i64 o.key, .int .i64 o.many, .int .i64 o.n, .slice ao o.l.length co] 48) = W4 at *
      generalize wr.heap.size = go at *
      clear t1 t2 t3 c0 c1 c2 c3 c4 c5 HMEM HB2 HOP hk1 hk3 wkd
      obtain ⟨⟨x0, x1, x2, x3, x4⟩, xf0, xf1, xf2, xf3, xf4⟩ := box5 HM4.out.bx.bx
      obtain ⟨⟨z0, z1, z2, z3, z4, z5⟩, -⟩ := box6 HOX.out
      by_cases hk3 : kd < 3
      case pos =>
        as_aux_lemma =>
          have hkb : decide ((kd : Int) < 3) = true := decide_eq_true (by omega)
          have HX := Lib.hid HM4.out.bx
          have HMS := Lib.hid HI.out.may
          have HPUT := Lib.hid (ord_put HI.out o hi9)
          go_upto_region 26 with fail
          go_cut [10, 11] from 102 to 109 (fun vp vc wx => ∃ (gp : Nat) (ra6 : Option Addr) (rc6 : Nat) (ha6 : Option Addr) (hc6 : Nat) (ma6 : Option Addr) (mc6 : Nat), vp = .pointer (some ⟨gp, 0, none⟩) ∧ vc = .int .i64 (putC s (nextF s o)) ∧ Bx wx gp ra6 rc6 ha6 hc6 ma6 mc6 (putS s (nextF s o)) ∧ Below W4.heap.size W4 wx ∧ W4.heap.size ≤ gp ∧ (Hi W4.heap.size ra6 ∧ Hi W4.heap.size ha6 ∧ Hi W4.heap.size ma6))
          case first =>
            have HSK := Lib.hid (fun (wz : World) (k : Below W4.heap.size W4 wz) => And.intro (box5 (box_bl HX.out.bx k)).1 (box6 (box_bl HOX.out k)).1)
            have hSS := HSK.out _ (Below.refl _ _)
            have HDR : Hid (Below W4.heap.size W4 W4.drew) := Lib.hid (Below.refl _ _).drew
            have HDA : Hid (Below W4.heap.size W4 (W4.alloc (.cells #[.bool false, .int .i64 0, .slice none 0 0, .slice none 0 0, .slice none 0 0] 26)).drew) := Lib.hid ((Below.refl _ _).alloc (Nat.le_refl _) _).drew
            have HDB : Hid (Below W4.heap.size W4 (W4.drew.alloc (.cells #[.bool false, .int .i64 0, .slice none 0 0, .slice none 0 0, .slice none 0 0] 26))) := Lib.hid ((Below.refl _ _).drew.alloc (Nat.le_refl _) _)
            have HLT9 : Hid (W4.heap.size < (W4.alloc (.cells #[.bool false, .int .i64 0, .slice none 0 0, .slice none 0 0, .slice none 0 0] 26)).drew.heap.size) := Lib.hid (by show _ < (W4.alloc (.cells #[.bool false, .int .i64 0, .slice none 0 0, .slice none 0 0, .slice none 0 0] 26)).heap.size; simp)
            go_region_held3 (fun wx => ((wx.cell? ⟨g, 0, none⟩ = some (.bool s.fr) ∧ wx.cell? ⟨g, 1, none⟩ = some (.int .i64 s.nx) ∧ wx.cell? ⟨g, 2, none⟩ = some (.slice ra s.rd.length rc) ∧ wx.cell? ⟨g, 3, none⟩ = some (.slice ha s.hd.length hc) ∧ wx.cell? ⟨g, 4, none⟩ = some (.slice ma s.ms.length mc)) ∧ (wx.cell? ⟨go, 0, none⟩ = some (.int .i64 o.kind) ∧ wx.cell? ⟨go, 1, none⟩ = some (.int .i64 o.pub) ∧ wx.cell? ⟨go, 2, none⟩ = some (.int .i64 o.key) ∧ wx.cell? ⟨go, 3, none⟩ = some (.int .i64 o.many) ∧ wx.cell? ⟨go, 4, none⟩ = some (.int .i64 o.n) ∧ wx.cell? ⟨go, 5, none⟩ = some (.slice ao o.l.length co))))
              (first | (refine HSK.out _ ?_; first | with_reducible exact HDR.out | with_reducible exact HDA.out | with_reducible exact HDB.out | with_reducible exact HB6.out | with_reducible exact HB7.out | with_reducible exact Below.refl _ _ | with_reducible exact low_al HB6.out (Nat.le_refl _) _ | with_reducible exact low_al HB7.out (Nat.le_refl _) _ | exact set5_below HB7.out (Nat.le_refl _) _ _ _ _ _ | exact set5_below HB7.out HB6.out.size _ _ _ _ _))
              (first |
              (go_at_call 41; refine (next_any s ra rc ha hc ma mc o ao co HMS.out _ (HX.out.sd.below _ _ _ _ _ _ (by first | with_reducible exact HDR.out | with_reducible exact HDA.out | with_reducible exact HDB.out))).mono ?_; rintro e w6 ⟨v6, rfl, ho6, hb6⟩; obtain ⟨an, cn, rfl, hr6, hn6⟩ := OwnE.at mgE ho6; have HR6 := Lib.hid hr6; have HN6 := Lib.hid hn6; have HB6 : Hid (Below W4.heap.size W4 w6) := Lib.hid (by first | with_reducible exact HDR.out.trans (hb6.mono HDR.out.size) | with_reducible exact HDA.out.trans (hb6.mono HDA.out.size) | with_reducible exact HDB.out.trans (hb6.mono HDB.out.size)); (try (have hz6 : w6.heap[W4.heap.size]? = some (.cells #[.bool false, .int .i64 0, .slice none 0 0, .slice none 0 0, .slice none 0 0] 26 (0, 0)) := (by first | with_reducible exact box_bl (w := (W4.alloc (.cells #[.bool false, .int .i64 0, .slice none 0 0, .slice none 0 0, .slice none 0 0] 26)).drew) (heap_alloc_new W4 (.cells #[.bool false, .int .i64 0, .slice none 0 0, .slice none 0 0, .slice none 0 0] 26)) hb6 | with_reducible exact box_bl (heap_alloc_new W4.drew (.cells #[.bool false, .int .i64 0, .slice none 0 0, .slice none 0 0, .slice none 0 0] 26)) hb6); have HZ6 := Lib.hid (And.intro hz6 (Nat.lt_of_lt_of_le HLT9.out hb6.size)); clear hz6)); clear ho6 hr6 hn6 hb6; dsimp only) |
              (go_at_call 20; have hh := put_any s ra rc ha hc ma mc an cn (nextF s o) (next_le s o) w6 (HX.out.sd.below _ _ _ _ _ _ HB6.out) HR6.out HN6.out; (with_reducible refine hh.mono ?_); clear hh; rintro e w7 ⟨ra6, rc6, ha6, hc6, ma6, mc6, rfl, ho7, hsm7, hb7⟩; have HB7 : Hid (Below W4.heap.size W4 w7) := Lib.hid (HB6.out.trans (hb7.mono HB6.out.size)); have HHI := Lib.hid (own_hi _ _ _ _ _ _ ho7 HB6.out.size); (try (have hz7 : w7.heap[W4.heap.size]? = some (.cells #[.bool false, .int .i64 0, .slice none 0 0, .slice none 0 0, .slice none 0 0] 26 (0, 0)) := box_bl HZ6.out.1 hb7; obtain ⟨⟨u0, u1, u2, u3, u4⟩, r0, r1, r2, r3, r4⟩ := box5 hz7; have HZ7 := Lib.hid (bx_store _ _ _ _ _ _ HB7.out (Nat.le_refl _) HZ6.out.2 ho7 hsm7 hz7); clear hz7)); have HS7 := Lib.hid (ho7.sd _ _ _ _ _ _ hsm7); clear ho7 hsm7 hb7; dsimp only) |
              (go_at_call 20; have hh := put_any s ra rc ha hc ma mc an cn (nextF s o) (next_le s o) (w6.alloc (.cells #[.bool false, .int .i64 0, .slice none 0 0, .slice none 0 0, .slice none 0 0] 26)) (HX.out.sd.below _ _ _ _ _ _ (low_al HB6.out (Nat.le_refl _) _)) (HR6.out.below ((Below.refl _ _).alloc (Nat.le_refl _) _)) HN6.out; (with_reducible refine hh.mono ?_); clear hh; rintro e w7 ⟨ra6, rc6, ha6, hc6, ma6, mc6, rfl, ho7, hsm7, hb7⟩; have HB7 : Hid (Below W4.heap.size W4 w7) := Lib.hid ((low_al HB6.out (Nat.le_refl _) (.cells #[.bool false, .int .i64 0, .slice none 0 0, .slice none 0 0, .slice none 0 0] 26)).trans (hb7.mono (low_al HB6.out (Nat.le_refl _) (.cells #[.bool false, .int .i64 0, .slice none 0 0, .slice none 0 0, .slice none 0 0] 26)).size)); have HHI := Lib.hid (own_hi _ _ _ _ _ _ ho7 (low_al HB6.out (Nat.le_refl _) (.cells #[.bool false, .int .i64 0, .slice none 0 0, .slice none 0 0, .slice none 0 0] 26)).size); have hz7 := box_bl (heap_alloc_new w6 (.cells #[.bool false, .int .i64 0, .slice none 0 0, .slice none 0 0, .slice none 0 0] 26)) hb7; obtain ⟨⟨u0, u1, u2, u3, u4⟩, r0, r1, r2, r3, r4⟩ := box5 hz7; have HZ7 := Lib.hid (bx_store _ _ _ _ _ _ HB7.out HB6.out.size (by simp) ho7 hsm7 hz7); clear hz7; have HS7 := Lib.hid (ho7.sd _ _ _ _ _ _ hsm7); clear ho7 hsm7 hb7; dsimp only) | fail)
            all_goals
              go_wp2_with fail
              go_meet
              case rel => first | exact ⟨_, _, _, _, _, _, _, rfl, rfl, HZ7.out.2, HZ7.out.1, Nat.le_refl _, HHI.out⟩ | exact ⟨_, _, _, _, _, _, _, rfl, rfl, HZ7.out.2, HZ7.out.1, HB6.out.size, HHI.out⟩ | exact ⟨_, _, _, _, _, _, _, rfl, rfl, ⟨heap_alloc_new w7 _, sd_al _ _ _ _ _ _ HS7.out _⟩, low_al HB7.out (Nat.le_refl _) _, HB7.out.size, HHI.out⟩
          case rest =>
          obtain ⟨gp, ra6, rc6, ha6, hc6, ma6, mc6, rfl, rfl, hx6, hb6, hgp, hhi⟩ := hcut
          have HHI := Lib.hid (And.intro (hhi.1.mono (show g + 4 ≤ W4.heap.size from HM4.out.bk.lt)) (And.intro (hhi.2.1.mono (show g + 4 ≤ W4.heap.size from HM4.out.bk.lt)) (hhi.2.2.mono (show g + 4 ≤ W4.heap.size from HM4.out.bk.lt))))
          clear hhi
          have HX6 := Lib.hid hx6
          have HB6 := Lib.hid hb6
          have HM6 := Lib.hid (HM4.out.below _ _ _ _ _ _ hb6)
          clear x0 x1 x2 x3 x4 xf0 xf1 xf2 xf3 xf4 z0 z1 z2 z3 z4 z5 hx6 hb6
          obtain ⟨⟨x0, x1, x2, x3, x4⟩, xf0, xf1, xf2, xf3, xf4⟩ := box5 HM6.out.bx.bx
          obtain ⟨⟨y0, y1, y2, y3, y4⟩, -⟩ := box5 HX6.out.bx
          rcases HPUT.out.1 with hc | hc
          all_goals
            rw [hc]
            clear hc
            go_wp2_with fail
            have HMV := Lib.hid (OrdM.move _ _ _ _ _ _ _ _ _ _ _ _ (HB4.out.trans (HB6.out.mono HB4.out.size)) hg1 HM6.out HX6.out HHI.out)
            go_roundg (l.length - (i + 1))
            case measure => omega
            case rel => exact ⟨i + 1, _, _, _, _, _, _, _, _, _, _, by omega, rfl, by go_num, HMV.out.1, HMV.out.2, HPUT.out.2⟩
      case neg =>
        have hkb : decide ((kd : Int) < 3) = false := decide_eq_false (by omega)
        by_cases hk5 : kd < 5
        case pos =>
          as_aux_lemma =>
            have hkc : decide ((kd : Int) < 5) = true := decide_eq_true (by omega)
            have HGT := Lib.hid (get_any s ra rc ha hc ma mc W4 HM4.out.bx.sd)
            unfold GetR at HGT
            rcases ord_code HI.out hi9 with hc | hc
            case inl =>
              rw [hc] at HGT
              clear hc
              go_wp2_with (go_at_call 22; (with_reducible refine HGT.out.mono ?_); rintro e w7 ⟨ra6, rc6, ha6, hc6, ma6, mc6, rfl, -, -, hb7⟩; have HB7 := Lib.hid hb7; clear hb7)
              have hb9 := HB7.out.trans ((two_box (w := w7) (.cells #[.bool (getS s).fr, .int .i64 (getS s).nx, .slice ra6 (getS s).rd.length rc6, .slice ha6 (getS s).hd.length hc6, .slice ma6 (getS s).ms.length mc6] 26) (.cells #[.int .i64 (getH s).tag, .int .i64 ((getH s).m).pub, .int .i64 ((getH s).m).seq, .string ⟨((getH s).m).key.toArray⟩, .string ⟨((getH s).m).body.toArray⟩, .bool ((getH s).m).again] 37)).2.2.1.mono HB7.out.size)
              have HB9 := Lib.hid hb9
              clear hb9
              go_roundg (l.length - (i + 1))
              case measure => omega
              case rel => exact ⟨i + 1, _, _, _, _, _, _, _, _, _, _, by omega, rfl, by go_num, HB4.out.trans (HB9.out.mono HB4.out.size), HM4.out.below _ _ _ _ _ _ HB9.out, HI.out.more⟩
            case inr =>
              obtain ⟨p, q, hp, hq, e1, e2, e3, e4, e5, e6, e7, ⟨e8, e9⟩, hnew⟩ := ord_get HI.out hi9 hc
              rw [hc] at HGT
              clear hc
              have hbk0 := HI.out.bk0 q hq
              generalize getS s = s' at *
              generalize getH s = H at *
              obtain ⟨tg, ⟨mp, mq, mk, mb, mag⟩⟩ := H
              simp only at e1 e2 e4 e5 e6 e7 hnew HGT
              subst e1
              subst e2
              have HNEW := Lib.hid hnew
              have HE6 := Lib.hid e6
              have HE7 := Lib.hid e7
              have HE4 := Lib.hid e4
              have HE5 := Lib.hid e5
              clear hnew e6 e7 e4 e5
              go_upto_region 33 with (go_at_call 22; (with_reducible refine HGT.out.mono ?_); rintro e w7 ⟨ra6, rc6, ha6, hc6, ma6, mc6, rfl, ho7, hsm7, hb7⟩; have HB7 := Lib.hid hb7; have HS7 := Lib.hid (ho7.sd _ _ _ _ _ _ hsm7); have HHI := Lib.hid (own_hi _ _ _ _ _ _ ho7 (show g + 4 ≤ W4.heap.size from HM4.out.bk.lt)); clear ho7 hsm7 hb7)
              obtain ⟨t1, t2, t3, t4⟩ := two_box (w := w7) (.cells #[.bool s'.fr, .int .i64 s'.nx, .slice ra6 s'.rd.length rc6, .slice ha6 s'.hd.length hc6, .slice ma6 s'.ms.length mc6] 26) (.cells #[.int .i64 tg, .int .i64 (p : Int), .int .i64 mq, .string ⟨(nmF q).toArray⟩, .string ⟨mb.toArray⟩, .bool mag] 37)
              have hx8 := HS7.out.below _ _ _ _ _ _ t3
              generalize (w7.alloc (.cells #[.bool s'.fr, .int .i64 s'.nx, .slice ra6 s'.rd.length rc6, .slice ha6 s'.hd.length hc6, .slice ma6 s'.ms.length mc6] 26)).alloc (.cells #[.int .i64 tg, .int .i64 (p : Int), .int .i64 mq, .string ⟨(nmF q).toArray⟩, .string ⟨mb.toArray⟩, .bool mag] 37) = W8 at *
              have HX8 := Lib.hid (show Bx W8 w7.heap.size ra6 rc6 ha6 hc6 ma6 mc6 s' from ⟨t1, hx8⟩)
              have hb8 := HB7.out.trans (t3.mono HB7.out.size)
              have HB8 := Lib.hid hb8
              have HZ8 := Lib.hid t2
              have hgn : g + 3 < w7.heap.size := Nat.lt_of_lt_of_le HM4.out.bk.lt HB7.out.size
              generalize w7.heap.size = g12 at *
              clear t1 t2 t3 t4 hx8 hb8 HB7 HS7 HGT x0 x1 x2 x3 x4 xf0 xf1 xf2 xf3 xf4 z0 z1 z2 z3 z4 z5
              go_wp2_with fail
              go_loopg [15] q (nmRel W8 q)
              case atStart => exact ⟨0, Nat.zero_le _, rfl, rfl, Below.refl _ _⟩
              case round =>
                obtain ⟨j, hj, rfl, rfl, hb⟩ := hrel
                have HBJ := Lib.hid hb
                clear hb
                have hj6 : (j : Int) < 6 := by omega
                have hjd : decide ((j : Int) < 6) = true := decide_eq_true hj6
                have hj1 : IntKind.i64.wrap ((j : Int) + 1) = (j : Int) + 1 := IntWalk.i64_in _ (by omega)
                have y0 := fun q' : Und wr => (box6 (box_bl HZ8.out (HBJ.out.trans (q'.hb.mono HBJ.out.size)))).1.1
                have y3 := fun q' : Und wr => (box6 (box_bl HZ8.out (HBJ.out.trans (q'.hb.mono HBJ.out.size)))).1.2.2.2.1
                have HNA := Lib.hid fun q' : Und wr => (show Calls Try.prog 42 #[.int .i64 (j : Int)] q'.wx fun e w' => e = .returned (.string ⟨(nmF j).toArray⟩) ∧ Below q'.wx.heap.size q'.wx w' from (name_any j (by omega) q'.wx).mono fun e w' (h : e = .returned (.string ⟨(nameF j).toArray⟩) ∧ q'.wx = w') => And.intro h.1 (show Below q'.wx.heap.size q'.wx w' from h.2 ▸ Below.refl _ _))
                by_cases hjq : j = q
                case neg =>
                  have hne := nm_neq (show j < 6 by omega) hq hjq
                  have hne2 : ¬ nmF j = nmF q := fun e => hjq (nm_inj' (by omega) hq e)
                  have hne3 : (nmF j == nmF q) = false := by rw [beq_eq_false_iff_ne]; exact hne2
                  have hne4 : decide (nmF j = nmF q) = false := decide_eq_false hne2
                  go_upto_region 34 with fail
                  (refine wp_region_quiet_below (by assumption) (by kernel_rfl) ?_; (try dsimp only [List.append]); (repeat (go_big_quiet_step (first | (go_at_call 42; with_reducible exact Calls.below_of (HNA.out _))))); refine wpQuiet_nil ?_; intro _ hw'; obtain ⟨wq, hw''⟩ := hw'; subst hw''; have HBQ := Lib.hid wq.hb)
                  go_wp2_with fail
                  go_roundg (q - (j + 1))
                  case measure => omega
                  case rel => exact ⟨j + 1, by omega, rfl, by go_num, HBJ.out.trans (HBQ.out.mono HBJ.out.size)⟩
                case pos =>
                  subst hjq
                  go_upto_region 34 with fail
                  (refine wp_region_quiet_below (by assumption) (by kernel_rfl) ?_; (try dsimp only [List.append]); (repeat (go_big_quiet_step (first | (go_at_call 42; with_reducible exact Calls.below_of (HNA.out _))))); refine wpQuiet_nil ?_; intro _ hw'; obtain ⟨wq, hw''⟩ := hw'; subst hw''; have HBQ := Lib.hid wq.hb)
                  clear y0 y3 HNA
                  have HBK := Lib.hid (HBJ.out.trans (HBQ.out.mono HBJ.out.size))
                  clear HBJ HBQ
                  generalize wq.wx = W9 at *
                  have HM9 := Lib.hid (HM4.out.below _ _ _ _ _ _ (HB8.out.trans (HBK.out.mono HB8.out.size)))
                  have HX9 := Lib.hid (HX8.out.below _ _ _ _ _ _ HBK.out)
                  have HB9 := Lib.hid (HB4.out.trans ((HB8.out.trans (HBK.out.mono HB8.out.size)).mono HB4.out.size))
                  have hz9 := box_bl HZ8.out HBK.out
                  have HZ9 := Lib.hid hz9
                  obtain ⟨⟨y0, y1, y2, y3, y4, y5⟩, -⟩ := box6 hz9
                  obtain ⟨v0, v1, v2, v3, v4⟩ := bk_at HM9.out.bk j hq
                  have u0 : W9.cell? ⟨g + 1 + 1, j, none⟩ = some (.int .i64 (held j)) := hl_at HM9.out.hl j hq
                  rw [e3] at u0
                  have d0 := dn_at HM9.out.dn p j hp hq
                  have hq0 : (0 : Int) ≤ (j : Int) := by omega
                  have hp0 : (0 : Int) ≤ (p : Int) := by omega
                  have hp4 : (p : Int) < 4 := by omega
                  have hqe : ((j : Int) == 6) = false := by rw [beq_eq_false_iff_ne]; omega
                  have wd : IntKind.i64.wrap (done p j + 1) = done p j + 1 := IntWalk.i64_in _ (by omega)
                  have HE3 := Lib.hid e3
                  clear HM4 HX8 HZ8 HB8 HBK hz9 e3
                  go_upto_region 36 with fail
                  by_cases hbp : 0 < (back j).seq
                  case pos =>
                    have hmag : mag = true := by rw [HE5.out]; exact decide_eq_true hbp
                    subst hmag
                    have hbd : decide ((0 : Int) < (back j).seq) = true := decide_eq_true hbp
                    have hbe : ((back j).seq == 0) = false := by rw [beq_eq_false_iff_ne]; omega
                    have hneq : ∀ wx, (binOp .neq 35 (.agg #[.int .i64 (p : Int), .int .i64 mq, .string ⟨(nmF j).toArray⟩, .string ⟨mb.toArray⟩, .bool true]) (.agg #[.int .i64 (back j).pub, .int .i64 (back j).seq, .string ⟨(back j).key.toArray⟩, .string ⟨(back j).body.toArray⟩, .bool true])).run Try.prog wx = .ok (.bool false) wx := fun wx => mg_neq ⟨p, mq, nmF j, mb, true⟩ { back j with again := true } true (decide_eq_true (HE6.out hbp)) wx
                    go_quiet (fail)
                    obtain ⟨W10, hW10⟩ : ∃ W10, W10 = W9.drewN nq := ⟨_, rfl⟩
                    rw [← hW10]
                    have hb10 : Below W9.heap.size W9 W10 := by rw [hW10]; exact Below.drewN (Below.refl _ _) _
                    clear hW10
                    have HM9' := Lib.hid (HM9.out.below _ _ _ _ _ _ hb10)
                    have HX9' := Lib.hid (HX9.out.below _ _ _ _ _ _ hb10)
                    have HB9' := Lib.hid (HB9.out.trans ((hb10).mono HB9.out.size))
                    have HZ9' := Lib.hid (box_bl HZ9.out hb10)
                    clear HM9 HX9 HB9 HZ9 y0 y1 y2 y3 y4 y5 v0 v1 v2 v3 v4 u0 d0
                    have HM9 := HM9'
                    have HX9 := HX9'
                    have HB9 := HB9'
                    have HZ9 := HZ9'
                    clear HM9' HX9' HB9' HZ9'
                    clear hb10
                    obtain ⟨⟨y0, y1, y2, y3, y4, y5⟩, -⟩ := box6 HZ9.out
                    obtain ⟨v0, v1, v2, v3, v4⟩ := bk_at HM9.out.bk j hq
                    have u0 : W10.cell? ⟨g + 1 + 1, j, none⟩ = some (.int .i64 (held j)) := hl_at HM9.out.hl j hq
                    have d0 := dn_at HM9.out.dn p j hp hq
                    rw [HE3.out] at u0
                    go_upto_region 40 with fail
                    obtain ⟨t1, t2, t3⟩ := one_box (w := W10) (.cells #[.int .i64 (back j).pub, .int .i64 (back j).seq, .string ⟨(back j).key.toArray⟩, .string ⟨(back j).body.toArray⟩, .bool true] 35)
                    generalize W10.alloc (.cells #[.int .i64 (back j).pub, .int .i64 (back j).seq, .string ⟨(back j).key.toArray⟩, .string ⟨(back j).body.toArray⟩, .bool true] 35) = W11 at *
                    have HT16 := Lib.hid t1
                    have HM9' := Lib.hid (HM9.out.below _ _ _ _ _ _ t2)
                    have HX9' := Lib.hid (HX9.out.below _ _ _ _ _ _ t2)
                    have HB9' := Lib.hid (HB9.out.trans ((t2).mono HB9.out.size))
                    have HZ9' := Lib.hid (box_bl HZ9.out t2)
                    clear HM9 HX9 HB9 HZ9 y0 y1 y2 y3 y4 y5 v0 v1 v2 v3 v4 u0 d0
                    have HM9 := HM9'
                    have HX9 := HX9'
                    have HB9 := HB9'
                    have HZ9 := HZ9'
                    clear HM9' HX9' HB9' HZ9'
                    clear t1 t2 t3
                    generalize W10.heap.size = g16 at *
                    obtain ⟨⟨y0, y1, y2, y3, y4, y5⟩, -⟩ := box6 HZ9.out
                    obtain ⟨v0, v1, v2, v3, v4⟩ := bk_at HM9.out.bk j hq
                    have u0 : W11.cell? ⟨g + 1 + 1, j, none⟩ = some (.int .i64 (held j)) := hl_at HM9.out.hl j hq
                    have d0 := dn_at HM9.out.dn p j hp hq
                    obtain ⟨⟨s0, s1, s2, s3, s4⟩, -⟩ := box5 HT16.out
                    rw [HE3.out] at u0
                    go_quiet (fail)
                    obtain ⟨W12, hW12⟩ : ∃ W12, W12 = W11.drewN nq := ⟨_, rfl⟩
                    rw [← hW12]
                    have hb12 : Below W11.heap.size W11 W12 := by rw [hW12]; exact Below.drewN (Below.refl _ _) _
                    clear hW12
                    have HM9' := Lib.hid (HM9.out.below _ _ _ _ _ _ hb12)
                    have HX9' := Lib.hid (HX9.out.below _ _ _ _ _ _ hb12)
                    have HB9' := Lib.hid (HB9.out.trans ((hb12).mono HB9.out.size))
                    have HZ9' := Lib.hid (box_bl HZ9.out hb12)
                    have HT16' := Lib.hid (box_bl HT16.out hb12)
                    clear HM9 HX9 HB9 HZ9 y0 y1 y2 y3 y4 y5 v0 v1 v2 v3 v4 u0 d0 HT16 s0 s1 s2 s3 s4
                    have HM9 := HM9'
                    have HX9 := HX9'
                    have HB9 := HB9'
                    have HZ9 := HZ9'
                    clear HM9' HX9' HB9' HZ9'
                    have HT16 := HT16'
                    clear HT16'
                    clear hb12
                    obtain ⟨⟨y0, y1, y2, y3, y4, y5⟩, -⟩ := box6 HZ9.out
                    obtain ⟨v0, v1, v2, v3, v4⟩ := bk_at HM9.out.bk j hq
                    have u0 : W12.cell? ⟨g + 1 + 1, j, none⟩ = some (.int .i64 (held j)) := hl_at HM9.out.hl j hq
                    have d0 := dn_at HM9.out.dn p j hp hq
                    obtain ⟨⟨s0, s1, s2, s3, s4⟩, -⟩ := box5 HT16.out
                    rw [HE3.out] at u0
                    go_upto_region 44 with fail
                    have hf1 : W12.frozen? ⟨g + 1 + 1, j, none⟩ = false := HM9.out.hl.frozen j
                    go_upto_region 45 with fail
                    obtain ⟨W13, hW13⟩ : ∃ W13, W13 = W12.setCell ⟨g + 1 + 1, j, none⟩ (.int .i64 tg) := ⟨_, rfl⟩
                    rw [← hW13]
                    have hset := hl_set HM9.out.hl j tg
                    have hoth : ∀ b, b ≠ g + 2 → W13.heap[b]? = W12.heap[b]? := fun b hb => by rw [hW13]; exact Below.heap_setCell W12 ⟨g + 1 + 1, j, none⟩ _ b hb
                    rw [show W12.setCell ⟨g + 2, j, none⟩ (.int .i64 tg) = W13 from hW13.symm] at hset
                    have hbx13 : ∀ {b0 : Nat} {ra9 : Option Addr} {rc9 : Nat} {ha9 : Option Addr} {hc9 : Nat} {ma9 : Option Addr} {mc9 : Nat} {s9 : Sd}, Bx W12 b0 ra9 rc9 ha9 hc9 ma9 mc9 s9 → b0 ≠ g + 2 → Bx W13 b0 ra9 rc9 ha9 hc9 ma9 mc9 s9 := fun h hb => ⟨(hoth _ hb).trans h.bx, sd_keep_int _ _ _ _ _ _ h.sd HM9.out.hl hoth⟩
                    have HM13 := Lib.hid (show OrdM W13 g ra rc ha hc ma mc s done (setH held j tg) back from ⟨hbx13 HM9.out.bx (by omega), HM9.out.dn.of_block (hoth _ (by omega)), hset, HM9.out.bk.of_block (hoth _ (by omega)), HM9.out.hi⟩)
                    have HX13 := Lib.hid (hbx13 HX9.out (by omega))
                    have HB13 := Lib.hid (show Below w.heap.size w W13 from by rw [hW13]; exact low_set HB9.out (by omega))
                    clear hW13 hset hoth hbx13 HM9 HX9 HB9 HZ9 HT16 y0 y1 y2 y3 y4 y5 v0 v1 v2 v3 v4 u0 d0 s0 s1 s2 s3 s4 hf1
                    obtain ⟨⟨x0, x1, x2, x3, x4⟩, xf0, xf1, xf2, xf3, xf4⟩ := box5 HM13.out.bx.bx
                    obtain ⟨⟨y0, y1, y2, y3, y4⟩, -⟩ := box5 HX13.out.bx
                    go_wp2_with fail
                    have HMV := Lib.hid (OrdM.move _ _ _ _ _ _ _ _ _ _ _ _ HB13.out hg1 HM13.out HX13.out HHI.out)
                    have hnew := HNEW.out
                    rw [if_neg (show ¬ (back j).seq = 0 by omega)] at hnew
                    go_roundg (l.length - (i + 1))
                    case measure => omega
                    case rel => exact ⟨i + 1, _, _, _, _, _, _, _, _, _, _, by omega, rfl, by go_num, HMV.out.1, HMV.out.2, hnew⟩
                  case neg =>
                    have hmag : mag = false := by rw [HE5.out]; exact decide_eq_false hbp
                    subst hmag
                    have hb0 : (back j).seq = 0 := by omega
                    have HB0 := Lib.hid hb0
                    have hmq := HE7.out hb0
                    subst hmq
                    clear hb0 hbp hbk0
                    rw [HB0.out] at v1
                    go_quiet (fail)
                    obtain ⟨W10, hW10⟩ : ∃ W10, W10 = W9.drewN nq := ⟨_, rfl⟩
                    rw [← hW10]
                    have hb10 : Below W9.heap.size W9 W10 := by rw [hW10]; exact Below.drewN (Below.refl _ _) _
                    clear hW10
                    have HM9' := Lib.hid (HM9.out.below _ _ _ _ _ _ hb10)
                    have HX9' := Lib.hid (HX9.out.below _ _ _ _ _ _ hb10)
                    have HB9' := Lib.hid (HB9.out.trans ((hb10).mono HB9.out.size))
                    have HZ9' := Lib.hid (box_bl HZ9.out hb10)
                    clear HM9 HX9 HB9 HZ9 y0 y1 y2 y3 y4 y5 v0 v1 v2 v3 v4 u0 d0
                    have HM9 := HM9'
                    have HX9 := HX9'
                    have HB9 := HB9'
                    have HZ9 := HZ9'
                    clear HM9' HX9' HB9' HZ9'
                    clear hb10
                    obtain ⟨⟨y0, y1, y2, y3, y4, y5⟩, -⟩ := box6 HZ9.out
                    obtain ⟨v0, v1, v2, v3, v4⟩ := bk_at HM9.out.bk j hq
                    rw [HB0.out] at v1
                    have u0 : W10.cell? ⟨g + 1 + 1, j, none⟩ = some (.int .i64 (held j)) := hl_at HM9.out.hl j hq
                    have d0 := dn_at HM9.out.dn p j hp hq
                    rw [HE3.out] at u0
                    go_upto_region 40 with fail
                    obtain ⟨t1, t2, t3⟩ := one_box (w := W10) (.cells #[.int .i64 (back j).pub, .int .i64 0, .string ⟨(back j).key.toArray⟩, .string ⟨(back j).body.toArray⟩, .bool true] 35)
                    generalize W10.alloc (.cells #[.int .i64 (back j).pub, .int .i64 0, .string ⟨(back j).key.toArray⟩, .string ⟨(back j).body.toArray⟩, .bool true] 35) = W11 at *
                    have HT16 := Lib.hid t1
                    have HM9' := Lib.hid (HM9.out.below _ _ _ _ _ _ t2)
                    have HX9' := Lib.hid (HX9.out.below _ _ _ _ _ _ t2)
                    have HB9' := Lib.hid (HB9.out.trans ((t2).mono HB9.out.size))
                    have HZ9' := Lib.hid (box_bl HZ9.out t2)
                    clear HM9 HX9 HB9 HZ9 y0 y1 y2 y3 y4 y5 v0 v1 v2 v3 v4 u0 d0
                    have HM9 := HM9'
                    have HX9 := HX9'
                    have HB9 := HB9'
                    have HZ9 := HZ9'
                    clear HM9' HX9' HB9' HZ9'
                    clear t1 t2 t3
                    generalize W10.heap.size = g16 at *
                    obtain ⟨⟨y0, y1, y2, y3, y4, y5⟩, -⟩ := box6 HZ9.out
                    obtain ⟨v0, v1, v2, v3, v4⟩ := bk_at HM9.out.bk j hq
                    rw [HB0.out] at v1
                    have u0 : W11.cell? ⟨g + 1 + 1, j, none⟩ = some (.int .i64 (held j)) := hl_at HM9.out.hl j hq
                    have d0 := dn_at HM9.out.dn p j hp hq
                    obtain ⟨⟨s0, s1, s2, s3, s4⟩, -⟩ := box5 HT16.out
                    rw [HE3.out] at u0
                    go_quiet (fail)
                    obtain ⟨W12, hW12⟩ : ∃ W12, W12 = W11.drewN nq := ⟨_, rfl⟩
                    rw [← hW12]
                    have hb12 : Below W11.heap.size W11 W12 := by rw [hW12]; exact Below.drewN (Below.refl _ _) _
                    clear hW12
                    have HM9' := Lib.hid (HM9.out.below _ _ _ _ _ _ hb12)
                    have HX9' := Lib.hid (HX9.out.below _ _ _ _ _ _ hb12)
                    have HB9' := Lib.hid (HB9.out.trans ((hb12).mono HB9.out.size))
                    have HZ9' := Lib.hid (box_bl HZ9.out hb12)
                    have HT16' := Lib.hid (box_bl HT16.out hb12)
                    clear HM9 HX9 HB9 HZ9 y0 y1 y2 y3 y4 y5 v0 v1 v2 v3 v4 u0 d0 HT16 s0 s1 s2 s3 s4
                    have HM9 := HM9'
                    have HX9 := HX9'
                    have HB9 := HB9'
                    have HZ9 := HZ9'
                    clear HM9' HX9' HB9' HZ9'
                    have HT16 := HT16'
                    clear HT16'
                    clear hb12
                    obtain ⟨⟨y0, y1, y2, y3, y4, y5⟩, -⟩ := box6 HZ9.out
                    obtain ⟨v0, v1, v2, v3, v4⟩ := bk_at HM9.out.bk j hq
                    rw [HB0.out] at v1
                    have u0 : W12.cell? ⟨g + 1 + 1, j, none⟩ = some (.int .i64 (held j)) := hl_at HM9.out.hl j hq
                    have d0 := dn_at HM9.out.dn p j hp hq
                    obtain ⟨⟨s0, s1, s2, s3, s4⟩, -⟩ := box5 HT16.out
                    rw [HE3.out] at u0
                    go_upto_region 43 with fail
                    have hf0 : W12.frozen? ⟨g + 1, p * 6 + j, none⟩ = false := HM9.out.dn.frozen _
                    go_region
                    obtain ⟨WA, hWA⟩ : ∃ WA, WA = (World.setCell W12 ⟨g + 1, p * 6 + j, none⟩ (.int .i64 (done p j + 1))).drew := ⟨_, rfl⟩
                    rw [← hWA]
                    have hset := (dn_set HM9.out.dn p j hp hq (done p j + 1)).drew
                    have hoth : ∀ b, b ≠ g + 1 → WA.heap[b]? = W12.heap[b]? := fun b hb => by rw [hWA]; exact Below.heap_setCell W12 ⟨g + 1, p * 6 + j, none⟩ _ b hb
                    rw [← hWA] at hset
                    have hbxA : ∀ {b0 : Nat} {ra9 : Option Addr} {rc9 : Nat} {ha9 : Option Addr} {hc9 : Nat} {ma9 : Option Addr} {mc9 : Nat} {s9 : Sd}, Bx W12 b0 ra9 rc9 ha9 hc9 ma9 mc9 s9 → b0 ≠ g + 1 → Bx WA b0 ra9 rc9 ha9 hc9 ma9 mc9 s9 := fun h hb => ⟨(hoth _ hb).trans h.bx, sd_keep_int _ _ _ _ _ _ (f := fun i => done (i / 6) (i % 6)) h.sd HM9.out.dn hoth⟩
                    have HMA := Lib.hid (show OrdM WA g ra rc ha hc ma mc s (setD done p j (done p j + 1)) held back from ⟨hbxA HM9.out.bx (by omega), hset, HM9.out.hl.of_block (hoth _ (by omega)), HM9.out.bk.of_block (hoth _ (by omega)), HM9.out.hi⟩)
                    have HXA := Lib.hid (hbxA HX9.out (by omega))
                    have HZA := Lib.hid ((hoth (g12 + 1) (by omega)).trans HZ9.out)
                    have HBA := Lib.hid (show Below w.heap.size w WA from by rw [hWA]; exact low_drew (low_set HB9.out (by omega)))
                    clear hWA hset hoth hbxA HM9 HX9 HB9 HZ9 HT16 y0 y1 y2 y3 y4 y5 v0 v1 v2 v3 v4 u0 d0 s0 s1 s2 s3 s4 hf0
                    have HM9 := HMA
                    have HX9 := HXA
                    have HB9 := HBA
                    have HZ9 := HZA
                    clear HMA HXA HBA HZA
                    obtain ⟨⟨y0, y1, y2, y3, y4, y5⟩, -⟩ := box6 HZ9.out
                    have u0 : WA.cell? ⟨g + 1 + 1, j, none⟩ = some (.int .i64 (held j)) := hl_at HM9.out.hl j hq
                    go_upto_region 44 with fail
                    have hf1 : WA.frozen? ⟨g + 1 + 1, j, none⟩ = false := HM9.out.hl.frozen j
                    go_upto_region 45 with fail
                    obtain ⟨W13, hW13⟩ : ∃ W13, W13 = WA.setCell ⟨g + 1 + 1, j, none⟩ (.int .i64 tg) := ⟨_, rfl⟩
                    rw [← hW13]
                    have hset := hl_set HM9.out.hl j tg
                    have hoth : ∀ b, b ≠ g + 2 → W13.heap[b]? = WA.heap[b]? := fun b hb => by rw [hW13]; exact Below.heap_setCell WA ⟨g + 1 + 1, j, none⟩ _ b hb
                    rw [show WA.setCell ⟨g + 2, j, none⟩ (.int .i64 tg) = W13 from hW13.symm] at hset
                    have hbx13 : ∀ {b0 : Nat} {ra9 : Option Addr} {rc9 : Nat} {ha9 : Option Addr} {hc9 : Nat} {ma9 : Option Addr} {mc9 : Nat} {s9 : Sd}, Bx WA b0 ra9 rc9 ha9 hc9 ma9 mc9 s9 → b0 ≠ g + 2 → Bx W13 b0 ra9 rc9 ha9 hc9 ma9 mc9 s9 := fun h hb => ⟨(hoth _ hb).trans h.bx, sd_keep_int _ _ _ _ _ _ h.sd HM9.out.hl hoth⟩
                    have HM13 := Lib.hid (show OrdM W13 g ra rc ha hc ma mc s (setD done p j (done p j + 1)) (setH held j tg) back from ⟨hbx13 HM9.out.bx (by omega), HM9.out.dn.of_block (hoth _ (by omega)), hset, HM9.out.bk.of_block (hoth _ (by omega)), HM9.out.hi⟩)
                    have HX13 := Lib.hid (hbx13 HX9.out (by omega))
                    have HB13 := Lib.hid (show Below w.heap.size w W13 from by rw [hW13]; exact low_set HB9.out (by omega))
                    clear hW13 hset hoth hbx13 HM9 HX9 HB9 HZ9 y0 y1 y2 y3 y4 y5 u0 hf1
                    obtain ⟨⟨x0, x1, x2, x3, x4⟩, xf0, xf1, xf2, xf3, xf4⟩ := box5 HM13.out.bx.bx
                    obtain ⟨⟨y0, y1, y2, y3, y4⟩, -⟩ := box5 HX13.out.bx
                    go_wp2_with fail
                    have HMV := Lib.hid (OrdM.move _ _ _ _ _ _ _ _ _ _ _ _ HB13.out hg1 HM13.out HX13.out HHI.out)
                    have hnew := HNEW.out
                    rw [if_pos HB0.out] at hnew
                    go_roundg (l.length - (i + 1))
                    case measure => omega
                    case rel => exact ⟨i + 1, _, _, _, _, _, _, _, _, _, _, by omega, rfl, by go_num, HMV.out.1, HMV.out.2, hnew⟩
        case neg =>
          have hkc : decide ((kd : Int) < 5) = false := decide_eq_false (by omega)
          by_cases h0 : s.hd.length = 0
          case pos =>
            have e0 : ((s.hd.length : Int) == 0) = true := by rw [beq_iff_eq]; omega
            clear h0
            go_wp2_with fail
            go_roundg (l.length - (i + 1))
            case measure => omega
            case rel => exact ⟨i + 1, _, _, _, _, _, _, _, _, _, _, by omega, rfl, by go_num, HB4.out, HM4.out, HI.out.more⟩
          case neg =>
            have e0 : ((s.hd.length : Int) == 0) = false := by rw [beq_eq_false_iff_ne]; omega
            obtain ⟨hn1, hn2⟩ := u64_mod o.n s.hd.length (by omega)
            have hul : IntKind.u64.wrap (s.hd.length : Int) = (s.hd.length : Int) := by rw [IntKind.wrap_u64]; have := HM4.out.bx.sd.sm.2.1; omega
            generalize u64m o.n s.hd.length = jj at *
            have hl1000 := HM4.out.bx.sd.sm.2.1
            have wj : IntKind.i64.wrap (jj : Int) = (jj : Int) := IntWalk.i64_in _ (by omega)
            have hji : (jj : Int) < (s.hd.length : Int) := by omega
            have h0j : (0 : Int) ≤ (jj : Int) := by omega
            have hz0 : ¬ (s.hd.length : Int) = 0 := by omega
            have hz5 : ¬ s.hd = [] := fun e9 => hz0 (by rw [e9]; rfl)
            have hz2 : ¬ IntKind.u64.wrap (s.hd.length : Int) = 0 := by rw [hul]; exact hz0
            have hn3 : (IntKind.u64.wrap o.n).tmod (IntKind.u64.wrap (s.hd.length : Int)) = (jj : Int) := by rw [hul]; exact hn1
            have hw9 : IntKind.u64.wrap (jj : Int) = (jj : Int) := by rw [IntKind.wrap_u64]; omega
            obtain ⟨hb9, ho9, hha, d0, d1, d2, d3, d4, d5⟩ := HdsAt.get HM4.out.bx.sd.hd jj hn2
            obtain ⟨q, hq, hkey, hout, hI1, hI2⟩ := ord_out HI.out jj hn2
            have HK1 := Lib.hid (And.intro hout (And.intro hI1 hI2))
            clear hout hI1 hI2 h0
            have hi1 := HM4.out.hi.2.1
            subst hha
            generalize s.hd[jj] = hh9 at *
            obtain ⟨tg, ⟨mp, mq, mk, mb, mag⟩⟩ := hh9
            simp only at hkey d0 d1 d2 d3 d4 d5 HK1
            subst hkey
            go_upto_region 13 with fail
            have HSK := Lib.hid (fun (wz : World) (k : Below W4.heap.size W4 wz) => And.intro (box5 (box_bl HM4.out.bx.bx k)).1.2.2.2.1 (And.intro (box6 (box_bl HOX.out k)).1.2.2.2.2.1 (And.intro ((k.cell (p := ⟨hb9, ho9 + jj * 6, none⟩) (lt_of_cell d0)).trans d0) (And.intro ((k.cell (p := ⟨hb9, ho9 + jj * 6 + 1, none⟩) (lt_of_cell d1)).trans d1) (And.intro ((k.cell (p := ⟨hb9, ho9 + jj * 6 + 2, none⟩) (lt_of_cell d2)).trans d2) (And.intro ((k.cell (p := ⟨hb9, ho9 + jj * 6 + 3, none⟩) (lt_of_cell d3)).trans d3) (And.intro ((k.cell (p := ⟨hb9, ho9 + jj * 6 + 4, none⟩) (lt_of_cell d4)).trans d4) ((k.cell (p := ⟨hb9, ho9 + jj * 6 + 5, none⟩) (lt_of_cell d5)).trans d5))))))))
            have hSS := HSK.out _ (Below.refl _ _)
            have HDR : Hid (Below W4.heap.size W4 W4.drew) := Lib.hid (Below.refl _ _).drew
            have HDA : Hid (Below W4.heap.size W4 (W4.alloc (.cells #[.int .i64 0, .int .i64 0, .int .i64 0, .string ⟨#[]⟩, .string ⟨#[]⟩, .bool false] 37)).drew) := Lib.hid ((Below.refl _ _).alloc (Nat.le_refl _) _).drew
            have HDC : Hid (Below W4.heap.size W4 (W4.alloc (.cells #[.int .i64 tg, .int .i64 mp, .int .i64 mq, .string ⟨(nmF q).toArray⟩, .string ⟨mb.toArray⟩, .bool mag] 37)).drew) := Lib.hid ((Below.refl _ _).alloc (Nat.le_refl _) _).drew
            have HDB : Hid (Below W4.heap.size W4 (W4.drew.alloc (.cells #[.int .i64 0, .int .i64 0, .int .i64 0, .string ⟨#[]⟩, .string ⟨#[]⟩, .bool false] 37))) := Lib.hid ((Below.refl _ _).drew.alloc (Nat.le_refl _) _)
            go_cut [17] from 46 to 58 (fun vp wx => ∃ gp : Nat, vp = .pointer (some ⟨gp, 0, none⟩) ∧ wx.heap[gp]? = some (.cells #[.int .i64 tg, .int .i64 mp, .int .i64 mq, .string ⟨(nmF q).toArray⟩, .string ⟨mb.toArray⟩, .bool mag] 37 (0, 0)) ∧ Below W4.heap.size W4 wx ∧ W4.heap.size ≤ gp)
            case first =>
              go_region_held3 (fun wx => wx.cell? ⟨g, 3, none⟩ = some (.slice (some ⟨hb9, ho9, none⟩) s.hd.length hc) ∧ wx.cell? ⟨go, 4, none⟩ = some (.int .i64 o.n) ∧ wx.cell? ⟨hb9, ho9 + jj * 6, none⟩ = some (.int .i64 tg) ∧ wx.cell? ⟨hb9, ho9 + jj * 6 + 1, none⟩ = some (.int .i64 mp) ∧ wx.cell? ⟨hb9, ho9 + jj * 6 + 2, none⟩ = some (.int .i64 mq) ∧ wx.cell? ⟨hb9, ho9 + jj * 6 + 3, none⟩ = some (.string ⟨(nmF q).toArray⟩) ∧ wx.cell? ⟨hb9, ho9 + jj * 6 + 4, none⟩ = some (.string ⟨mb.toArray⟩) ∧ wx.cell? ⟨hb9, ho9 + jj * 6 + 5, none⟩ = some (.bool mag))
                (first | (refine HSK.out _ ?_; first | with_reducible exact HDR.out | with_reducible exact HDA.out | with_reducible exact HDB.out | with_reducible exact Below.refl _ _ | exact low_al HDR.out (Nat.le_refl _) _ | exact low_drew (low_al (Below.refl _ _) (Nat.le_refl _) _)))
                (first | fail)
              go_wp2_with fail
              go_meet
              case rel => exact ⟨_, rfl, heap_alloc_new W4 _, HDC.out, Nat.le_refl _⟩
            case rest =>
            obtain ⟨g17, rfl, hz, hb5, hg17⟩ := hcut
            have HZ := Lib.hid hz
            have HM5 := Lib.hid (HM4.out.below _ _ _ _ _ _ hb5)
            have HB5 := Lib.hid (HB4.out.trans (hb5.mono HB4.out.size))
            have hgn : g + 3 < g17 := Nat.lt_of_lt_of_le HM4.out.bk.lt hg17
            clear hz hb5 x0 x1 x2 x3 x4 xf0 xf1 xf2 xf3 xf4 z0 z1 z2 z3 z4 z5 d0 d1 d2 d3 d4 d5 HSK hSS HDR HDA HDB HDC hul hn1 hn3 hz0 hz2 hz5 hw9 wj hji h0j e0 hl1000 HM4 HOX
            generalize wc = W5 at *
            go_upto_region 15 with fail
            go_loopg [18] q (nmRel W5 q)
            case atStart => exact ⟨0, Nat.zero_le _, rfl, rfl, Below.refl _ _⟩
            case round =>
              obtain ⟨j, hj, rfl, rfl, hb⟩ := hrel
              have HBJ := Lib.hid hb
              clear hb
              have hj1 : IntKind.i64.wrap ((j : Int) + 1) = (j : Int) + 1 := IntWalk.i64_in _ (by omega)
              have y0 := fun q' : Und wr => (box6 (box_bl HZ.out (HBJ.out.trans (q'.hb.mono HBJ.out.size)))).1.1
              have y3 := fun q' : Und wr => (box6 (box_bl HZ.out (HBJ.out.trans (q'.hb.mono HBJ.out.size)))).1.2.2.2.1
              have HNA := Lib.hid fun q' : Und wr => (show Calls Try.prog 42 #[.int .i64 (j : Int)] q'.wx fun e w' => e = .returned (.string ⟨(nmF j).toArray⟩) ∧ Below q'.wx.heap.size q'.wx w' from (name_any j (by omega) q'.wx).mono fun e w' (h : e = .returned (.string ⟨(nameF j).toArray⟩) ∧ q'.wx = w') => And.intro h.1 (show Below q'.wx.heap.size q'.wx w' from h.2 ▸ Below.refl _ _))
              by_cases hjq : j = q
              case neg =>
                have hj5 : (j : Int) < 5 := by omega
                have hjd : decide ((j : Int) < 5) = true := decide_eq_true hj5
                have hne := nm_neq (show j < 6 by omega) hq hjq
                have hne2 : ¬ nmF j = nmF q := fun e => hjq (nm_inj' (by omega) hq e)
                have hne3 : (nmF j == nmF q) = false := by rw [beq_eq_false_iff_ne]; exact hne2
                have hne4 : decide (nmF j = nmF q) = false := decide_eq_false hne2
                go_upto_region 15 with fail
                (refine wp_region_quiet_below (by assumption) (by kernel_rfl) ?_; (try dsimp only [List.append]); (repeat (go_big_quiet_step (first | (go_at_call 42; with_reducible exact Calls.below_of (HNA.out _))))); refine wpQuiet_nil ?_; intro _ hw'; obtain ⟨wq, hw''⟩ := hw'; subst hw''; have HBQ := Lib.hid wq.hb)
                go_wp2_with fail
                go_roundg (q - (j + 1))
                case measure => omega
                case rel => exact ⟨j + 1, by omega, rfl, by go_num, HBJ.out.trans (HBQ.out.mono HBJ.out.size)⟩
              case pos =>
                subst hjq
                have hjcase : (decide ((j : Int) < 5) = true) ∨ (decide ((j : Int) < 5) = false) := by cases decide ((j : Int) < 5) <;> simp
                rcases hjcase with hjd | hjd
                all_goals
                  go_upto_region 15 with fail
                  (refine wp_region_quiet_below (by assumption) (by kernel_rfl) ?_; (try dsimp only [List.append]); (repeat (go_big_quiet_step (first | (go_at_call 42; with_reducible exact Calls.below_of (HNA.out _))))); refine wpQuiet_nil ?_; intro _ hw'; obtain ⟨wq, hw''⟩ := hw'; subst hw''; have HBQ := Lib.hid wq.hb)
                  have HBK := Lib.hid (HBJ.out.trans (HBQ.out.mono HBJ.out.size))
                  have HM6 := Lib.hid (HM5.out.below _ _ _ _ _ _ HBK.out)
                  have HB6 := Lib.hid (HB5.out.trans (HBK.out.mono HB5.out.size))
                  have HZ6 := Lib.hid (box_bl HZ.out HBK.out)
                  clear y0 y3 HNA
                  generalize wq.wx = W6 at *
                  have u0 : W6.cell? ⟨g + 1 + 1, j, none⟩ = some (.int .i64 (held j)) := hl_at HM6.out.hl j hq
                  obtain ⟨v0, v1, v2, v3, v4⟩ := bk_at HM6.out.bk j hq
                  have uf : W6.frozen? ⟨g + 1 + 1, j, none⟩ = false := HM6.out.hl.frozen j
                  have vf0 : W6.frozen? ⟨g + 3, j * 5, none⟩ = false := HM6.out.bk.frozen _
                  have vf1 : W6.frozen? ⟨g + 3, j * 5 + 1, none⟩ = false := HM6.out.bk.frozen _
                  have vf2 : W6.frozen? ⟨g + 3, j * 5 + 2, none⟩ = false := HM6.out.bk.frozen _
                  have vf3 : W6.frozen? ⟨g + 3, j * 5 + 3, none⟩ = false := HM6.out.bk.frozen _
                  have vf4 : W6.frozen? ⟨g + 3, j * 5 + 4, none⟩ = false := HM6.out.bk.frozen _
                  have hq0 : (0 : Int) ≤ (j : Int) := by omega
                  have hq6 : (j : Int) < 6 := by omega
                  go_upto_region 18 with fail
                  obtain ⟨W7, hW7⟩ : ∃ W7, W7 = ((((((W6.setCell ⟨g + 1 + 1, j, none⟩ (.int .i64 0)).setCell ⟨g + 3, j * 5, none⟩ (.int .i64 0)).setCell ⟨g + 3, j * 5 + 1, none⟩ (.int .i64 0)).setCell ⟨g + 3, j * 5 + 2, none⟩ (.string ⟨#[]⟩)).setCell ⟨g + 3, j * 5 + 3, none⟩ (.string ⟨#[]⟩)).setCell ⟨g + 3, j * 5 + 4, none⟩ (.bool false)) := ⟨_, rfl⟩
                  rw [← hW7]
                  have hs1 := hl_set HM6.out.hl j 0
                  have hs2 := bk_set (HM6.out.bk.setOther (a := ⟨g + 1 + 1, j, none⟩) (by show g + 3 ≠ g + 1 + 1; omega) (.int .i64 0)) j mg0
                  have hoth : ∀ b, b ≠ g + 2 → b ≠ g + 3 → W7.heap[b]? = W6.heap[b]? := fun b hb hb' => by rw [hW7, set5b_heap _ _ _ _ _ _ _ _ _ hb']; exact Below.heap_setCell W6 ⟨g + 1 + 1, j, none⟩ _ b hb
                  have hh2 : W7.heap[g + 2]? = (W6.setCell ⟨g + 2, j, none⟩ (.int .i64 0)).heap[g + 2]? := by rw [hW7, set5b_heap _ _ _ _ _ _ _ _ _ (by omega)]
                  have HM7 := Lib.hid (show OrdM W7 g _ _ _ _ _ _ s done (setH held j 0) (setH back j mg0) from ⟨⟨(hoth g (by omega) (by omega)).trans HM6.out.bx.bx, sd_keep_hi (B := g + 4) _ _ _ _ _ _ HM6.out.bx.sd HM6.out.hi fun b hb _ => hoth b (by omega) (by omega)⟩, HM6.out.dn.of_block (hoth _ (by omega) (by omega)), hs1.of_block hh2, by rw [hW7]; exact hs2, HM6.out.hi⟩)
                  have HZ7 := Lib.hid ((hoth g17 (by omega) (by omega)).trans HZ6.out)
                  have HB7 := Lib.hid (show Below w.heap.size w W7 from by rw [hW7]; exact set5b_low (low_set HB6.out (by omega)) (by omega) _ _ _ _ _ _)
                  clear hW7 hs1 hs2 hoth hh2 u0 v0 v1 v2 v3 v4 uf vf0 vf1 vf2 vf3 vf4 HM6 HZ6 HB6 HBK HBJ HBQ HM5 HB5 HZ hjd
                  obtain ⟨⟨x0, x1, x2, x3, x4⟩, xf0, xf1, xf2, xf3, xf4⟩ := box5 HM7.out.bx.bx
                  obtain ⟨⟨y0, y1, y2, y3, y4, y5⟩, -⟩ := box6 HZ7.out
                  have hh := ack_any s tg _ _ _ _ _ _ W7 HM7.out.bx.sd
                  rw [HK1.out.1] at hh
                  go_upto_region 19 with (go_at_call 27; (with_reducible refine hh.mono ?_); clear hh; rintro e w8 ⟨ra6, rc6, ha6, hc6, ma6, mc6, rfl, ho8, hsm8, hb8⟩; have HB8 := Lib.hid hb8; have HS8 := Lib.hid (ho8.sd _ _ _ _ _ _ hsm8); have HH8 := Lib.hid (own_hi _ _ _ _ _ _ ho8 (show g + 4 ≤ W7.heap.size from HM7.out.bk.lt)); clear ho8 hsm8 hb8)
                  obtain ⟨t1, t2, t3⟩ := one_box (w := w8) (.cells #[.bool (ackS s tg).fr, .int .i64 (ackS s tg).nx, .slice ra6 (ackS s tg).rd.length rc6, .slice ha6 (ackS s tg).hd.length hc6, .slice ma6 (ackS s tg).ms.length mc6] 26)
                  have hb9 := HB8.out.trans (t2.mono HB8.out.size)
                  have HX9 := Lib.hid (show Bx (w8.alloc (.cells #[.bool (ackS s tg).fr, .int .i64 (ackS s tg).nx, .slice ra6 (ackS s tg).rd.length rc6, .slice ha6 (ackS s tg).hd.length hc6, .slice ma6 (ackS s tg).ms.length mc6] 26)) w8.heap.size ra6 rc6 ha6 hc6 ma6 mc6 (ackS s tg) from ⟨t1, HS8.out.below _ _ _ _ _ _ t2⟩)
                  have HM9 := Lib.hid (HM7.out.below _ _ _ _ _ _ hb9)
                  have HZ9 := Lib.hid (box_bl HZ7.out hb9)
                  have HB9 := Lib.hid (HB7.out.trans (hb9.mono HB7.out.size))
                  have hg19 : g17 < w8.heap.size := Nat.lt_of_lt_of_le (box_lt HZ7.out).1 HB8.out.size
                  generalize w8.alloc (.cells #[.bool (ackS s tg).fr, .int .i64 (ackS s tg).nx, .slice ra6 (ackS s tg).rd.length rc6, .slice ha6 (ackS s tg).hd.length hc6, .slice ma6 (ackS s tg).ms.length mc6] 26) = W9 at *
                  generalize w8.heap.size = g19 at *
                  clear t1 t2 t3 hb9 HB8 HS8 HM7 HZ7 HB7 x0 x1 x2 x3 x4 xf0 xf1 xf2 xf3 xf4 y0 y1 y2 y3 y4 y5
                  obtain ⟨⟨x0, x1, x2, x3, x4⟩, xf0, xf1, xf2, xf3, xf4⟩ := box5 HM9.out.bx.bx
                  obtain ⟨⟨y0, y1, y2, y3, y4⟩, yf0, yf1, yf2, yf3, yf4⟩ := box5 HX9.out.bx
                  obtain ⟨⟨z0, z1, z2, z3, z4, z5⟩, -⟩ := box6 HZ9.out
                  by_cases hk7 : kd = 7
                  case neg =>
                    have hkd : ((kd : Int) == 7) = false := by rw [beq_eq_false_iff_ne]; omega
                    go_wp2_with fail
                    have HMV := Lib.hid (OrdM.move _ _ _ _ _ _ _ _ _ _ _ _ HB9.out hg1 HM9.out HX9.out HH8.out)
                    go_roundg (l.length - (i + 1))
                    case measure => omega
                    case rel => exact ⟨i + 1, _, _, _, _, _, _, _, _, _, _, by omega, rfl, by go_num, HMV.out.1, HMV.out.2, HK1.out.2.1⟩
                  case pos =>
                    have hkd : ((kd : Int) == 7) = true := by rw [beq_iff_eq]; omega
                    have hh := nack_any s tg _ _ _ _ _ _ W9 HM9.out.bx.sd
                    rw [HK1.out.1] at hh
                    go_upto_region 21 with (go_at_call 29; (with_reducible refine hh.mono ?_); clear hh; rintro e w10 ⟨ra9, rc9, ha9, hc9, ma9, mc9, rfl, ho10, hsm10, hb10⟩; have HB10 := Lib.hid hb10; have HS10 := Lib.hid (ho10.sd _ _ _ _ _ _ hsm10); have HH10 := Lib.hid (own_hi _ _ _ _ _ _ ho10 (show g + 4 ≤ W9.heap.size from HM9.out.bk.lt)); obtain ⟨⟨u0, u1, u2, u3, u4⟩, r0, r1, r2, r3, r4⟩ := box5 (box_bl HX9.out.bx hb10); clear ho10 hsm10 hb10)
                    generalize hE : World.setCell (World.setCell (World.setCell (World.setCell (World.setCell w10 _ _) _ _) _ _) _ _) _ _ = W10
                    have hE' : set5 w10 g19 (.bool (nackS s tg).fr) (.int .i64 (nackS s tg).nx) (.slice ra9 (nackS s tg).rd.length rc9) (.slice ha9 (nackS s tg).hd.length hc9) (.slice ma9 (nackS s tg).ms.length mc9) = W10 := hE
                    clear hE
                    have hx10 := HX9.out.below _ _ _ _ _ _ HB10.out
                    have hm10 := HM9.out.below _ _ _ _ _ _ HB10.out
                    have HX10 := Lib.hid (show Bx W10 g19 ra9 rc9 ha9 hc9 ma9 mc9 (nackS s tg) from hE' ▸ ⟨set5_box hx10.bx _ _ _ _ _, sd_keep _ _ _ _ _ _ HS10.out hx10.bx fun b hb => set5_heap _ _ _ _ _ _ _ _ hb⟩)
                    have hoth : ∀ b, b ≠ g19 → W10.heap[b]? = w10.heap[b]? := fun b hb => hE' ▸ set5_heap _ _ _ _ _ _ _ _ hb
                    have HM10 := Lib.hid (show OrdM W10 g _ _ _ _ _ _ s done (setH held j 0) (setH back j mg0) from ⟨⟨(hoth g (by omega)).trans hm10.bx.bx, sd_keep _ _ _ _ _ _ hm10.bx.sd hx10.bx hoth⟩, hm10.dn.of_block (hoth _ (by omega)), hm10.hl.of_block (hoth _ (by omega)), hm10.bk.of_block (hoth _ (by omega)), hm10.hi⟩)
                    have HZ10 := Lib.hid ((hoth g17 (by omega)).trans (box_bl HZ9.out HB10.out))
                    have HBF := Lib.hid (show Below w.heap.size w W10 from hE' ▸ set5_below (HB9.out.trans (HB10.out.mono HB9.out.size)) (by omega) _ _ _ _ _)
                    clear hE' hx10 hm10 hoth HS10 HB10 HX9 HM9 HZ9 HB9 x0 x1 x2 x3 x4 xf0 xf1 xf2 xf3 xf4 y0 y1 y2 y3 y4 yf0 yf1 yf2 yf3 yf4 z0 z1 z2 z3 z4 z5 u0 u1 u2 u3 u4 r0 r1 r2 r3 r4
                    obtain ⟨⟨z0, z1, z2, z3, z4, z5⟩, -⟩ := box6 HZ10.out
                    obtain ⟨v0, v1, v2, v3, v4⟩ := bk_at HM10.out.bk j hq
                    have vf0 : W10.frozen? ⟨g + 3, j * 5, none⟩ = false := HM10.out.bk.frozen _
                    have vf1 : W10.frozen? ⟨g + 3, j * 5 + 1, none⟩ = false := HM10.out.bk.frozen _
                    have vf2 : W10.frozen? ⟨g + 3, j * 5 + 2, none⟩ = false := HM10.out.bk.frozen _
                    have vf3 : W10.frozen? ⟨g + 3, j * 5 + 3, none⟩ = false := HM10.out.bk.frozen _
                    have vf4 : W10.frozen? ⟨g + 3, j * 5 + 4, none⟩ = false := HM10.out.bk.frozen _
                    go_upto_region 22 with fail
                    obtain ⟨W11, hW11⟩ : ∃ W11, W11 = ((((W10.setCell ⟨g + 3, j * 5, none⟩ (.int .i64 mp)).setCell ⟨g + 3, j * 5 + 1, none⟩ (.int .i64 mq)).setCell ⟨g + 3, j * 5 + 2, none⟩ (.string ⟨(nmF j).toArray⟩)).setCell ⟨g + 3, j * 5 + 3, none⟩ (.string ⟨mb.toArray⟩)).setCell ⟨g + 3, j * 5 + 4, none⟩ (.bool mag) := ⟨_, rfl⟩
                    rw [← hW11]
                    have hs2 := bk_set HM10.out.bk j ⟨mp, mq, nmF j, mb, mag⟩
                    rw [setH_setH] at hs2
                    have hoth : ∀ b, b ≠ g + 3 → W11.heap[b]? = W10.heap[b]? := fun b hb => by rw [hW11]; exact set5b_heap _ _ _ _ _ _ _ _ _ hb
                    have HM11 := Lib.hid (show OrdM W11 g _ _ _ _ _ _ s done (setH held j 0) (setH back j ⟨mp, mq, nmF j, mb, mag⟩) from ⟨⟨(hoth g (by omega)).trans HM10.out.bx.bx, sd_keep_hi (B := g + 4) _ _ _ _ _ _ HM10.out.bx.sd HM10.out.hi fun b hb _ => hoth b (by omega)⟩, HM10.out.dn.of_block (hoth _ (by omega)), HM10.out.hl.of_block (hoth _ (by omega)), by rw [hW11]; exact hs2, HM10.out.hi⟩)
                    have HX11 := Lib.hid (show Bx W11 g19 ra9 rc9 ha9 hc9 ma9 mc9 (nackS s tg) from ⟨(hoth g19 (by omega)).trans HX10.out.bx, sd_keep_hi (B := g + 4) _ _ _ _ _ _ HX10.out.sd HH10.out fun b hb _ => hoth b (by omega)⟩)
                    have HB11 := Lib.hid (show Below w.heap.size w W11 from by rw [hW11]; exact set5b_low HBF.out (by omega) _ _ _ _ _ _)
                    clear hW11 hs2 hoth HM10 HX10 HBF HZ10 z0 z1 z2 z3 z4 z5 v0 v1 v2 v3 v4 vf0 vf1 vf2 vf3 vf4
                    obtain ⟨⟨x0, x1, x2, x3, x4⟩, xf0, xf1, xf2, xf3, xf4⟩ := box5 HM11.out.bx.bx
                    obtain ⟨⟨y0, y1, y2, y3, y4⟩, -⟩ := box5 HX11.out.bx
                    go_wp2_with fail
                    have HMV := Lib.hid (OrdM.move _ _ _ _ _ _ _ _ _ _ _ _ HB11.out hg1 HM11.out HX11.out HH10.out)
                    go_roundg (l.length - (i + 1))
                    case measure => omega
                    case rel => exact ⟨i + 1, _, _, _, _, _, _, _, _, _, _, by omega, rfl, by go_num, HMV.out.1, HMV.out.2, HK1.out.2.2⟩
    case neg =>
      obtain rfl : i = l.length := by omega
      have h1 : ¬ ((l.length : Int) < (l.length : Int)) := by omega
      have HM := Lib.hid HI.out.may
      have HMAY := Lib.hid fun wx (h : Below wr.heap.size wr wx) => may_any s ra rc ha hc ma mc wx (HMEM.out.bx.sd.below _ _ _ _ _ _ h)
      rw [decide_eq_true HM.out] at HMAY
      go_wp2_with (first | (go_at_call 19; refine (HT.out wr).mono ?_; rintro e w4 ⟨rfl, hb4⟩; have HB4 := Lib.hid hb4; obtain ⟨⟨x0, x1, x2, x3, x4⟩, -⟩ := box5 (box_bl HMEM.out.bx.bx hb4); clear hb4) | (go_at_call 24; refine (HMAY.out _ HB4.out).mono ?_; rintro e w5 ⟨rfl, hb5⟩; have HB5 := Lib.hid (HB4.out.trans (hb5.mono HB4.out.size)); clear hb5))
      go_ret
      exact ⟨rfl, HB2.out.trans (HB5.out.mono HB2.out.size)⟩

end Go.Proofs.Ythohjcfpobeplaa.Sh
