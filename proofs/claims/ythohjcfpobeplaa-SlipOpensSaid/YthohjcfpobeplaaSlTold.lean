/-
  slip.readFlag, readText, readMsg, walked.
  slip.readMsgs of one message, slip.read, slip.Get of a batch of one and of nothing, walked.
  slip.read, slip.Get of a batch of one message and of nothing, walked.
  slip.Get of the bytes of a batch of one message, and of nothing, walked (printed by tools/gen_sltold.py g).
  Law 14's told, walked (printed by tools/gen_sltold.py t).
-/
import Derived.Test.YthohjcfpobeplaaOctR
import Derived.Test.YthohjcfpobeplaaShTold
import Derived.Deep.CutRange
import Derived.Deep.CutBlock
import Derived.Test.YthohjcfpobeplaaSlPut
import Derived.Test.YthohjcfpobeplaaScope
import Derived.Test.YthohjcfpobeplaaSlLog
import Derived.Test.YthohjcfpobeplaaSlApp
import Derived.Test.YthohjcfpobeplaaSlMay

namespace Go.Proofs.Ythohjcfpobeplaa.Sl
open Go.RowKit Rg Sh
set_option linter.unusedVariables false
set_option linter.unusedSimpArgs false

abbrev RT : TypeId := 151
variable {B : Nat}

set_option maxRecDepth 100000 in
set_option maxHeartbeats 1000000 in
theorem readFlag_any (g : Nat) (l : List UInt8) (bad : Bool) (w : World) (hr : Rd RT B w g l bad) :
    Calls Try.prog 138 #[.pointer (some ⟨g, 0, none⟩)] w fun e w' => e = .returned (.bool (decide (0 < (numP 1 l).1))) ∧ Rd RT B w' g (numP 1 l).2.1 (bad || (numP 1 l).2.2) ∧ w.grownBy w' (some g) := by
  have h1 : Calls Try.prog 132 #[.pointer (some ⟨g, 0, none⟩), .int .i64 1] w _ := number_any g 1 (by omega) l bad w hr
  have H1 := Lib.hid h1
  clear h1 hr
  go_enter Try.func138, Try.ntmps138
  go_wp2_with (go_at_call 132; refine H1.out.mono ?_; rintro e w1 ⟨rfl, hr1, hg1⟩; have HR1 := Lib.hid hr1; have HG1 := Lib.hid hg1; clear hr1 hg1)
  go_ret
  refine ⟨?_, HR1.out, HG1.out⟩
  by_cases h : 0 < (numP 1 l).1
  · have h2 : (0 : Int) < ((numP 1 l).1 : Int) := by omega
    simp [h, h2]
  · have h2 : ¬ (0 : Int) < ((numP 1 l).1 : Int) := by omega
    simp [h, h2]

set_option maxRecDepth 100000 in
set_option maxHeartbeats 1000000 in
theorem readText_any (g : Nat) (l : List UInt8) (bad : Bool) (w : World) (hr : Rd RT B w g l bad) :
    Calls Try.prog 140 #[.pointer (some ⟨g, 0, none⟩)] w fun e w' => e = .returned (.string ⟨(cntP 1 l).1.toArray⟩) ∧ Rd RT B w' g (cntP 1 l).2.1 (bad || (cntP 1 l).2.2) ∧ w.grownBy w' (some g) := by
  have h1 : Calls Try.prog 141 #[.pointer (some ⟨g, 0, none⟩), .int .i64 1] w _ := counted_any g 1 (by omega) l bad w hr
  have H1 := Lib.hid h1
  clear h1 hr
  go_enter Try.func140, Try.ntmps140
  go_wp2_with (go_at_call 141; refine H1.out.mono ?_; rintro e w1 ⟨v1, rfl, hb1, hr1, hg1⟩; obtain ⟨a1, c1, rfl, hl1, hc1, hat1⟩ := hb1; have hcs := conv_str c1 hat1; have HR1 := Lib.hid hr1; have HG1 := Lib.hid hg1; clear hr1 hg1)
  go_ret
  exact ⟨rfl, HR1.out, HG1.out⟩

/-- a message read. -/
def l1P (l : List UInt8) := (numP 1 l).2.1
def l2P (l : List UInt8) := (numP 4 (l1P l)).2.1
def l3P (l : List UInt8) := (numP 1 (l2P l)).2.1
def l4P (l : List UInt8) := (cntP 1 (l3P l)).2.1
def l5P (l : List UInt8) := (cntP 1 (l4P l)).2.1
def rdM (l : List UInt8) : Mg := ⟨(numP 1 l).1, (numP 4 (l1P l)).1, (cntP 1 (l3P l)).1, (cntP 1 (l4P l)).1, decide (0 < (numP 1 (l2P l)).1)⟩
def badM (l : List UInt8) : Bool := (numP 1 l).2.2 || (numP 4 (l1P l)).2.2 || (numP 1 (l2P l)).2.2 || (cntP 1 (l3P l)).2.2 || (cntP 1 (l4P l)).2.2
theorem rdM_val (l : List UInt8) : (.agg #[.int .i64 (rdM l).pub, .int .i64 (rdM l).seq, .string ⟨(rdM l).key.toArray⟩, .string ⟨(rdM l).body.toArray⟩, .bool (rdM l).again] : Value) = .agg #[.int .i64 (numP 1 l).1, .int .i64 (numP 4 (l1P l)).1, .string ⟨(cntP 1 (l3P l)).1.toArray⟩, .string ⟨(cntP 1 (l4P l)).1.toArray⟩, .bool (decide (0 < (numP 1 (l2P l)).1))] := by simp only [rdM]
theorem load_mg {w : World} {g : Nat} {x y z u v : Value} (h : w.heap[g]? = some (.cells #[x, y, z, u, v] 35 (0, 0))) : (loadVar 35 ⟨g, 0, none⟩).run Try.prog w = .ok (.agg #[x, y, z, u, v]) w := by
  obtain ⟨⟨c0, c1, c2, c3, c4⟩, -⟩ := box5 h
  simp [go_sem, *]
theorem res_mg {fn : Func} {i : Tmp} {tmps : Array Value} {g : Nat} {x y z u v : Value} {w : World} (hr : fn.results = #[.cell i 35]) (hi : tmps.getD i undef = .pointer (some ⟨g, 0, none⟩))
    (h : w.heap[g]? = some (.cells #[x, y, z, u, v] 35 (0, 0))) : (results fn tmps).run Try.prog w = .ok (.agg #[x, y, z, u, v]) w := by
  have hl := load_mg h
  unfold results
  rw [hr]
  rw [Array.getD_eq_getD_getElem?] at hi
  obtain ⟨⟨c0, c1, c2, c3, c4⟩, -⟩ := box5 h
  simp [go_sem, hi, *]

set_option maxRecDepth 100000 in
set_option maxHeartbeats 4000000 in
theorem readMsg_any (g : Nat) (l : List UInt8) (bad : Bool) (w : World) (hB : B ≤ w.heap.size) (hr : Rd RT B w g l bad) :
    Calls Try.prog 137 #[.pointer (some ⟨g, 0, none⟩)] w fun e w' => e = .returned (.agg #[.int .i64 (rdM l).pub, .int .i64 (rdM l).seq, .string ⟨(rdM l).key.toArray⟩, .string ⟨(rdM l).body.toArray⟩, .bool (rdM l).again]) ∧ Rd RT B w' g (l5P l) (bad || badM l) ∧ w.grownBy w' (some g) := by
  obtain ⟨hx, hb0, hWs⟩ := one_box (w := w) (.cells #[.int .i64 0, .int .i64 0, .string ⟨#[]⟩, .string ⟨#[]⟩, .bool false] 35)
  obtain ⟨W, hW⟩ : ∃ W, W = w.alloc (.cells #[.int .i64 0, .int .i64 0, .string ⟨#[]⟩, .string ⟨#[]⟩, .bool false] 35) := ⟨_, rfl⟩
  have hr1 : Rd RT B W g l bad := by rw [hW]; exact hr.alloc _
  rw [← hW] at hx hb0 hWs
  have hgw := hr.lt
  have HX := Lib.hid hx
  have HB0 := Lib.hid hb0
  have HWS := Lib.hid hWs
  have HW := Lib.hid hW
  have h1 : Calls Try.prog 132 #[.pointer (some ⟨g, 0, none⟩), .int .i64 1] W _ := number_any g 1 (by omega) l bad W hr1
  rw [hW] at h1
  have H1 := Lib.hid h1
  have p1 := num_lt 1 l
  have p2 := num_lt 4 (l1P l)
  have w1 : IntKind.i64.wrap ((numP 1 l).1 : Int) = ((numP 1 l).1 : Int) := IntWalk.i64_in _ (by omega)
  have w2 : IntKind.i64.wrap ((numP 4 (l1P l)).1 : Int) = ((numP 4 (l1P l)).1 : Int) := IntWalk.i64_in _ (by omega)
  clear hx hb0 hWs hW hr hr1 h1 p1 p2
  have HL1 : Hid ((numP 1 l).2.1 = l1P l) := Lib.hid rfl
  have HL2 : Hid ((numP 4 (l1P l)).2.1 = l2P l) := Lib.hid rfl
  have HL3 : Hid ((numP 1 (l2P l)).2.1 = l3P l) := Lib.hid rfl
  have HL4 : Hid ((cntP 1 (l3P l)).2.1 = l4P l) := Lib.hid rfl
  have HL5 : Hid ((cntP 1 (l4P l)).2.1 = l5P l) := Lib.hid rfl
  go_enter Try.func137, Try.ntmps137
  go_upto_region 2 with (first | (go_at_call 132; (with_reducible refine H1.out.mono ?_); rintro e wa ⟨rfl, hr1, hg1⟩; rw [← HW.out] at hg1; rw [HL1.out] at hr1; have HR1 := Lib.hid hr1; have HG1 := Lib.hid hg1; clear hr1 hg1) |
    (go_at_call 132; have hh : Calls Try.prog 132 #[.pointer (some ⟨g, 0, none⟩), .int .i64 4] wa _ := number_any g 4 (by omega) (l1P l) _ wa HR1.out; (with_reducible refine hh.mono ?_); clear hh; rintro e wb ⟨rfl, hr1, hg1⟩; rw [HL2.out] at hr1; have HR2 := Lib.hid hr1; have HG2 := Lib.hid (GrownBy.trans HG1.out hg1); clear hr1 hg1) |
    (go_at_call 138; refine (readFlag_any g (l2P l) _ wb HR2.out).mono ?_; rintro e wc ⟨rfl, hr1, hg1⟩; rw [HL3.out] at hr1; have HR3 := Lib.hid hr1; have HG3 := Lib.hid (GrownBy.trans HG2.out hg1); clear hr1 hg1))
  have p1 := heap_alloc_new wc (.cells #[.int .i64 (numP 1 l).1, .int .i64 (numP 4 (l1P l)).1, .string ⟨#[]⟩, .string ⟨#[]⟩, .bool (decide (0 < (numP 1 (l2P l)).1))] 35)
  have p2 := (HR3.out.alloc (.cells #[.int .i64 (numP 1 l).1, .int .i64 (numP 4 (l1P l)).1, .string ⟨#[]⟩, .string ⟨#[]⟩, .bool (decide (0 < (numP 1 (l2P l)).1))] 35))
  have p3 := GrownBy.trans HG3.out (World.grownBy_alloc wc (.cells #[.int .i64 (numP 1 l).1, .int .i64 (numP 4 (l1P l)).1, .string ⟨#[]⟩, .string ⟨#[]⟩, .bool (decide (0 < (numP 1 (l2P l)).1))] 35) (some g))
  generalize wc.alloc (.cells #[.int .i64 (numP 1 l).1, .int .i64 (numP 4 (l1P l)).1, .string ⟨#[]⟩, .string ⟨#[]⟩, .bool (decide (0 < (numP 1 (l2P l)).1))] 35) = W4 at *
  have HY4 := Lib.hid p1
  have HR4 := Lib.hid p2
  have HG4 := Lib.hid p3
  have hz3 := HG3.out.size
  have hws := HWS.out
  clear p1 p2 p3 HR3 HG3 HR2 HG2 HR1 HG1 w1 w2
  generalize wc.heap.size = gm at *
  go_upto_region 3 with (first | (go_at_call 140; have hh := readText_any g (l3P l) _ W4 HR4.out; (with_reducible refine hh.mono ?_); clear hh; rintro e wd ⟨rfl, hr1, hg1⟩; rw [HL4.out] at hr1; have HR5 := Lib.hid hr1; have HG5 := Lib.hid hg1; clear hr1 hg1) |
    (go_at_call 140; have hh := readText_any g (l4P l) _ wd HR5.out; (with_reducible refine hh.mono ?_); clear hh; rintro e we ⟨rfl, hr1, hg1⟩; rw [HL5.out] at hr1; have HR6 := Lib.hid hr1; have HG6 := Lib.hid (GrownBy.trans HG5.out hg1); have HY6 := Lib.hid ((HG6.out.block gm (box_lt HY4.out).1 (by intro e; cases e; omega)).trans HY4.out); obtain ⟨⟨c0, c1, c2, c3, c4⟩, f0, f1, f2, f3, f4⟩ := box5 HY6.out; clear hr1 hg1))
  generalize hE : World.setCell (World.setCell we _ _) _ _ = E
  have hgw2 : w.grownBy we (some g) := GrownBy.trans (GrownBy.trans (HW.out ▸ World.grownBy_alloc w _ (some g)) HG4.out) HG6.out
  have HXE : Hid (E.heap[w.heap.size]? = some (.cells #[.int .i64 0, .int .i64 0, .string ⟨#[]⟩, .string ⟨#[]⟩, .bool false] 35 (0, 0))) := Lib.hid (by
    rw [← hE, Below.heap_setCell _ _ _ _ (show w.heap.size ≠ gm by omega), Below.heap_setCell _ _ _ _ (show w.heap.size ≠ gm by omega), HG6.out.block _ (Nat.lt_of_lt_of_le (show w.heap.size < W.heap.size by omega) HG4.out.size) (by intro e; cases e; omega), HG4.out.block _ (by omega) (by intro e; cases e; omega)]
    exact HX.out)
  have HYE : Hid (E.heap[gm]? = some (.cells #[.int .i64 (numP 1 l).1, .int .i64 (numP 4 (l1P l)).1, .string ⟨(cntP 1 (l3P l)).1.toArray⟩, .string ⟨(cntP 1 (l4P l)).1.toArray⟩, .bool (decide (0 < (numP 1 (l2P l)).1))] 35 (0, 0))) := Lib.hid (by
    rw [← hE]
    have h1 := set_heap HY6.out 2 (.string ⟨(cntP 1 (l3P l)).1.toArray⟩)
    exact set_heap h1 3 (.string ⟨(cntP 1 (l4P l)).1.toArray⟩))
  have HGE : Hid (w.grownBy E (some g)) := Lib.hid (by rw [← hE]; exact set_later (set_later hgw2 (by omega)) (by omega))
  have HRE : Hid (Rd RT B E g (l5P l) (bad || badM l)) := Lib.hid (by
    have h := HR6.out
    rw [Bool.or_assoc, Bool.or_assoc, Bool.or_assoc, Bool.or_assoc] at h
    have hb : badM l = ((numP 1 l).2.2 || ((numP 4 (l1P l)).2.2 || ((numP 1 (l2P l)).2.2 || ((cntP 1 (l3P l)).2.2 || (cntP 1 (l4P l)).2.2)))) := by unfold badM; rw [Bool.or_assoc, Bool.or_assoc, Bool.or_assoc]
    rw [← hb] at h
    refine h.frame (fun b hb => ?_) ?_
    · rw [← hE, Below.heap_setCell _ _ _ _ (show b ≠ gm by omega), Below.heap_setCell _ _ _ _ (show b ≠ gm by omega)]
    · rw [← hE, Below.heap_setCell _ _ _ _ (show g ≠ gm by omega), Below.heap_setCell _ _ _ _ (show g ≠ gm by omega)])
  have HFIN : Hid (∀ x y z u v, Rd RT B (set5 E w.heap.size x y z u v) g (l5P l) (bad || badM l) ∧ w.grownBy (set5 E w.heap.size x y z u v) (some g)) := Lib.hid fun x y z u v =>
    ⟨HRE.out.frame (fun b hb => set5_heap _ _ _ _ _ _ _ _ (by omega)) (set5_heap _ _ _ _ _ _ _ _ (by omega)), by unfold set5; exact set_later (set_later (set_later (set_later (set_later HGE.out (Nat.le_refl _)) (Nat.le_refl _)) (Nat.le_refl _)) (Nat.le_refl _)) (Nat.le_refl _)⟩
  clear hE hgw2 c0 c1 c2 c3 c4 f0 f1 f2 f3 f4 HR4 HR5 HR6 HG4 HG5 HG6 HY4 HY6 HX HRE HGE
  obtain ⟨⟨c0, c1, c2, c3, c4⟩, -⟩ := box5 HYE.out
  obtain ⟨⟨d0, d1, d2, d3, d4⟩, f0, f1, f2, f3, f4⟩ := box5 HXE.out
  go_wp2_with fail
  refine bodyPost_ret (v := .agg #[.int .i64 (numP 1 l).1, .int .i64 (numP 4 (l1P l)).1, .string ⟨(cntP 1 (l3P l)).1.toArray⟩, .string ⟨(cntP 1 (l4P l)).1.toArray⟩, .bool (decide (0 < (numP 1 (l2P l)).1))]) (res_mg (i := 2) (g := w.heap.size) Try.results137 rfl (set5_box HXE.out _ _ _ _ _)) rfl ?_
  exact ⟨by rw [rdM_val], (HFIN.out _ _ _ _ _).1, (HFIN.out _ _ _ _ _).2⟩

end Go.Proofs.Ythohjcfpobeplaa.Sl

namespace Go.Proofs.Ythohjcfpobeplaa.Sl
open Go.RowKit Rg Sh
set_option linter.unusedVariables false
set_option linter.unusedSimpArgs false
/-! a scope with labels, its jumps followed one by one (as by/XUnroll) -/
/-- As Q; by a goto, what stands behind the label, with one jump less. -/
def unroll (P : Program) (c : Code) (Q : Exit → Act → World → Prop) : Nat → Exit → Act → World → Prop
  | 0 => fun e a w => match e with | .goto _ => False | e => Q e a w
  | n + 1 => fun e a w => match e with | .goto l => ∃ rest, findLabel c l = some (Code.skip.seq rest) ∧ rest.wp P (unroll P c Q n) a w | e => Q e a w
theorem unroll_ret {P : Program} {c : Code} {Q : Exit → Act → World → Prop} {n : Nat} {a : Act} {w : World} (h : Q .ret a w) : unroll P c Q n .ret a w := by cases n <;> exact h
theorem unroll_goto {P : Program} {c : Code} {Q : Exit → Act → World → Prop} {n : Nat} {l : Nat} {a : Act} {w : World} (rest : Code) (hf : findLabel c l = some (Code.skip.seq rest)) (h : rest.wp P (unroll P c Q n) a w) : unroll P c Q (n + 1) (.goto l) a w := ⟨rest, hf, h⟩

theorem wp_scope_unroll {P : Program} {a : Act} {w : World} {Q : Exit → Act → World → Prop} {c : Code} (n : Nat) (h : c.wp P (unroll P c Q n) a w) : (Code.scope c).wp P Q a w := by
  refine wp_scope_many (fun l k a w => ∃ rest, findLabel c l = some (Code.skip.seq rest) ∧ rest.wp P (unroll P c Q k) a w) ?_ ?_
  · intro H hJ _
    refine Code.wp_mono (fun e a' w' hq => ?_) h
    cases n with
    | zero => cases e with
      | goto l => exact hq.elim
      | _ => exact hq
    | succ k => cases e with
      | goto l => exact hJ l k a' w' hq
      | _ => exact hq
  · rintro l k a' w' ⟨rest, hf, hr⟩
    refine ⟨rest, hf, fun H hH => ?_⟩
    refine Code.wp_mono (fun e a2 w2 hq => ?_) hr
    cases k with
    | zero => cases e with
      | goto l => exact hq.elim
      | _ => exact hq
    | succ m => cases e with
      | goto l' => exact hH l' m a2 w2 (Nat.lt_succ_self m) hq
      | _ => exact hq

variable {B : Nat}

theorem rd_bad {w : World} {g : Nat} {l : List UInt8} {bad : Bool} (h : Rd RT B w g l bad) : w.cell? ⟨g, 1, none⟩ = some (.bool bad) := by
  obtain ⟨v, h, _⟩ := h
  rw [cell_of_row w _ _ _ _ _ h]; rfl
theorem num_is {g k n : Nat} {l r : List UInt8} {bad b2 : Bool} {w : World} (hk : k ≤ 8) (hn : numP k l = (n, r, b2)) (hr : Rd RT B w g l bad) :
    Calls Try.prog 132 #[.pointer (some ⟨g, 0, none⟩), .int .i64 k] w fun e w' => e = .returned (.int .u64 n) ∧ Rd RT B w' g r (bad || b2) ∧ w.grownBy w' (some g) := by
  have := number_any g k hk l bad w hr
  rw [hn] at this
  exact this

set_option maxRecDepth 100000 in
set_option maxHeartbeats 4000000 in
theorem readMsgs_one (g : Nat) (l r1 : List UInt8) (hn : numP 1 l = (1, r1, false)) (hbd : badM r1 = false) (w : World) (hB : B ≤ w.heap.size) (hr : Rd RT B w g l false) :
    Calls Try.prog 133 #[.pointer (some ⟨g, 0, none⟩)] w fun e w' => ∃ a c, e = .returned (.slice a 1 c) ∧ MgsAt w' a c [rdM r1] ∧ (a = none → c = 0) ∧ Rd RT B w' g (l5P r1) false ∧ w.grownBy w' (some g) := by
  have h1 : Calls Try.prog 132 #[.pointer (some ⟨g, 0, none⟩), .int .i64 1] w fun e w' => e = .returned (.int .u64 1) ∧ Rd RT B w' g r1 false ∧ w.grownBy w' (some g) := num_is (by omega) hn hr
  have H1 := Lib.hid h1
  have HMG := Lib.hid fun (wx : World) (hB : B ≤ wx.heap.size) (hr : Rd RT B wx g r1 false) => readMsg_any g r1 false wx hB hr
  rw [hbd] at HMG
  have HBB := Lib.hid hB
  clear hn hbd hr h1 hB
  generalize rdM r1 = x at *
  generalize l5P r1 = r2 at *
  go_enter Try.func133, Try.ntmps133
  go_wp2_with fail
  refine wp_scope_unroll 4 ?_
  go_wp2_with (go_at_call 132; refine H1.out.mono ?_; rintro e w1 ⟨rfl, hr1, hg1⟩; have HR1 := Lib.hid hr1; have HG1 := Lib.hid hg1; have hbd1 := rd_bad hr1; have hgl1 := hr1.lt; clear hr1 hg1)
  go_step3
  rename_i hK
  refine hK _ _ ?_
  clear hK
  have HM1 := Lib.hid (HMG.out w1 (Nat.le_trans HBB.out HG1.out.size) HR1.out)
  go_wp2_with (first | (go_at_call 137; refine HM1.out.mono ?_; rintro e w2 ⟨rfl, hr2, hg2⟩; have HR2 := Lib.hid hr2; have HG2 := Lib.hid (GrownBy.trans HG1.out hg2); clear hr2 hg2 hbd1 hgl1) |
    (at_builtin; refine Sh.put_one mgE x (w := w2) (base := w.heap.size) (l := []) rfl (.tmp 16) (.tmp 19) rfl (OwnE.nil _ _ _ _ _) HG2.out.size (by simp) _ rfl rfl _ rfl rfl ?_; intro v3 w3 ho3 hg3; have HO3 := Lib.hid ho3; have HG3 := Lib.hid hg3; have HR3 := Lib.hid (HR2.out.frame (fun b hb => hg3.block b (Nat.lt_of_lt_of_le hb (Nat.le_trans HBB.out HG2.out.size)) (by simp [Value.ownBlock])) (hg3.block g HR2.out.lt (by simp [Value.ownBlock]))); have hbd3 := rd_bad HR3.out; have hgl3 := HR3.out.lt; clear ho3 hg3))
  go_step3
  refine unroll_goto _ rfl ?_
  obtain ⟨a3, c3, rfl, hm3, hn3⟩ := OwnE.at mgE HO3.out
  have HM3 := Lib.hid (And.intro hm3 hn3)
  clear hm3 hn3
  go_wp2_with fail
  refine unroll_ret ?_
  go_ret
  exact ⟨a3, c3, rfl, HM3.out.1, HM3.out.2, HR3.out, GrownBy.trans HG2.out ⟨HG3.out.os, HG3.out.tape, HG3.out.output, HG3.out.size, fun k hk _ => HG3.out.block k hk (by simp [Value.ownBlock])⟩⟩

end Go.Proofs.Ythohjcfpobeplaa.Sl

namespace Go.Proofs.Ythohjcfpobeplaa.Sl
open Go.RowKit Rg Sh
set_option linter.unusedVariables false
set_option linter.unusedSimpArgs false
variable {B : Nat}

theorem load_rc {w : World} {g : Nat} {x0 x1 x2 x3 x4 x5 x6 x7 x8 : Value} (h : w.heap[g]? = some (.cells #[x0, x1, x2, x3, x4, x5, x6, x7, x8] 89 (0, 0))) : (loadVar 89 ⟨g, 0, none⟩).run Try.prog w = .ok (.agg #[x0, x1, x2, x3, x4, x5, x6, x7, x8]) w := by
  obtain ⟨⟨c0, c1, c2, c3, c4, c5, c6, c7, c8⟩, -⟩ := box9 h
  simp [go_sem, *]
theorem res_rc {fn : Func} {i : Tmp} {tmps : Array Value} {g : Nat} {x0 x1 x2 x3 x4 x5 x6 x7 x8 : Value} {w : World} (hr : fn.results = #[.cell i 89]) (hi : tmps.getD i undef = .pointer (some ⟨g, 0, none⟩))
    (h : w.heap[g]? = some (.cells #[x0, x1, x2, x3, x4, x5, x6, x7, x8] 89 (0, 0))) : (results fn tmps).run Try.prog w = .ok (.agg #[x0, x1, x2, x3, x4, x5, x6, x7, x8]) w := by
  have hl := load_rc h
  unfold results
  rw [hr]
  rw [Array.getD_eq_getD_getElem?] at hi
  obtain ⟨⟨c0, c1, c2, c3, c4, c5, c6, c7, c8⟩, -⟩ := box9 h
  simp [go_sem, hi, *]
theorem res_rc2 {fn : Func} {i j : Tmp} {tmps : Array Value} {g : Nat} {c x0 x1 x2 x3 x4 x5 x6 x7 x8 : Value} {w : World} (hr : fn.results = #[.cell i 89, .tmp j]) (hi : tmps.getD i undef = .pointer (some ⟨g, 0, none⟩)) (hj : tmps.getD j undef = c)
    (h : w.heap[g]? = some (.cells #[x0, x1, x2, x3, x4, x5, x6, x7, x8] 89 (0, 0))) : (results fn tmps).run Try.prog w = .ok (.tuple #[.agg #[x0, x1, x2, x3, x4, x5, x6, x7, x8], c]) w := by
  have hl := load_rc h
  unfold results
  rw [hr]
  rw [Array.getD_eq_getD_getElem?] at hi hj
  obtain ⟨⟨c0, c1, c2, c3, c4, c5, c6, c7, c8⟩, -⟩ := box9 h
  simp [go_sem, hi, hj, *]
theorem equal2_any {B C : Nat} (a b : Option Addr) (c d : Nat) (l m : List UInt8) (w : World) (hl : BytesAt B w a l) (hm : BytesAt C w b m) (h : l = m) :
    Calls Try.prog 122 #[.slice a l.length c, .slice b m.length d] w fun e w' => e = .returned (.bool true) ∧ w = w' := by
  have h1 := conv_str c hl
  have h2 := conv_str d hm
  clear hl hm
  subst h
  go_enter Try.func122, Try.ntmps122
  go_wp2_with fail
  go_ret
  exact ⟨by simp, rfl⟩
theorem set9_grown {w w2 : World} {g n : Nat} (h : w.grownBy w2 (some g)) (hn : w.heap.size ≤ n) (x0 x1 x2 x3 x4 x5 x6 x7 x8 : Value) : w.grownBy (set9 w2 n x0 x1 x2 x3 x4 x5 x6 x7 x8) (some g) := by
  unfold set9
  exact set_later (set_later (set_later (set_later (set_later (set_later (set_later (set_later (set_later h hn) hn) hn) hn) hn) hn) hn) hn) hn

set_option maxRecDepth 100000 in
set_option maxHeartbeats 4000000 in
theorem read_one (g : Nat) (l r0 r1 : List UInt8) (hn0 : numP 1 l = (1, r0, false)) (hn1 : numP 1 r0 = (1, r1, false)) (hbd : badM r1 = false) (w : World) (hB : B ≤ w.heap.size) (hr : Rd RT B w g l false) :
    Calls Try.prog 121 #[.pointer (some ⟨g, 0, none⟩)] w fun e w' => ∃ ba bc, e = .returned (.agg #[.int .i64 1, .int .i64 0, .bool false, .slice ba 1 bc, .bool false, .int .i64 0, .slice none 0 0, .slice none 0 0, .slice none 0 0]) ∧ MgsAt w' ba bc [rdM r1] ∧ (ba = none → bc = 0) ∧ w.grownBy w' (some g) := by
  obtain ⟨hx, hb0, hWs⟩ := one_box (w := w) (.cells #[.int .i64 0, .int .i64 0, .bool false, .slice none 0 0, .bool false, .int .i64 0, .slice none 0 0, .slice none 0 0, .slice none 0 0] 89)
  obtain ⟨W, hW⟩ : ∃ W, W = w.alloc (.cells #[.int .i64 0, .int .i64 0, .bool false, .slice none 0 0, .bool false, .int .i64 0, .slice none 0 0, .slice none 0 0, .slice none 0 0] 89) := ⟨_, rfl⟩
  have hr1 : Rd RT B W g l false := by rw [hW]; exact hr.alloc _
  rw [← hW] at hx hb0 hWs
  have hgw := hr.lt
  have HX := Lib.hid hx
  have HWS := Lib.hid hWs
  have HW := Lib.hid hW
  have h1 : Calls Try.prog 132 #[.pointer (some ⟨g, 0, none⟩), .int .i64 1] W fun e w' => e = .returned (.int .u64 1) ∧ Rd RT B w' g r0 false ∧ W.grownBy w' (some g) := num_is (by omega) hn0 hr1
  rw [hW] at h1
  have H1 := Lib.hid h1
  have HRS := Lib.hid fun (wx : World) (hB : B ≤ wx.heap.size) (hr : Rd RT B wx g r0 false) => readMsgs_one g r0 r1 hn1 hbd wx hB hr
  have HBB := Lib.hid hB
  clear hn0 hn1 hbd hr hr1 h1 hB hx hb0 hWs hW
  generalize rdM r1 = x at *
  go_enter Try.func121, Try.ntmps121
  go_upto_region 2 with (go_at_call 132; refine H1.out.mono ?_; rintro e w1 ⟨rfl, hr1, hg1⟩; rw [← HW.out] at hg1; have HR1 := Lib.hid hr1; have HG1 := Lib.hid hg1; clear hr1 hg1)
  have p1 := heap_alloc_new w1 (.cells #[.int .i64 1, .int .i64 0, .bool false, .slice none 0 0, .bool false, .int .i64 0, .slice none 0 0, .slice none 0 0, .slice none 0 0] 89)
  have p2 := HR1.out.alloc (.cells #[.int .i64 1, .int .i64 0, .bool false, .slice none 0 0, .bool false, .int .i64 0, .slice none 0 0, .slice none 0 0, .slice none 0 0] 89)
  have p3 := GrownBy.trans HG1.out (World.grownBy_alloc w1 (.cells #[.int .i64 1, .int .i64 0, .bool false, .slice none 0 0, .bool false, .int .i64 0, .slice none 0 0, .slice none 0 0, .slice none 0 0] 89) (some g))
  generalize w1.alloc (.cells #[.int .i64 1, .int .i64 0, .bool false, .slice none 0 0, .bool false, .int .i64 0, .slice none 0 0, .slice none 0 0, .slice none 0 0] 89) = W4 at *
  have HY4 := Lib.hid p1
  have HG4 := Lib.hid p3
  have hz3 := HG1.out.size
  have hws := HWS.out
  have HC := Lib.hid (HRS.out W4 (Nat.le_trans (Nat.le_trans HBB.out (by omega)) p3.size) p2)
  clear p1 p2 p3 HR1 HG1 HRS
  generalize w1.heap.size = gm at *
  obtain ⟨⟨c0, c1, c2, c3, c4, c5, c6, c7, c8⟩, f0, f1, f2, f3, f4, f5, f6, f7, f8⟩ := box9 HY4.out
  go_upto_region 11 with (go_at_call 133; refine HC.out.mono ?_; rintro e w5 ⟨ba, bc, rfl, hm5, hn5, hr5, hg5⟩; have HM5 := Lib.hid hm5; have HN5 := Lib.hid hn5; have HG5 := Lib.hid hg5; have HY5 := Lib.hid ((hg5.block gm (box_lt HY4.out).1 (by intro e; cases e; omega)).trans HY4.out); obtain ⟨⟨c0, c1, c2, c3, c4, c5, c6, c7, c8⟩, f0, f1, f2, f3, f4, f5, f6, f7, f8⟩ := box9 HY5.out; clear hm5 hn5 hr5 hg5)
  generalize hE : World.setCell w5 _ _ = E
  have hgw2 : w.grownBy w5 (some g) := GrownBy.trans (GrownBy.trans (HW.out ▸ World.grownBy_alloc w _ (some g)) HG4.out) HG5.out
  have HXE : Hid (E.heap[w.heap.size]? = some (.cells #[.int .i64 0, .int .i64 0, .bool false, .slice none 0 0, .bool false, .int .i64 0, .slice none 0 0, .slice none 0 0, .slice none 0 0] 89 (0, 0))) := Lib.hid (by
    rw [← hE, Below.heap_setCell _ _ _ _ (show w.heap.size ≠ gm by omega), HG5.out.block _ (Nat.lt_of_lt_of_le (show w.heap.size < W.heap.size by omega) HG4.out.size) (by intro e; cases e; omega), HG4.out.block _ (by omega) (by intro e; cases e; omega)]
    exact HX.out)
  have HYE : Hid (E.heap[gm]? = some (.cells #[.int .i64 1, .int .i64 0, .bool false, .slice ba 1 bc, .bool false, .int .i64 0, .slice none 0 0, .slice none 0 0, .slice none 0 0] 89 (0, 0))) := Lib.hid (by
    rw [← hE]
    exact set_heap HY5.out 3 (.slice ba 1 bc))
  have HGE : Hid (w.grownBy E (some g)) := Lib.hid (by rw [← hE]; exact set_later hgw2 (by omega))
  have HME : Hid (MgsAt E ba bc [x]) := Lib.hid (rows_keep (fun x => ⟨2, _, rfl⟩) HM5.out HY5.out (nt_rec ⟨1, 0, false, [], ⟨false, 0, [], [], []⟩⟩ none 0 none 0 none 0 none 0).no fun b hb => by rw [← hE]; exact Below.heap_setCell _ _ _ _ hb)
  have HFIN : Hid (∀ x0 x1 x2 x3 x4 x5 x6 x7 x8, MgsAt (set9 E w.heap.size x0 x1 x2 x3 x4 x5 x6 x7 x8) ba bc [x] ∧ w.grownBy (set9 E w.heap.size x0 x1 x2 x3 x4 x5 x6 x7 x8) (some g)) := Lib.hid fun x0 x1 x2 x3 x4 x5 x6 x7 x8 =>
    ⟨rows_keep (fun x => ⟨2, _, rfl⟩) HME.out HXE.out (nt_rec ⟨0, 0, false, [], ⟨false, 0, [], [], []⟩⟩ none 0 none 0 none 0 none 0).no fun b hb => set9_heap _ _ _ _ _ _ _ _ _ _ _ _ hb, set9_grown HGE.out (Nat.le_refl _) _ _ _ _ _ _ _ _ _⟩
  clear hE hgw2 c0 c1 c2 c3 c4 c5 c6 c7 c8 f0 f1 f2 f3 f4 f5 f6 f7 f8 HG4 HG5 HY4 HY5 HX HGE HME HM5
  obtain ⟨⟨c0, c1, c2, c3, c4, c5, c6, c7, c8⟩, -⟩ := box9 HYE.out
  obtain ⟨⟨d0, d1, d2, d3, d4, d5, d6, d7, d8⟩, f0, f1, f2, f3, f4, f5, f6, f7, f8⟩ := box9 HXE.out
  go_wp2_with fail
  refine bodyPost_ret (v := .agg #[.int .i64 1, .int .i64 0, .bool false, .slice ba 1 bc, .bool false, .int .i64 0, .slice none 0 0, .slice none 0 0, .slice none 0 0]) (res_rc (i := 2) (g := w.heap.size) Try.results121 rfl (set9_box HXE.out _ _ _ _ _ _ _ _ _)) rfl ?_
  exact ⟨ba, bc, rfl, (HFIN.out _ _ _ _ _ _ _ _ _).1, HN5.out, (HFIN.out _ _ _ _ _ _ _ _ _).2⟩

set_option maxRecDepth 100000 in
set_option maxHeartbeats 4000000 in
theorem read_nil (g : Nat) (w : World) (hr : Rd RT B w g [] false) :
    Calls Try.prog 121 #[.pointer (some ⟨g, 0, none⟩)] w fun e w' => e = .returned (.agg #[.int .i64 0, .int .i64 0, .bool false, .slice none 0 0, .bool false, .int .i64 0, .slice none 0 0, .slice none 0 0, .slice none 0 0]) ∧ w.grownBy w' (some g) := by
  obtain ⟨hx, hb0, hWs⟩ := one_box (w := w) (.cells #[.int .i64 0, .int .i64 0, .bool false, .slice none 0 0, .bool false, .int .i64 0, .slice none 0 0, .slice none 0 0, .slice none 0 0] 89)
  obtain ⟨W, hW⟩ : ∃ W, W = w.alloc (.cells #[.int .i64 0, .int .i64 0, .bool false, .slice none 0 0, .bool false, .int .i64 0, .slice none 0 0, .slice none 0 0, .slice none 0 0] 89) := ⟨_, rfl⟩
  have hr1 : Rd RT B W g [] false := by rw [hW]; exact hr.alloc _
  rw [← hW] at hx hb0 hWs
  have hgw := hr.lt
  have HX := Lib.hid hx
  have HWS := Lib.hid hWs
  have HW := Lib.hid hW
  have h1 : Calls Try.prog 132 #[.pointer (some ⟨g, 0, none⟩), .int .i64 1] W fun e w' => e = .returned (.int .u64 0) ∧ Rd RT B w' g [] true ∧ W.grownBy w' (some g) := num_is (k := 1) (n := 0) (r := []) (l := []) (bad := false) (b2 := true) (by omega) (by rfl) hr1
  rw [hW] at h1
  have H1 := Lib.hid h1
  clear hr hr1 h1 hx hb0 hWs hW
  go_enter Try.func121, Try.ntmps121
  go_upto_region 2 with (go_at_call 132; refine H1.out.mono ?_; rintro e w1 ⟨rfl, hr1, hg1⟩; rw [← HW.out] at hg1; have HG1 := Lib.hid hg1; clear hr1 hg1)
  have p1 := heap_alloc_new w1 (.cells #[.int .i64 0, .int .i64 0, .bool false, .slice none 0 0, .bool false, .int .i64 0, .slice none 0 0, .slice none 0 0, .slice none 0 0] 89)
  have p3 := GrownBy.trans HG1.out (World.grownBy_alloc w1 (.cells #[.int .i64 0, .int .i64 0, .bool false, .slice none 0 0, .bool false, .int .i64 0, .slice none 0 0, .slice none 0 0, .slice none 0 0] 89) (some g))
  generalize w1.alloc (.cells #[.int .i64 0, .int .i64 0, .bool false, .slice none 0 0, .bool false, .int .i64 0, .slice none 0 0, .slice none 0 0, .slice none 0 0] 89) = W4 at *
  have HY4 := Lib.hid p1
  have HG4 := Lib.hid p3
  have hz3 := HG1.out.size
  have hws := HWS.out
  clear p1 p3 HG1
  generalize w1.heap.size = gm at *
  have hgw2 : w.grownBy W4 (some g) := GrownBy.trans (HW.out ▸ World.grownBy_alloc w _ (some g)) HG4.out
  have HXE : Hid (W4.heap[w.heap.size]? = some (.cells #[.int .i64 0, .int .i64 0, .bool false, .slice none 0 0, .bool false, .int .i64 0, .slice none 0 0, .slice none 0 0, .slice none 0 0] 89 (0, 0))) := Lib.hid (by
    rw [HG4.out.block _ (by omega) (by intro e; cases e; omega)]
    exact HX.out)
  have HFIN : Hid (∀ x0 x1 x2 x3 x4 x5 x6 x7 x8, w.grownBy (set9 W4 w.heap.size x0 x1 x2 x3 x4 x5 x6 x7 x8) (some g)) := Lib.hid fun x0 x1 x2 x3 x4 x5 x6 x7 x8 => set9_grown hgw2 (Nat.le_refl _) _ _ _ _ _ _ _ _ _
  clear hgw2
  obtain ⟨⟨c0, c1, c2, c3, c4, c5, c6, c7, c8⟩, -⟩ := box9 HY4.out
  obtain ⟨⟨d0, d1, d2, d3, d4, d5, d6, d7, d8⟩, f0, f1, f2, f3, f4, f5, f6, f7, f8⟩ := box9 HXE.out
  go_wp2_with fail
  refine bodyPost_ret (v := .agg #[.int .i64 0, .int .i64 0, .bool false, .slice none 0 0, .bool false, .int .i64 0, .slice none 0 0, .slice none 0 0, .slice none 0 0]) (res_rc (i := 2) (g := w.heap.size) Try.results121 rfl (set9_box HXE.out _ _ _ _ _ _ _ _ _)) rfl ?_
  exact ⟨rfl, HFIN.out _ _ _ _ _ _ _ _ _⟩

end Go.Proofs.Ythohjcfpobeplaa.Sl

namespace Go.Proofs.Ythohjcfpobeplaa.Sl
open Go.RowKit Rg Sh
set_option linter.unusedVariables false
set_option linter.unusedSimpArgs false

theorem bytes_under {B : Nat} {w w' : World} {a : Option Addr} {l : List UInt8} (h : BytesAt B w a l) (hb : Below B w w') : BytesAt B w' a l := by
  intro h0
  obtain ⟨b, o, rfl, hbB, hc⟩ := h h0
  exact ⟨b, o, rfl, hbB, fun i hi => (hb.cell (p := ⟨b, o + i, none⟩) hbB).trans (hc i hi)⟩
set_option maxRecDepth 100000 in
set_option maxHeartbeats 4000000 in
theorem get_one (a : Option Addr) (cap : Nat) (D r0 r1 : List UInt8) (hn0 : numP 1 D = (1, r0, false)) (hn1 : numP 1 r0 = (1, r1, false)) (hbd : badM r1 = false) (hmay : MayMg (rdM r1)) (hby : be 1 1 ++ msgsB [rdM r1] = D) (w : World)
    (hat : BytesAt w.heap.size w a D) (hlc : D.length ≤ cap) (hcm : cap ≤ maxLen) :
    Calls Try.prog 98 #[.slice a D.length cap] w fun e w' => ∃ ba bc, e = .returned (.tuple #[.agg #[.int .i64 1, .int .i64 0, .bool false, .slice ba 1 bc, .bool false, .int .i64 0, .slice none 0 0, .slice none 0 0, .slice none 0 0], .int .i64 0]) ∧ RcAt w' ba bc none 0 none 0 none 0 ⟨1, 0, false, [rdM r1], ⟨false, 0, [], [], []⟩⟩ ∧ Below w.heap.size w w' := by
  obtain ⟨hx, hy, hb0, hWs⟩ := two_box (w := w) (.cells #[.int .i64 0, .int .i64 0, .bool false, .slice none 0 0, .bool false, .int .i64 0, .slice none 0 0, .slice none 0 0, .slice none 0 0] 89) (.cells #[.slice a D.length cap, .bool false] RT)
  obtain ⟨W, hW⟩ : ∃ W, W = (w.alloc (.cells #[.int .i64 0, .int .i64 0, .bool false, .slice none 0 0, .bool false, .int .i64 0, .slice none 0 0, .slice none 0 0, .slice none 0 0] 89)).alloc (.cells #[.slice a D.length cap, .bool false] RT) := ⟨_, rfl⟩
  rw [← hW] at hx hy hb0 hWs
  have hrd : Rd RT w.heap.size W (w.heap.size + 1) D false := ⟨.slice a D.length cap, hy, a, cap, rfl, hlc, hcm, bytes_under hat hb0⟩
  have h1 := read_one (w.heap.size + 1) D r0 r1 hn0 hn1 hbd W (by omega) hrd
  rw [hW] at h1
  have H1 := Lib.hid h1
  have HX := Lib.hid hx
  have HB0 := Lib.hid hb0
  have HWS := Lib.hid hWs
  have HW := Lib.hid hW
  have HAT := Lib.hid hat
  have HMX : Hid (∀ m ∈ [rdM r1], MayMg m) := Lib.hid (by intro m hm; rw [List.mem_singleton] at hm; rw [hm]; exact hmay)
  have HBY := Lib.hid hby
  clear hx hy hb0 hWs hW hrd h1 hat hmay hby hn0 hn1 hbd
  generalize rdM r1 = x at *
  generalize hdl : D.length = dl at *
  have HDL := Lib.hid hdl
  clear hdl
  go_enter Try.func98, Try.ntmps98
  go_upto_region 2 with (go_at_call 121; refine H1.out.mono ?_; rintro e w3 ⟨ba, bc, rfl, hm3, hn3, hg3⟩; rw [← HW.out] at hg3; have HM3 := Lib.hid hm3; have HN3 := Lib.hid hn3; have HG3 := Lib.hid hg3; clear hm3 hn3 hg3)
  have p1 := heap_alloc_new w3 (.cells #[.int .i64 1, .int .i64 0, .bool false, .slice ba 1 bc, .bool false, .int .i64 0, .slice none 0 0, .slice none 0 0, .slice none 0 0] 89)
  have p2 : Below w3.heap.size w3 (w3.alloc (.cells #[.int .i64 1, .int .i64 0, .bool false, .slice ba 1 bc, .bool false, .int .i64 0, .slice none 0 0, .slice none 0 0, .slice none 0 0] 89)) := (Below.refl _ _).alloc (Nat.le_refl _) _
  generalize w3.alloc (.cells #[.int .i64 1, .int .i64 0, .bool false, .slice ba 1 bc, .bool false, .int .i64 0, .slice none 0 0, .slice none 0 0, .slice none 0 0] 89) = W4 at *
  have hws := HWS.out
  have hz3 := HG3.out.size
  have hb3 : Below w.heap.size w w3 := HB0.out.grown HG3.out (by omega) (fun k hk => by cases hk; omega)
  have HB4 := Lib.hid (hb3.trans (p2.mono hb3.size))
  have HRC := Lib.hid (show RcAt W4 ba bc none 0 none 0 none 0 ⟨1, 0, false, [x], ⟨false, 0, [], [], []⟩⟩ from ⟨HM3.out.below p2, HN3.out, (by decide : 1 ≤ 1000), sd_zero _⟩)
  have HR4 := Lib.hid p1
  have HX4 := Lib.hid (box_bl ((HG3.out.block w.heap.size (by omega) (fun e => by have := Option.some.inj e; omega)).trans HX.out) p2)
  have HMAY : Hid (Calls Try.prog 97 #[.agg #[.int .i64 1, .int .i64 0, .bool false, .slice ba 1 bc, .bool false, .int .i64 0, .slice none 0 0, .slice none 0 0, .slice none 0 0]] W4 fun e w' => ∃ v, e = .returned (.tuple #[v, .int .i64 0]) ∧ Buf w' W4.heap.size v (be 1 1 ++ msgsB [x]) ∧ Below W4.heap.size W4 w') := Lib.hid (put_put_any [x] ba bc none 0 none 0 none 0 W4 HRC.out (Nat.le_refl 1) (show 1 ≤ 8 by decide) HMX.out)
  clear p1 p2 hb3 HM3 HN3 HG3 H1 HX
  generalize w3.heap.size = gr at *
  obtain ⟨⟨c0, c1, c2, c3, c4, c5, c6, c7, c8⟩, -⟩ := box9 HR4.out
  go_upto_region 3 with (go_at_call 97; refine HMAY.out.mono ?_; rintro e w5 ⟨v5, rfl, hu5, hb5⟩; rw [HBY.out] at hu5; obtain ⟨aq, cq, rfl, hl5, hc5, hat5⟩ := hu5.bytes; rw [HDL.out]; have HA5 := Lib.hid hat5; have HB5 := Lib.hid hb5; clear hu5 hl5 hc5 hat5 hb5)
  have HB6 := Lib.hid (HB4.out.trans (HB5.out.mono HB4.out.size))
  have HR5 := Lib.hid (box_bl HR4.out HB5.out)
  have HX5 := Lib.hid (box_bl HX4.out HB5.out)
  have HRC5 := Lib.hid (RcAt.below _ _ _ _ _ _ _ _ HRC.out HB5.out)
  have he : Calls Try.prog 122 #[.slice aq dl cq, .slice a dl cap] w5 fun e w' => e = .returned (.bool true) ∧ w5 = w' := by
    have := equal2_any aq a cq cap D D w5 HA5.out (bytes_under HAT.out HB6.out) rfl
    rwa [HDL.out] at this
  have HE := Lib.hid he
  clear c0 c1 c2 c3 c4 c5 c6 c7 c8 HMAY HR4 HX4 HRC HB4 HB5 HA5 he
  obtain ⟨⟨c0, c1, c2, c3, c4, c5, c6, c7, c8⟩, -⟩ := box9 HR5.out
  obtain ⟨⟨d0, d1, d2, d3, d4, d5, d6, d7, d8⟩, f0, f1, f2, f3, f4, f5, f6, f7, f8⟩ := box9 HX5.out
  go_wp2_with (go_at_call 122; refine HE.out.mono ?_; rintro e w6 ⟨rfl, rfl⟩)
  refine bodyPost_ret (v := .tuple #[.agg #[.int .i64 1, .int .i64 0, .bool false, .slice ba 1 bc, .bool false, .int .i64 0, .slice none 0 0, .slice none 0 0, .slice none 0 0], .int .i64 0]) (res_rc2 (i := 2) (j := 3) (g := w.heap.size) Try.results98 rfl rfl (set9_box HX5.out _ _ _ _ _ _ _ _ _)) rfl ?_
  exact ⟨ba, bc, rfl, ⟨rows_keep (fun x => ⟨2, _, rfl⟩) HRC5.out.bt HX5.out (nt_rec ⟨0, 0, false, [], ⟨false, 0, [], [], []⟩⟩ none 0 none 0 none 0 none 0).no fun b hb => set9_heap _ _ _ _ _ _ _ _ _ _ _ _ hb, HRC5.out.bn, HRC5.out.bl, sd_zero _⟩, set9_below HB6.out (Nat.le_refl _) _ _ _ _ _ _ _ _ _⟩

set_option maxRecDepth 100000 in
set_option maxHeartbeats 4000000 in
theorem get_nil (w : World) :
    Calls Try.prog 98 #[.slice none 0 0] w fun e w' => e = .returned (.tuple #[.agg #[.int .i64 0, .int .i64 0, .bool false, .slice none 0 0, .bool false, .int .i64 0, .slice none 0 0, .slice none 0 0, .slice none 0 0], .int .i64 2]) ∧ Below w.heap.size w w' := by
  obtain ⟨hx, hy, hb0, hWs⟩ := two_box (w := w) (.cells #[.int .i64 0, .int .i64 0, .bool false, .slice none 0 0, .bool false, .int .i64 0, .slice none 0 0, .slice none 0 0, .slice none 0 0] 89) (.cells #[.slice none 0 0, .bool false] RT)
  obtain ⟨W, hW⟩ : ∃ W, W = (w.alloc (.cells #[.int .i64 0, .int .i64 0, .bool false, .slice none 0 0, .bool false, .int .i64 0, .slice none 0 0, .slice none 0 0, .slice none 0 0] 89)).alloc (.cells #[.slice none 0 0, .bool false] RT) := ⟨_, rfl⟩
  rw [← hW] at hx hy hb0 hWs
  have hrd : Rd RT w.heap.size W (w.heap.size + 1) [] false := ⟨.slice none 0 0, hy, none, 0, rfl, Nat.le_refl _, by simp [maxLen], fun h => by simp at h⟩
  have h1 := read_nil (w.heap.size + 1) W hrd
  rw [hW] at h1
  have H1 := Lib.hid h1
  have HX := Lib.hid hx
  have HB0 := Lib.hid hb0
  have HWS := Lib.hid hWs
  have HW := Lib.hid hW
  clear hx hy hb0 hWs hW hrd h1
  go_enter Try.func98, Try.ntmps98
  go_upto_region 2 with (go_at_call 121; refine H1.out.mono ?_; rintro e w3 ⟨rfl, hg3⟩; rw [← HW.out] at hg3; have HG3 := Lib.hid hg3; clear hg3)
  have p1 := heap_alloc_new w3 (.cells #[.int .i64 0, .int .i64 0, .bool false, .slice none 0 0, .bool false, .int .i64 0, .slice none 0 0, .slice none 0 0, .slice none 0 0] 89)
  have p2 : Below w3.heap.size w3 (w3.alloc (.cells #[.int .i64 0, .int .i64 0, .bool false, .slice none 0 0, .bool false, .int .i64 0, .slice none 0 0, .slice none 0 0, .slice none 0 0] 89)) := (Below.refl _ _).alloc (Nat.le_refl _) _
  generalize w3.alloc (.cells #[.int .i64 0, .int .i64 0, .bool false, .slice none 0 0, .bool false, .int .i64 0, .slice none 0 0, .slice none 0 0, .slice none 0 0] 89) = W4 at *
  have hws := HWS.out
  have hz3 := HG3.out.size
  have hb3 : Below w.heap.size w w3 := HB0.out.grown HG3.out (by omega) (fun k hk => by cases hk; omega)
  have HB4 := Lib.hid (hb3.trans (p2.mono hb3.size))
  have HR4 := Lib.hid p1
  have HX4 := Lib.hid (box_bl ((HG3.out.block w.heap.size (by omega) (fun e => by have := Option.some.inj e; omega)).trans HX.out) p2)
  have HPZ := Lib.hid (put_zero_any W4)
  clear p1 p2 hb3 HG3 H1 HX
  generalize w3.heap.size = gr at *
  obtain ⟨⟨c0, c1, c2, c3, c4, c5, c6, c7, c8⟩, -⟩ := box9 HR4.out
  go_upto_region 3 with (go_at_call 97; refine HPZ.out.mono ?_; rintro e w5 ⟨rfl, hb5⟩; have HB5 := Lib.hid hb5; clear hb5)
  have HB6 := Lib.hid (HB4.out.trans (HB5.out.mono HB4.out.size))
  have HX5 := Lib.hid (box_bl HX4.out HB5.out)
  clear c0 c1 c2 c3 c4 c5 c6 c7 c8 HPZ HR4 HX4 HB4 HB5
  obtain ⟨⟨d0, d1, d2, d3, d4, d5, d6, d7, d8⟩, f0, f1, f2, f3, f4, f5, f6, f7, f8⟩ := box9 HX5.out
  go_wp2_with fail
  refine bodyPost_ret (v := .tuple #[.agg #[.int .i64 0, .int .i64 0, .bool false, .slice none 0 0, .bool false, .int .i64 0, .slice none 0 0, .slice none 0 0, .slice none 0 0], .int .i64 2]) (res_rc2 (i := 2) (j := 3) (g := w.heap.size) Try.results98 rfl rfl (set9_box HX5.out _ _ _ _ _ _ _ _ _)) rfl ?_
  exact ⟨rfl, set9_below HB6.out (Nat.le_refl _) _ _ _ _ _ _ _ _ _⟩

end Go.Proofs.Ythohjcfpobeplaa.Sl

namespace Go.Proofs.Ythohjcfpobeplaa.Sl
open Go.RowKit Rg Sh
set_option linter.unusedVariables false
set_option linter.unusedSimpArgs false

def tS : Mg := ⟨1, 2, [107], [98, 99], false⟩
def tD : List UInt8 := [1, 1, 1, 0, 0, 0, 2, 0, 1, 107, 2, 98, 99]
theorem t_may : MayMg tS := by decide +kernel
theorem t_put : be 1 1 ++ msgsB [tS] = tD := by decide +kernel
theorem t_n0 : numP 1 tD = (1, tD.drop 1, false) := by decide +kernel
theorem t_n1 : numP 1 (tD.drop 1) = (1, tD.drop 2, false) := by decide +kernel
theorem t_bad : badM (tD.drop 2) = false := by decide +kernel
theorem t_rd : rdM (tD.drop 2) = tS := by decide +kernel
theorem t_op3 : openF sd1 [⟨1, 0, false, [tS], ⟨false, 0, [], [], []⟩⟩, ⟨2, 1, false, [], ⟨false, 0, [], [], []⟩⟩, ⟨3, 1, false, [], ⟨false, 0, [], [], []⟩⟩] = ((⟨false, 2, [], [], [⟨1, [107], 2⟩]⟩ : Sd), 0) := by decide +kernel
theorem t_op1 : openF sd1 [⟨2, 1, false, [], ⟨false, 0, [], [], []⟩⟩] = (sd1, 3) := by decide +kernel
theorem t_str : ((⟨tD.toArray⟩ : ByteArray).toList == (⟨#[1, 1, 1, 0, 0, 0, 2, 0, 1, 107, 2, 98, 99]⟩ : ByteArray).toList) = true := beq_str rfl
theorem mayR1 : MayRc ⟨1, 0, false, [tS], ⟨false, 0, [], [], []⟩⟩ := ⟨rfl, .inl ⟨rfl, rfl, rfl, Nat.le_refl _, (by decide : 1 ≤ 8), fun m hm => by rw [List.mem_singleton] at hm; rw [hm]; exact t_may⟩⟩
theorem mayR2 : MayRc ⟨2, 1, false, [], ⟨false, 0, [], [], []⟩⟩ := ⟨rfl, .inr (.inl ⟨.inl rfl, by decide, by decide, rfl, rfl⟩)⟩
theorem mayR3 : MayRc ⟨3, 1, false, [], ⟨false, 0, [], [], []⟩⟩ := ⟨rfl, .inr (.inl ⟨.inr (.inl rfl), by decide, by decide, rfl, rfl⟩)⟩
theorem rx_lit {w : World} {g n : Nat} {l : List Rx} (hn : n = l.length) (hm : n ≤ 1000) (h : w.heap[g]? = some (.cells (l.flatMap rxC).toArray 89 (0, 0))) : RowsAt 9 rxC w (some ⟨g, 0, none⟩) n l := by
  subst hn
  refine ⟨Nat.le_refl _, by unfold maxLen; omega, fun _ => ⟨g, 0, rfl, fun i hi r v hv => ?_⟩⟩
  rw [cell_of_row w _ _ _ _ _ h]
  have hr : r < 9 := by
    have h1 := (List.getElem?_eq_some_iff.1 hv).1
    exact h1
  rw [Nat.zero_add, List.getElem?_toArray, flats_get (k := 9) (f := rxC) (fun _ => rfl) l i r hi hr]
  exact hv

set_option maxRecDepth 100000 in
set_option maxHeartbeats 8000000 in
theorem told_any (w : World) : Calls Try.prog 57 #[] w fun e w' => e = .returned (.bool true) ∧ Below w.heap.size w w' := by
  have HD : Hid (be 1 1 ++ msgsB [tS] = tD) := Lib.hid t_put
  have HST := Lib.hid t_str
  have HRD := Lib.hid t_rd
  have hgo := fun (a : Option Addr) (cap : Nat) (wx : World) (h1 : BytesAt wx.heap.size wx a tD) (h2 : tD.length ≤ cap) (h3 : cap ≤ maxLen) => get_one a cap tD _ _ t_n0 t_n1 t_bad (t_rd ▸ t_may) (t_rd ▸ t_put) wx h1 h2 h3
  rw [t_rd] at hgo
  have HGO := Lib.hid hgo
  clear hgo
  obtain ⟨p1, p2, p3, p4⟩ := two_box (w := w) (.cells #[.int .i64 1, .int .i64 2, .string ⟨#[107]⟩, .string ⟨#[98, 99]⟩, .bool false] 35) (.cells #[.int .i64 1, .int .i64 0, .bool false, .slice (some ⟨w.heap.size, 0, none⟩) 1 1, .bool false, .int .i64 0, .slice none 0 0, .slice none 0 0, .slice none 0 0] 89)
  have HP := Lib.hid (And.intro p1 (And.intro p2 (And.intro p3 p4)))
  clear p1 p2 p3 p4
  have HDL : Hid (tD = [1, 1, 1, 0, 0, 0, 2, 0, 1, 107, 2, 98, 99]) := Lib.hid rfl
  have hlen : tD.length = 13 := rfl
  generalize tD = D at *
  have HLN := Lib.hid hlen
  clear hlen
  go_enter Try.func57, Try.ntmps57
  go_upto_region 2 with fail
  obtain ⟨p1, p2, p3, p4⟩ := HP.out
  clear HP
  generalize (w.alloc (.cells #[.int .i64 1, .int .i64 2, .string ⟨#[107]⟩, .string ⟨#[98, 99]⟩, .bool false] 35)).alloc (.cells #[.int .i64 1, .int .i64 0, .bool false, .slice (some ⟨w.heap.size, 0, none⟩) 1 1, .bool false, .int .i64 0, .slice none 0 0, .slice none 0 0, .slice none 0 0] 89) = W1 at *
  have HR1 := Lib.hid p2
  have HB1 := Lib.hid p3
  have HRC := Lib.hid (show RcAt W1 (some ⟨w.heap.size, 0, none⟩) 1 none 0 none 0 none 0 ⟨1, 0, false, [tS], ⟨false, 0, [], [], []⟩⟩ from ⟨mgs_one (m := tS) p1, (fun e => by cases e), (by decide : 1 ≤ 1000), sd_zero _⟩)
  clear p1 p2 p3 p4
  obtain ⟨⟨c0, c1, c2, c3, c4, c5, c6, c7, c8⟩, -⟩ := box9 HR1.out
  have HPU : Hid (Calls Try.prog 97 #[.agg #[.int .i64 1, .int .i64 0, .bool false, .slice (some ⟨w.heap.size, 0, none⟩) 1 1, .bool false, .int .i64 0, .slice none 0 0, .slice none 0 0, .slice none 0 0]] W1 fun e w' => ∃ v, e = .returned (.tuple #[v, .int .i64 0]) ∧ Buf w' W1.heap.size v (be 1 1 ++ msgsB [tS]) ∧ Below W1.heap.size W1 w') := Lib.hid (put_put_any [tS] (some ⟨w.heap.size, 0, none⟩) 1 none 0 none 0 none 0 W1 HRC.out (Nat.le_refl 1) (show 1 ≤ 8 by decide) (fun m hm => by rw [List.mem_singleton] at hm; rw [hm]; exact t_may))
  go_upto_region 3 with (go_at_call 97; refine HPU.out.mono ?_; rintro e w2 ⟨v2, rfl, hu2, hb2⟩; rw [HD.out] at hu2; obtain ⟨aq, cq, rfl, hl2, hc2, hat2⟩ := hu2.bytes; have HA2 := Lib.hid hat2; have HL2 := Lib.hid (And.intro hl2 hc2); have HB2 := Lib.hid hb2; clear hu2 hl2 hc2 hat2 hb2)
  clear HPU c0 c1 c2 c3 c4 c5 c6 c7 c8
  have HRC2 := Lib.hid (RcAt.below _ _ _ _ _ _ _ _ HRC.out HB2.out)
  have HR2 := Lib.hid (box_bl HR1.out HB2.out)
  have HBW2 := Lib.hid (HB1.out.trans (HB2.out.mono HB1.out.size))
  clear HRC HR1 HB1 HB2
  have HG := Lib.hid (HGO.out aq cq w2 HA2.out HL2.out.1 HL2.out.2)
  clear HGO
  go_upto_region 4 with (go_at_call 98; refine HG.out.mono ?_; rintro e w3 ⟨ba, bc, rfl, hr3, hb3⟩; have HRX := Lib.hid hr3; have HB3 := Lib.hid hb3; clear hr3 hb3)
  have p1 := heap_alloc_new w3 (.cells #[.int .i64 1, .int .i64 0, .bool false, .slice ba 1 bc, .bool false, .int .i64 0, .slice none 0 0, .slice none 0 0, .slice none 0 0] 89)
  have p2 : Below w3.heap.size w3 (w3.alloc (.cells #[.int .i64 1, .int .i64 0, .bool false, .slice ba 1 bc, .bool false, .int .i64 0, .slice none 0 0, .slice none 0 0, .slice none 0 0] 89)) := (Below.refl _ _).alloc (Nat.le_refl _) _
  generalize w3.alloc (.cells #[.int .i64 1, .int .i64 0, .bool false, .slice ba 1 bc, .bool false, .int .i64 0, .slice none 0 0, .slice none 0 0, .slice none 0 0] 89) = W4 at *
  have hb4 := HB3.out.trans (p2.mono HB3.out.size)
  have HRC4 := Lib.hid (RcAt.below _ _ _ _ _ _ _ _ HRC2.out hb4)
  have HR4 := Lib.hid (box_bl HR2.out hb4)
  have HX4 := Lib.hid p1
  have HXR4 := Lib.hid (RcAt.below _ _ _ _ _ _ _ _ HRX.out p2)
  have HA4 := Lib.hid (HA2.out.below hb4)
  have HBW4 := Lib.hid (HBW2.out.trans (hb4.mono HBW2.out.size))
  clear p1 p2 hb4 HG HRX HB3 HRC2 HR2 HBW2 HA2
  generalize w3.heap.size = gx at *
  have HGN := Lib.hid (get_nil W4)
  go_upto_region 5 with (go_at_call 98; (with_reducible refine HGN.out.mono ?_); rintro e w5 ⟨rfl, hb5⟩; have HB5 := Lib.hid hb5; clear hb5)
  have p2 : Below w5.heap.size w5 (w5.alloc (.cells #[.int .i64 0, .int .i64 0, .bool false, .slice none 0 0, .bool false, .int .i64 0, .slice none 0 0, .slice none 0 0, .slice none 0 0] 89)) := (Below.refl _ _).alloc (Nat.le_refl _) _
  generalize w5.alloc (.cells #[.int .i64 0, .int .i64 0, .bool false, .slice none 0 0, .bool false, .int .i64 0, .slice none 0 0, .slice none 0 0, .slice none 0 0] 89) = W6 at *
  have HPZ := Lib.hid (put_zero_any W6)
  have HB6 := Lib.hid (HB5.out.trans (p2.mono HB5.out.size))
  clear p2 HGN HB5
  go_upto_region 6 with (go_at_call 97; refine HPZ.out.mono ?_; rintro e w7 ⟨rfl, hb7⟩; have HB7 := Lib.hid (HB6.out.trans (hb7.mono HB6.out.size)); clear hb7)
  clear HPZ HB6
  have HRC7 := Lib.hid (RcAt.below _ _ _ _ _ _ _ _ HRC4.out HB7.out)
  have HR7 := Lib.hid (box_bl HR4.out HB7.out)
  have HX7 := Lib.hid (box_bl HX4.out HB7.out)
  have HXR7 := Lib.hid (RcAt.below _ _ _ _ _ _ _ _ HXR4.out HB7.out)
  have HA7 := Lib.hid (HA4.out.below HB7.out)
  have HBW7 := Lib.hid (HBW4.out.trans (HB7.out.mono HBW4.out.size))
  clear HRC4 HR4 HX4 HXR4 HA4 HBW4 HB7
  obtain ⟨⟨c0, c1, c2, c3, c4, c5, c6, c7, c8⟩, -⟩ := box9 HR7.out
  have p1 := heap_alloc_new w7 (.cells #[.int .i64 1, .int .i64 0, .bool false, .slice (some ⟨w.heap.size, 0, none⟩) 1 1, .bool false, .int .i64 0, .slice none 0 0, .slice none 0 0, .slice none 0 0, .int .i64 2, .int .i64 1, .bool false, .slice none 0 0, .bool false, .int .i64 0, .slice none 0 0, .slice none 0 0, .slice none 0 0, .int .i64 3, .int .i64 1, .bool false, .slice none 0 0, .bool false, .int .i64 0, .slice none 0 0, .slice none 0 0, .slice none 0 0] 89)
  have p2 : Below w7.heap.size w7 (w7.alloc (.cells #[.int .i64 1, .int .i64 0, .bool false, .slice (some ⟨w.heap.size, 0, none⟩) 1 1, .bool false, .int .i64 0, .slice none 0 0, .slice none 0 0, .slice none 0 0, .int .i64 2, .int .i64 1, .bool false, .slice none 0 0, .bool false, .int .i64 0, .slice none 0 0, .slice none 0 0, .slice none 0 0, .int .i64 3, .int .i64 1, .bool false, .slice none 0 0, .bool false, .int .i64 0, .slice none 0 0, .slice none 0 0, .slice none 0 0] 89)) := (Below.refl _ _).alloc (Nat.le_refl _) _
  have HP3 : Hid (Calls Try.prog 59 #[.slice (some ⟨w7.heap.size, 0, none⟩) 3 3] (w7.alloc (.cells #[.int .i64 1, .int .i64 0, .bool false, .slice (some ⟨w.heap.size, 0, none⟩) 1 1, .bool false, .int .i64 0, .slice none 0 0, .slice none 0 0, .slice none 0 0, .int .i64 2, .int .i64 1, .bool false, .slice none 0 0, .bool false, .int .i64 0, .slice none 0 0, .slice none 0 0, .slice none 0 0, .int .i64 3, .int .i64 1, .bool false, .slice none 0 0, .bool false, .int .i64 0, .slice none 0 0, .slice none 0 0, .slice none 0 0] 89)) (ShR (⟨false, 2, [], [], [⟨1, [107], 2⟩]⟩ : Sd) 0 (w7.alloc (.cells #[.int .i64 1, .int .i64 0, .bool false, .slice (some ⟨w.heap.size, 0, none⟩) 1 1, .bool false, .int .i64 0, .slice none 0 0, .slice none 0 0, .slice none 0 0, .int .i64 2, .int .i64 1, .bool false, .slice none 0 0, .bool false, .int .i64 0, .slice none 0 0, .slice none 0 0, .slice none 0 0, .int .i64 3, .int .i64 1, .bool false, .slice none 0 0, .bool false, .int .i64 0, .slice none 0 0, .slice none 0 0, .slice none 0 0] 89)))) := Lib.hid (by
    have hall : ∀ y ∈ [(⟨⟨1, 0, false, [tS], ⟨false, 0, [], [], []⟩⟩, some ⟨w.heap.size, 0, none⟩, 1, none, 0, none, 0, none, 0⟩ : Rx), (⟨⟨2, 1, false, [], ⟨false, 0, [], [], []⟩⟩, none, 0, none, 0, none, 0, none, 0⟩ : Rx), (⟨⟨3, 1, false, [], ⟨false, 0, [], [], []⟩⟩, none, 0, none, 0, none, 0, none, 0⟩ : Rx)], RxAt (w7.alloc (.cells #[.int .i64 1, .int .i64 0, .bool false, .slice (some ⟨w.heap.size, 0, none⟩) 1 1, .bool false, .int .i64 0, .slice none 0 0, .slice none 0 0, .slice none 0 0, .int .i64 2, .int .i64 1, .bool false, .slice none 0 0, .bool false, .int .i64 0, .slice none 0 0, .slice none 0 0, .slice none 0 0, .int .i64 3, .int .i64 1, .bool false, .slice none 0 0, .bool false, .int .i64 0, .slice none 0 0, .slice none 0 0, .slice none 0 0] 89)) y ∧ MayRc y.r := by
      intro y hy
      simp only [List.mem_cons, List.not_mem_nil, or_false] at hy
      rcases hy with rfl | rfl | rfl
      · exact ⟨RcAt.below _ _ _ _ _ _ _ _ HRC7.out p2, mayR1⟩
      · exact ⟨mgs_nil' _ _ rfl rfl, mayR2⟩
      · exact ⟨mgs_nil' _ _ rfl rfl, mayR3⟩
    have h := open_any (some ⟨w7.heap.size, 0, none⟩) 3 [(⟨⟨1, 0, false, [tS], ⟨false, 0, [], [], []⟩⟩, some ⟨w.heap.size, 0, none⟩, 1, none, 0, none, 0, none, 0⟩ : Rx), (⟨⟨2, 1, false, [], ⟨false, 0, [], [], []⟩⟩, none, 0, none, 0, none, 0, none, 0⟩ : Rx), (⟨⟨3, 1, false, [], ⟨false, 0, [], [], []⟩⟩, none, 0, none, 0, none, 0, none, 0⟩ : Rx)] _ ⟨rx_lit rfl (by decide) p1, (fun e => by cases e), fun y hy => (hall y hy).1⟩ (fun y hy => (hall y hy).2)
    rw [show rcs [(⟨⟨1, 0, false, [tS], ⟨false, 0, [], [], []⟩⟩, some ⟨w.heap.size, 0, none⟩, 1, none, 0, none, 0, none, 0⟩ : Rx), (⟨⟨2, 1, false, [], ⟨false, 0, [], [], []⟩⟩, none, 0, none, 0, none, 0, none, 0⟩ : Rx), (⟨⟨3, 1, false, [], ⟨false, 0, [], [], []⟩⟩, none, 0, none, 0, none, 0, none, 0⟩ : Rx)] = [⟨1, 0, false, [tS], ⟨false, 0, [], [], []⟩⟩, ⟨2, 1, false, [], ⟨false, 0, [], [], []⟩⟩, ⟨3, 1, false, [], ⟨false, 0, [], [], []⟩⟩] from rfl, t_op3] at h
    exact h)
  have HB8 := Lib.hid p2
  clear p1 p2
  go_upto_region 7 with (go_at_call 59; refine HP3.out.mono ?_; rintro e w8 ⟨ra8, rc8, ha8, hc8, ma8, mc8, rfl, hs8, hb8⟩; have HS8 := Lib.hid hs8; have HB9 := Lib.hid (HB8.out.trans (hb8.mono HB8.out.size)); clear hs8 hb8)
  clear HP3 HB8 c0 c1 c2 c3 c4 c5 c6 c7 c8
  have p1 := heap_alloc_new w8 (.cells #[.bool (⟨false, 2, [], [], [⟨1, [107], 2⟩]⟩ : Sd).fr, .int .i64 (⟨false, 2, [], [], [⟨1, [107], 2⟩]⟩ : Sd).nx, .slice ra8 (⟨false, 2, [], [], [⟨1, [107], 2⟩]⟩ : Sd).rd.length rc8, .slice ha8 (⟨false, 2, [], [], [⟨1, [107], 2⟩]⟩ : Sd).hd.length hc8, .slice ma8 (⟨false, 2, [], [], [⟨1, [107], 2⟩]⟩ : Sd).ms.length mc8] 26)
  have p2 : Below w8.heap.size w8 (w8.alloc (.cells #[.bool (⟨false, 2, [], [], [⟨1, [107], 2⟩]⟩ : Sd).fr, .int .i64 (⟨false, 2, [], [], [⟨1, [107], 2⟩]⟩ : Sd).nx, .slice ra8 (⟨false, 2, [], [], [⟨1, [107], 2⟩]⟩ : Sd).rd.length rc8, .slice ha8 (⟨false, 2, [], [], [⟨1, [107], 2⟩]⟩ : Sd).hd.length hc8, .slice ma8 (⟨false, 2, [], [], [⟨1, [107], 2⟩]⟩ : Sd).ms.length mc8] 26)) := (Below.refl _ _).alloc (Nat.le_refl _) _
  dsimp only [List.length_nil, List.length_cons, Nat.zero_add] at p1 p2
  generalize w8.alloc (.cells #[.bool false, .int .i64 2, .slice ra8 0 rc8, .slice ha8 0 hc8, .slice ma8 1 mc8] 26) = W9 at *
  have HS9 := Lib.hid p1
  have HBA := Lib.hid (HB9.out.trans (p2.mono HB9.out.size))
  clear p1 p2 HS8 HB9
  generalize w8.heap.size = gs at *
  have q1 := heap_alloc_new W9 (.cells #[.int .i64 2, .int .i64 1, .bool false, .slice none 0 0, .bool false, .int .i64 0, .slice none 0 0, .slice none 0 0, .slice none 0 0] 89)
  have q2 : Below W9.heap.size W9 (W9.alloc (.cells #[.int .i64 2, .int .i64 1, .bool false, .slice none 0 0, .bool false, .int .i64 0, .slice none 0 0, .slice none 0 0, .slice none 0 0] 89)) := (Below.refl _ _).alloc (Nat.le_refl _) _
  have HP1 : Hid (Calls Try.prog 59 #[.slice (some ⟨W9.heap.size, 0, none⟩) 1 1] (W9.alloc (.cells #[.int .i64 2, .int .i64 1, .bool false, .slice none 0 0, .bool false, .int .i64 0, .slice none 0 0, .slice none 0 0, .slice none 0 0] 89)) (ShR sd1 3 (W9.alloc (.cells #[.int .i64 2, .int .i64 1, .bool false, .slice none 0 0, .bool false, .int .i64 0, .slice none 0 0, .slice none 0 0, .slice none 0 0] 89)))) := Lib.hid (by
    have hall : ∀ y ∈ [(⟨⟨2, 1, false, [], ⟨false, 0, [], [], []⟩⟩, none, 0, none, 0, none, 0, none, 0⟩ : Rx)], RxAt (W9.alloc (.cells #[.int .i64 2, .int .i64 1, .bool false, .slice none 0 0, .bool false, .int .i64 0, .slice none 0 0, .slice none 0 0, .slice none 0 0] 89)) y ∧ MayRc y.r := by
      intro y hy
      rw [List.mem_singleton] at hy
      subst hy
      exact ⟨mgs_nil' _ _ rfl rfl, mayR2⟩
    have h := open_any (some ⟨W9.heap.size, 0, none⟩) 1 [(⟨⟨2, 1, false, [], ⟨false, 0, [], [], []⟩⟩, none, 0, none, 0, none, 0, none, 0⟩ : Rx)] _ ⟨rx_lit rfl (by decide) q1, (fun e => by cases e), fun y hy => (hall y hy).1⟩ (fun y hy => (hall y hy).2)
    rw [show rcs [(⟨⟨2, 1, false, [], ⟨false, 0, [], [], []⟩⟩, none, 0, none, 0, none, 0, none, 0⟩ : Rx)] = [⟨2, 1, false, [], ⟨false, 0, [], [], []⟩⟩] from rfl, t_op1] at h
    exact h)
  have HQ2 := Lib.hid q2
  clear q1 q2
  go_upto_region 8 with (go_at_call 59; refine HP1.out.mono ?_; rintro e w10 ⟨ra9, rc9, ha9, hc9, ma9, mc9, rfl, hs10, hb10⟩; have HB10 := Lib.hid (HQ2.out.trans (hb10.mono HQ2.out.size)); clear hs10 hb10)
  clear HP1 HQ2
  have p2 : Below w10.heap.size w10 (w10.alloc (.cells #[.bool sd1.fr, .int .i64 sd1.nx, .slice ra9 sd1.rd.length rc9, .slice ha9 sd1.hd.length hc9, .slice ma9 sd1.ms.length mc9] 26)) := (Below.refl _ _).alloc (Nat.le_refl _) _
  generalize w10.alloc (.cells #[.bool sd1.fr, .int .i64 sd1.nx, .slice ra9 sd1.rd.length rc9, .slice ha9 sd1.hd.length hc9, .slice ma9 sd1.ms.length mc9] 26) = W11 at *
  have hb11 := HB10.out.trans (p2.mono HB10.out.size)
  have hb711 := HBA.out.trans (hb11.mono HBA.out.size)
  have HS11 := Lib.hid (box_bl HS9.out hb11)
  have HRC11 := Lib.hid (RcAt.below _ _ _ _ _ _ _ _ HRC7.out hb711)
  have HR11 := Lib.hid (box_bl HR7.out hb711)
  have HX11 := Lib.hid (box_bl HX7.out hb711)
  have HXR11 := Lib.hid (RcAt.below _ _ _ _ _ _ _ _ HXR7.out hb711)
  have hcs := conv_str cq (HA7.out.below hb711)
  have HBW11 := Lib.hid (HBW7.out.trans (hb711.mono HBW7.out.size))
  have hst := HST.out
  clear p2 hb11 hb711 HS9 HRC7 HR7 HX7 HXR7 HA7 HBW7 HBA HB10
  have HBXS := Lib.hid (fun (wx : World) (h : Below W11.heap.size W11 wx) => And.intro (box9 (box_bl HR11.out h)).1 (And.intro (box9 (box_bl HX11.out h)).1 (box5 (box_bl HS11.out h)).1))
  have HSM : Hid (Calls Try.prog 99 #[.agg #[.int .i64 1, .int .i64 0, .bool false, .slice ba 1 bc, .bool false, .int .i64 0, .slice none 0 0, .slice none 0 0, .slice none 0 0], .agg #[.int .i64 1, .int .i64 0, .bool false, .slice (some ⟨w.heap.size, 0, none⟩) 1 1, .bool false, .int .i64 0, .slice none 0 0, .slice none 0 0, .slice none 0 0]] W11 fun e w' => e = .returned (.bool true) ∧ Below W11.heap.size W11 w') := Lib.hid (same_eq ⟨1, 0, false, [tS], ⟨false, 0, [], [], []⟩⟩ ba bc none 0 none 0 none 0 (some ⟨w.heap.size, 0, none⟩) 1 none 0 none 0 none 0 W11 HXR11.out HRC11.out)
  have HMY : Hid (∀ wx, Below W11.heap.size W11 wx → Calls Try.prog 100 #[.agg #[.int .i64 1, .int .i64 0, .bool false, .slice (some ⟨w.heap.size, 0, none⟩) 1 1, .bool false, .int .i64 0, .slice none 0 0, .slice none 0 0, .slice none 0 0]] wx fun e w' => e = .returned (.bool true) ∧ Below wx.heap.size wx w') := Lib.hid fun wx h => may_put [tS] (some ⟨w.heap.size, 0, none⟩) 1 none 0 none 0 none 0 wx (RcAt.below _ _ _ _ _ _ _ _ HRC11.out h) (Nat.le_refl 1) (show 1 ≤ 8 by decide) (fun m hm => by rw [List.mem_singleton] at hm; rw [hm]; exact t_may)
  obtain ⟨⟨c0, c1, c2, c3, c4, c5, c6, c7, c8⟩, ⟨d0, d1, d2, d3, d4, d5, d6, d7, d8⟩, e0, e1, e2, e3, e4⟩ := HBXS.out W11 (Below.refl _ _)
  go_wp2_with (first | (go_at_call 99; refine HSM.out.mono ?_; rintro e w12 ⟨rfl, hb⟩; have HB12 := Lib.hid hb; obtain ⟨⟨c0, c1, c2, c3, c4, c5, c6, c7, c8⟩, ⟨d0, d1, d2, d3, d4, d5, d6, d7, d8⟩, e0, e1, e2, e3, e4⟩ := HBXS.out _ hb; clear hb) | (go_at_call 100; refine (HMY.out _ HB12.out).mono ?_; rintro e w13 ⟨rfl, hb⟩; have HB13 := Lib.hid (HB12.out.trans (hb.mono HB12.out.size)); clear hb))
  go_ret
  exact ⟨rfl, HBW11.out.trans (HB13.out.mono HBW11.out.size)⟩

end Go.Proofs.Ythohjcfpobeplaa.Sl
