/-
  A row of tags of the walk's own that may begin within its block (what c.open[to:] leaves), one more put on; a credit with such a row: Take, Limit, Settle of all up to a tag.
-/
import Derived.Test.YtiobcgolcoocnaaGreatDoorCrSettle
import Derived.ArgAppend
namespace Go.Proofs.YtiobcgolcoocnaaGreatDoor.Cr
open Go.RowKit Rg Sh Bt
set_option linter.unusedVariables false
set_option linter.unusedSimpArgs false

def OwnO (w : World) (B : Nat) (v : Value) (l : List Int) : Prop :=
  (v = .slice none 0 0 ∧ l = []) ∨ ∃ (b o cap : Nat) (cur : Array Value), v = .slice (some ⟨b, o, none⟩) l.length cap ∧ B ≤ b ∧ w.heap[b]? = some (.cells cur 28 (0, 0)) ∧ l.length ≤ cap ∧ cap ≤ maxLen ∧ o + cap ≤ cur.size ∧ ∀ (i : Nat) (h : i < l.length), cur[o + i]? = some (.int .u64 l[i])
theorem OwnO.of {w : World} {B : Nat} {v : Value} {l : List Int} (h : OwnU w B v l) : OwnO w B v l := by
  rcases h.2 with ⟨rfl, hz⟩ | ⟨g, cap, cur, rfl, hbg, hg, hnc, hcm, hcs, htake⟩
  · exact .inl ⟨rfl, List.eq_nil_of_length_eq_zero hz⟩
  · refine .inr ⟨g, 0, cap, cur, rfl, hbg, hg, hnc, hcm, by omega, fun i hi => ?_⟩
    have h1 := flats_get (f := usC) (fun _ => rfl) l i 0 hi (by decide)
    rw [← htake, Nat.mul_one, Nat.mul_one, Nat.add_zero, List.getElem?_take, if_pos hi] at h1
    rw [Nat.zero_add, ← Array.getElem?_toList, h1]
    rfl
theorem OwnO.row {w : World} {B : Nat} {v : Value} {l : List Int} (h : OwnO w B v l) : ∃ a cap, v = .slice a l.length cap ∧ UsAt w a cap l ∧ (a = none → cap = 0) := by
  rcases h with ⟨rfl, rfl⟩ | ⟨b, o, cap, cur, rfl, hB, hg, h1, h2, h3, h4⟩
  · exact ⟨none, 0, rfl, RowsAt.nil _ _ _ _ _ (by simp [maxLen]), fun _ => rfl⟩
  · refine ⟨_, cap, rfl, ⟨h1, h2, fun _ => ⟨b, o, rfl, fun i hi r u hu => ?_⟩⟩, fun e => by cases e⟩
    rw [cell_of_row w _ _ _ _ _ hg]
    unfold usC at hu
    match r, hu with
    | 0, hu =>
      simp only [List.getElem?_cons_zero, Option.some.injEq] at hu
      subst hu
      rw [Nat.mul_one, Nat.add_zero]
      exact h4 i hi
    | n + 1, hu => simp at hu
theorem OwnO.block {w : World} {B : Nat} {v : Value} {l : List Int} (h : OwnO w B v l) {j : Nat} (hj : v.ownBlock = some j) : B ≤ j ∧ ∃ cur, w.heap[j]? = some (.cells cur 28 (0, 0)) := by
  rcases h with ⟨rfl, rfl⟩ | ⟨b, o, cap, cur, rfl, hB, hg, h1, h2, h3, h4⟩
  · cases hj
  · cases hj
    exact ⟨hB, cur, hg⟩
theorem OwnO.stay {w w' : World} {B : Nat} {v : Value} {l : List Int} (h : OwnO w B v l) (hk : ∀ j, v.ownBlock = some j → w'.heap[j]? = w.heap[j]?) : OwnO w' B v l := by
  rcases h with h1 | ⟨b, o, cap, cur, rfl, hB, hg, h1, h2, h3, h4⟩
  · exact .inl h1
  · exact .inr ⟨b, o, cap, cur, rfl, hB, (hk b rfl).trans hg, h1, h2, h3, h4⟩
theorem OwnO.below1 {w w' : World} {B : Nat} {v : Value} {l : List Int} (h : OwnO w B v l) (hb : Below w.heap.size w w') : OwnO w' B v l :=
  h.stay fun j hj => by
    obtain ⟨_, cur, hc⟩ := h.block hj
    exact hb.block j (Array.getElem?_eq_some_iff.1 hc).1
theorem OwnO.apart {w : World} {B : Nat} {v : Value} {l : List Int} (h : OwnO w B v l) {g : Nat} {cs : Array Value} {T : TypeId} {fz : Nat × Nat} (hg : w.heap[g]? = some (.cells cs T fz)) (hT : 28 ≠ T) : v.ownBlock ≠ some g := by
  intro e
  obtain ⟨_, cur, hc⟩ := h.block e
  rw [hg] at hc
  injection hc with hc
  injection hc with _ hc
  exact hT hc.symm
/-- those behind the first n. -/
theorem OwnO.back {w : World} {B : Nat} {a : Option Addr} {cap : Nat} {l : List Int} (h : OwnO w B (.slice a l.length cap) l) (n : Nat) (hn : n ≤ l.length) :
    ∃ a', OwnO w B (.slice a' (l.drop n).length (cap - n)) (l.drop n) ∧ ∀ wx, (Instr.slice 66 (.slice a l.length cap) (some (.int .i64 n)) none none).run Tryz.prog wx = .ok (.slice a' (l.drop n).length (cap - n)) wx := by
  obtain ⟨a0, c0, he, hr, hno⟩ := h.row
  obtain ⟨rfl, -, rfl⟩ := Value.slice.inj he
  obtain ⟨a', -, -, h3⟩ := usE.back hr hno n hn
  refine ⟨a', ?_, h3⟩
  rcases h with ⟨he, rfl⟩ | ⟨b, o, cap', cur, he, hB, hg, h1, h2, h5, h4⟩
  · obtain ⟨rfl, -, rfl⟩ := Value.slice.inj he
    have h6 := h3 w
    obtain rfl : n = 0 := by simpa using hn
    simp [Instr.slice, Instr.sliceBounds, Instr.sliceBound, asIntOf, run_underlying usE.und, usE.siz] at h6
    exact .inl ⟨by simp [← h6], rfl⟩
  · obtain ⟨rfl, -, rfl⟩ := Value.slice.inj he
    have h6 := h3 w
    simp [Instr.slice, Instr.sliceBounds, Instr.sliceBound, asIntOf, run_underlying usE.und, usE.siz] at h6
    rw [if_pos hn] at h6
    by_cases hc : cap = n
    · rw [if_pos (by omega)] at h6
      injection h6 with h6 _
      obtain ⟨rfl, -, -⟩ := Value.slice.inj h6
      have hz : l.drop n = [] := List.drop_eq_nil_of_le (by omega)
      refine .inr ⟨b, o, cap - n, cur, rfl, hB, hg, by rw [hz]; simp, by omega, by omega, fun i hi => ?_⟩
      rw [hz] at hi; simp at hi
    · rw [if_neg (by omega)] at h6
      injection h6 with h6 _
      obtain ⟨h7, -, -⟩ := Value.slice.inj h6
      subst h7
      refine .inr ⟨b, o + n, cap - n, cur, by rw [add_at], hB, hg, by simp; omega, by omega, by omega, fun i hi => ?_⟩
      rw [List.length_drop] at hi
      rw [List.getElem_drop, Nat.add_assoc]
      exact h4 (n + i) (by omega)

theorem set_cell (w : World) (b o : Nat) (x : Value) : w.setCells b o [x] = w.setCell ⟨b, o, none⟩ x := rfl
/-- one more, that lies in the block made last. -/
theorem run_oneO {w : World} {B : Nat} {v : Value} {l : List Int} (ty : TypeId) (x : Int) (hb : OwnO w B v l) (hbase : B ≤ w.heap.size) (hl : l.length ≤ 900000) :
    ∃ v' w', (Builtin.append_ #[66, 66] ty #[v, .slice (some ⟨w.heap.size, 0, none⟩) 1 1]).run Tryz.prog (w.alloc (.cells #[.int .u64 x] 28)) = .ok v' w' ∧ OwnO w' B v' (l ++ [x]) ∧ w.grownBy w' v.ownBlock := by
  rcases hb with ⟨rfl, rfl⟩ | ⟨b, o, cap, cur, rfl, hB, hg, h1, h2, h3, h4⟩
  · obtain ⟨v', w', hr, ho, hg, -⟩ := run_lies usE (l := []) ty x (OwnE.nil 1 usC 28 w B) hbase (by simp) #[.int .u64 x] rfl
    exact ⟨v', w', hr, OwnO.of ho, hg⟩
  · have hgl := (Array.getElem?_eq_some_iff.1 hg).1
    have hg' : (w.alloc (.cells #[.int .u64 x] 28)).heap[b]? = some (.cells cur 28 (0, 0)) := (Below.heap_alloc w _ b hgl).trans hg
    obtain ⟨i0, z, by', hi, hz0, hz1, hz2, hz3, hz4⟩ := usE.info
    have hnews : ∀ j u, ([Value.int .u64 x])[j]? = some u → (w.alloc (.cells #[.int .u64 x] 28)).cell? ((⟨w.heap.size, 0, none⟩ : Addr).add j) = some u := by
      intro j u hu
      rw [add_at, cell_of_row _ _ _ _ _ _ (heap_alloc_new w _)]
      simpa using hu
    by_cases hroom : l.length + 1 ≤ cap
    · have hr := run_append_room_cells (P := Tryz.prog) (w.alloc (.cells #[.int .u64 x] 28)) 66 ty 28 i0 usE.und hi b o l.length cap ⟨w.heap.size, 0, none⟩ 1 1 [.int .u64 x] (by simp [hz1]) hnews (by simp [Value.oneCell']) hroom
        (fun j hj => by
          have : j = 0 := by simpa using hj
          subst this
          rw [cell_of_row _ _ _ _ _ _ hg', hz1]
          simp
          omega)
        (fun j hj => by simp [World.frozen?, hg'])
      rw [set_cell, hz1, Nat.mul_one] at hr
      refine ⟨_, _, hr, .inr ⟨b, o, cap, cur.setIfInBounds (o + l.length) (.int .u64 x), by simp, hB, set_heap hg' _ _, by simpa using hroom, h2, by simpa using h3, fun i hi => ?_⟩, ?_⟩
      · rw [List.length_append, List.length_singleton] at hi
        by_cases hil : i < l.length
        · rw [List.getElem_append_left hil, Array.getElem?_setIfInBounds_ne (by omega)]
          exact h4 i hil
        · obtain rfl : i = l.length := by omega
          rw [Array.getElem?_setIfInBounds_self_of_lt (by omega)]
          simp
      · exact alloc_before (set_grownW _ b _ _)
    · have hm : RowsAt 1 usC w (some ⟨b, o, none⟩) cap l := by
        obtain ⟨a9, c9, he, hr9, -⟩ := OwnO.row (.inr ⟨b, o, cap, cur, rfl, hB, hg, h1, h2, h3, h4⟩ : OwnO w B (.slice (some ⟨b, o, none⟩) l.length cap) l)
        obtain ⟨rfl, -, rfl⟩ := Value.slice.inj he
        exact hr9
      obtain ⟨v', w', hr, ho, hg2⟩ := run_append_arg_grows (P := Tryz.prog) (w.alloc (.cells #[.int .u64 x] 28)) 66 ty 28 i0 z 1 by' usE.und hi hz0 hz1 hz2 hz4 (by decide) ⟨b, o, none⟩ l.length cap (l.flatMap usC) (flats_length usE.len l)
        (usE.src (hm.below ((Below.refl _ _).alloc (Nat.le_refl _) _))) ⟨w.heap.size, 0, none⟩ 1 1 [.int .u64 x] rfl hnews (by omega) (by unfold maxLen; omega) (Nat.le_trans (Nat.mul_le_mul (show l.length + 1 ≤ 1000000 by omega) hz3) (by decide))
      refine ⟨v', w', hr, OwnO.of (OwnE.mono (base := w.heap.size) ?_ hbase), ?_⟩
      · unfold OwnE
        rw [List.length_append, List.flatMap_append, show ([x].flatMap usC) = [Value.int .u64 x] from rfl]
        have h9 := own_mono ho (show w.heap.size ≤ (w.alloc (.cells #[.int .u64 x] 28)).heap.size by simp)
        exact h9
      · have h9 := alloc_before hg2
        exact ⟨h9.os, h9.tape, h9.output, h9.size, fun k hk _ => h9.block k hk (by simp)⟩
theorem put_liesO {ops : Array Oper} {rest : List Oper} {o : Oper} {a : Act} {Q : Exit → Act → World → Prop} {w : World} {B : Nat} {v : Value} {l : List Int} (x : Int) (hgd : o.guard = none) (s y : Operand)
    (ho : o.op = .call { callee := .builtin .append, args := #[s, y], argTypes := #[66, 66] }) (hb : OwnO w B v l) (hbase : B ≤ w.heap.size) (hl : l.length ≤ 900000)
    (hs : a.eval s = v) (H : Nat) (hH : w.heap.size = H) (hx : a.eval y = .slice (some ⟨H, 0, none⟩) 1 1)
    (h : ∀ v' w', OwnO w' B v' (l ++ [x]) → w.grownBy w' v.ownBlock → wpList Tryz.prog ops Q rest (a.put o.dst v') w') :
    wpList Tryz.prog ops Q (o :: rest) a (w.alloc (.cells #[.int .u64 x] 28)) := by
  subst hH
  refine wpList_plain hgd fun K hK => ?_
  obtain ⟨v', w', hr, h2, h3⟩ := run_oneO o.type x hb hbase hl
  unfold Oper.wp execOp
  simp only [ho, resolve, invoke, builtin, Sem.run_bind, Sem.run_pure, Result.andThen_ok, List.map_toArray, List.map_cons, List.map_nil, hs, hx, hr]
  exact hK _ _ (h v' w' h2 h3)

/-- a credit of the walk's own, whose row may begin within its block. -/
structure CrO (B : Nat) (w : World) (g : Nat) (lim last : Int) (l : List Int) (v : Value) : Prop where
  lo : B ≤ g
  bx : w.heap[g]? = some (.cells #[.int .i64 lim, .int .u64 last, v] 68 (0, 0))
  own : OwnO w B v l
  sm : l.length ≤ 1000
theorem CrV.o {B : Nat} {w : World} {g : Nat} {lim last : Int} {l : List Int} {v : Value} (h : CrV B w g lim last l v) : CrO B w g lim last l v := ⟨h.lo, h.bx, OwnO.of h.own, h.sm⟩
theorem CrO.x {B : Nat} {w : World} {g : Nat} {lim last : Int} {l : List Int} {v : Value} (h : CrO B w g lim last l v) : ∃ a cap, v = .slice a l.length cap ∧ CrX w g lim last l a cap := by
  obtain ⟨a, cap, h1, h2, h3⟩ := h.own.row
  subst h1
  exact ⟨a, cap, rfl, h.bx, h2, h3, h.sm⟩
theorem CrO.below {B : Nat} {w w' : World} {g : Nat} {lim last : Int} {l : List Int} {v : Value} (h : CrO B w g lim last l v) (hb : Below w.heap.size w w') : CrO B w' g lim last l v :=
  ⟨h.lo, box_bl h.bx hb, h.own.below1 hb, h.sm⟩
/-- its box is written. -/
theorem CrO.own_set {B : Nat} {w : World} {g : Nat} {lim last : Int} {l : List Int} {v : Value} (h : CrO B w g lim last l v) (i : Nat) (u : Value) : OwnO (w.setCell ⟨g, i, none⟩ u) B v l :=
  h.own.stay fun j hj => Below.heap_setCell w ⟨g, i, none⟩ _ j (fun e => h.own.apart h.bx (by decide) (by rw [hj]; exact congrArg some e))

set_option maxRecDepth 100000 in
set_option maxHeartbeats 1000000 in
theorem takeO_any (B g : Nat) (lim last t : Int) (l : List Int) (v : Value) (w : World) (hl : 0 ≤ lim ∧ lim ≤ 65535) (ht : last < t) (hf : ¬ freeF lim l.length = 0) (hsm : l.length < 1000) (hB : B ≤ w.heap.size) (h : CrO B w g lim last l v) :
    Calls Tryz.prog 23 #[.pointer (some ⟨g, 0, none⟩), .int .u64 t] w fun e w' => e = .returned (.int .i64 0) ∧ ∃ v', CrO B w' g lim t (l ++ [t]) v' ∧ Below B w w' ∧ Kept (wrt g v) w w' := by
  obtain ⟨a, cap, rfl, hx⟩ := h.x
  have hh := free_any g lim last l a cap w hl hx
  have q1 : (freeF lim l.length == 0) = false := by rw [beq_eq_false_iff_ne]; exact hf
  generalize freeF lim l.length = fr at *
  have HF := Lib.hid hh
  obtain ⟨⟨c0, c1, c2⟩, f0, f1, f2⟩ := box3 h.bx
  have hlo := h.lo
  obtain ⟨W, hW⟩ : ∃ W, W = w.setCell ⟨g, 1, none⟩ (.int .u64 t) := ⟨_, rfl⟩
  have hbW : W.heap[g]? = some (.cells #[.int .i64 lim, .int .u64 t, .slice a l.length cap] 68 (0, 0)) := by rw [hW]; exact set_heap h.bx 1 _
  have hoW : OwnO W B (.slice a l.length cap) l := by
    rw [hW]
    exact h.own_set 1 _
  have hdW : Below B w W := by rw [hW]; exact low_set (Below.refl _ _) hlo
  have hkW : Kept (wrt g (.slice a l.length cap)) w W := by rw [hW]; exact (Kept.refl _ w).set (mem_wrt.2 (.inl rfl)) 1 _
  have HKW := Lib.hid hkW
  have ht' : ¬ t ≤ last := by omega
  have HO := Lib.hid hoW
  have HX := Lib.hid hbW
  have HD := Lib.hid hdW
  clear h hh hf ht hx hoW hbW hdW hkW
  go_enter Tryz.func23, Tryz.ntmps23
  go_upto_region 8 with (go_at_call 42; refine HF.out.mono ?_; rintro e w1 ⟨rfl, rfl⟩)
  rw [← hW]
  have hz : W.heap.size = w.heap.size := by rw [hW]; simp
  clear hW f0 f1 f2 c0 c1 c2 HF
  obtain ⟨⟨c0, c1, c2⟩, f0, f1, f2⟩ := box3 HX.out
  have hBW : B ≤ W.heap.size := by rw [hz]; exact hB
  obtain ⟨z1, z2, -⟩ := box_lt HX.out
  clear hz hB
  go_wp2_with (first | (refine put_liesO t (w := W) rfl (.tmp 26) (.tmp 28) rfl HO.out hBW (by omega) rfl _ rfl rfl ?_; intro v' w' ho hg; have hne := OwnO.apart HO.out HX.out (by decide); have hb9 := (hg.block g z1 (Ne.symm hne)).trans HX.out; have hne' := OwnO.apart ho hb9 (by decide); have hEND : CrO B (w'.setCell ⟨g, 2, none⟩ v') g lim t (l ++ [t]) v' := ⟨hlo, set_heap hb9 2 _, OwnO.stay ho fun j hj => Below.heap_setCell w' ⟨g, 2, none⟩ _ j (fun e => hne' (by rw [hj]; exact congrArg some e)), by simp; omega⟩; have hBE : Below B w (w'.setCell ⟨g, 2, none⟩ v') := low_set (HD.out.grown hg hBW (fun b e => (OwnO.block HO.out e).1)) hlo; have hKE : Kept (wrt g (.slice a l.length cap)) w (w'.setCell ⟨g, 2, none⟩ v') := (HKW.out.grown hg (fun k e => .inl (mem_wrt.2 (.inr e)))).set (mem_wrt.2 (.inl rfl)) 2 v'; obtain ⟨xa, xc, rfl, -, -⟩ := OwnO.row ho; rw [show (l ++ [t]).length = l.length + 1 from List.length_append] at hEND hBE hKE; have HE := Lib.hid hEND; have HBE := Lib.hid hBE; have HKE := Lib.hid hKE; obtain ⟨⟨j0, j1, j2⟩, k0, k1, k2⟩ := box3 hb9; clear ho hg hne hne' hb9 hEND hBE hKE))
  go_ret
  exact ⟨rfl, _, HE.out, HBE.out, HKE.out⟩

theorem limitO_any (B g : Nat) (lim last n : Int) (l : List Int) (v : Value) (w : World) (hn : 0 ≤ n ∧ n ≤ 65535) (h : CrO B w g lim last l v) :
    Calls Tryz.prog 35 #[.pointer (some ⟨g, 0, none⟩), .int .i64 n] w fun e w' => e = .returned (.int .i64 0) ∧ CrO B w' g n last l v ∧ Below B w w' ∧ Kept [g] w w' := by
  have hl := lim_any n w
  rw [decide_eq_true hn] at hl
  obtain ⟨⟨c0, c1, c2⟩, f0, f1, f2⟩ := box3 h.bx
  have hE : CrO B (w.setCell ⟨g, 0, none⟩ (.int .i64 n)) g n last l v := ⟨h.lo, set_heap h.bx 0 _, h.own_set 0 _, h.sm⟩
  have HE := Lib.hid hE
  have HB := Lib.hid (show Below B w (w.setCell ⟨g, 0, none⟩ (.int .i64 n)) from low_set (Below.refl _ _) h.lo)
  have HK := Lib.hid (show Kept [g] w (w.setCell ⟨g, 0, none⟩ (.int .i64 n)) from (Kept.refl [g] w).set (by simp) 0 _)
  clear h hE hn
  go_enter Tryz.func35, Tryz.ntmps35
  go_wp2_with (go_at_call 30; refine hl.mono ?_; clear hl; rintro e w1 ⟨rfl, rfl⟩)
  go_ret
  exact ⟨rfl, HE.out, HB.out, HK.out⟩


set_option maxHeartbeats 1000000 in
theorem remO_front (B g : Nat) (lim last : Int) (j : Nat) (l : List Int) (v : Value) (w : World) (hj : j ≤ l.length) (h : CrO B w g lim last l v) :
    Calls Tryz.prog 72 #[.pointer (some ⟨g, 0, none⟩), .int .i64 0, .int .i64 j] w fun e w' => e = .returned (.tuple #[]) ∧ (∃ v', CrO B w' g lim last (l.drop j) v') ∧ Kept (wrt g v) w w' := by
  obtain ⟨a, cap, rfl, hx⟩ := h.x
  have hsm := h.sm
  obtain ⟨⟨c0, c1, c2⟩, f0, f1, f2⟩ := box3 h.bx
  obtain ⟨a', -, hs⟩ := h.own.back j hj
  have hrs : OwnO (w.setCell ⟨g, 2, none⟩ (.slice a' (l.drop j).length (cap - j))) B (.slice a' (l.drop j).length (cap - j)) (l.drop j) := by
    obtain ⟨a3, hr3, hs3⟩ := (h.own_set 2 (.slice a' (l.drop j).length (cap - j))).back j hj
    have h9 := (hs w).symm.trans (hs3 w)
    injection h9 with h9 _
    obtain ⟨rfl, -, -⟩ := Value.slice.inj h9
    exact hr3
  have HX := Lib.hid (show CrO B (w.setCell ⟨g, 2, none⟩ (.slice a' (l.drop j).length (cap - j))) g lim last (l.drop j) (.slice a' (l.drop j).length (cap - j)) from ⟨h.lo, set_heap h.bx 2 _, hrs, by simp; omega⟩)
  have HK := Lib.hid (show Kept (wrt g (.slice a l.length cap)) w (w.setCell ⟨g, 2, none⟩ (.slice a' (l.drop j).length (cap - j))) from (Kept.refl _ w).set (mem_wrt.2 (.inl rfl)) 2 _)
  rw [List.length_drop] at hs
  rw [show (l.drop j).length = l.length - j from List.length_drop] at HX HK
  clear h hx hrs
  go_enter Tryz.func72, Tryz.ntmps72
  go_wp2_with fail
  refine bodyPost_ret (v := .tuple #[]) (by simp [results, Tryz.results72, go_sem, *]) rfl ?_
  exact ⟨rfl, ⟨_, HX.out⟩, HK.out⟩

/-- what Settle of all up to a tag leaves. -/
def SetO (B g : Nat) (lim last : Int) (l : List Int) (v : Value) (j : Nat) (w : World) (e : Ending) (w' : World) : Prop :=
  ∃ a1 c1 v', e = .returned (.tuple #[.slice a1 j c1, .int .i64 0]) ∧ UsAt w' a1 c1 (l.take j) ∧ CrO B w' g lim last (l.drop j) v' ∧ Below B w w' ∧ Kept (wrt g v) w w'
set_option maxHeartbeats 2000000 in
theorem settleO_any (B g : Nat) (lim last t : Int) (l : List Int) (v : Value) (w : World) (hu : Up l) (hyes : ¬ 0 = toF l t true ∨ t = 0) (hB : B ≤ w.heap.size) (h : CrO B w g lim last l v) :
    Calls Tryz.prog 55 #[.pointer (some ⟨g, 0, none⟩), .int .u64 t, .bool true] w (SetO B g lim last l v (toF l t true) w) := by
  obtain ⟨a, cap, rfl, hx⟩ := h.x
  have hsm := h.sm
  have hn := named_any g lim last t true l a cap w hu hx
  unfold NamedR at hn
  obtain ⟨l1, l2, -⟩ := from_le l t true
  have HI0 : Hid (fromF l t true = 0) := Lib.hid rfl
  have HS0 := Lib.hid (show fromF l t true = toF l t true → t = 0 from fun e => hyes.resolve_left fun h => h (HI0.out.symm.trans e))
  clear hyes hu
  generalize fromF l t true = i at *
  generalize toF l t true = j at *
  obtain ⟨⟨c0, c1, c2⟩, -⟩ := box3 h.bx
  obtain ⟨a1, hr1, hn1, hs1⟩ := El_mid usE hx.row hx.nn i j l1 l2
  have hl1 : ((l.drop i).take (j - i)).length = j - i := by rw [List.length_take, List.length_drop]; omega
  have hcl : ∀ n, Calls Tryz.prog 71 #[.slice a1 (j - i) (cap - i)] (w.drewN n) fun e w' => ∃ v, e = .returned v ∧ OwnU w' (w.drewN n).heap.size v ((l.drop i).take (j - i)) ∧ Below (w.drewN n).heap.size (w.drewN n) w' := fun n => by
    have := clone_any a1 (cap - i) ((l.drop i).take (j - i)) (by omega) (w.drewN n) (hr1.below (Below.drewN (Below.refl _ _) n))
    rwa [hl1] at this
  obtain ⟨d, hd⟩ : ∃ d, d = j - i := ⟨_, rfl⟩
  rw [← hd] at hs1 hcl hl1
  have HCL := Lib.hid hcl
  have HDD := Lib.hid hd
  have HN := Lib.hid hn
  have HV := Lib.hid h
  have HL1 := Lib.hid hl1
  have k1 : ((i : Int)) ≤ (j : Int) := by omega
  clear h hx hn hr1 hn1 hl1 hcl hd
  have hend : ∀ (n : Nat) (w2 : World) (v2 : Value), OwnU w2 (w.drewN n).heap.size v2 ((l.drop i).take d) → Below (w.drewN n).heap.size (w.drewN n) w2 →
      Calls Tryz.prog 72 #[.pointer (some ⟨g, 0, none⟩), .int .i64 i, .int .i64 j] w2 fun e w' => e = .returned (.tuple #[]) ∧ ∃ a1' c1', v2 = .slice a1' d c1' ∧ SetO B g lim last l (.slice a l.length cap) j w (.returned (.tuple #[v2, .int .i64 0])) w' := by
    intro n w2 v2 ho hb
    have hb' : Below w.heap.size w w2 := ⟨hb.os, hb.tape, hb.output, hb.size, hb.block⟩
    have hv2 := HV.out.below hb'
    have hrm : Calls Tryz.prog 72 #[.pointer (some ⟨g, 0, none⟩), .int .i64 i, .int .i64 j] w2 fun e w' => e = .returned (.tuple #[]) ∧ (∃ v', CrO B w' g lim last (l.drop j) v') ∧ Kept (wrt g (.slice a l.length cap)) w2 w' := by
      rw [HI0.out]
      simpa using remO_front B g lim last j l _ w2 l2 hv2
    refine hrm.mono ?_
    rintro e w' ⟨rfl, ⟨v', hx2⟩, hk⟩
    have hg1 : g < w.heap.size := (box_lt HV.out.bx).1
    have ho' : OwnU w' (w.drewN n).heap.size v2 ((l.drop i).take d) := hk.row ho fun q hq hm => by
      have hql : w.heap.size ≤ q := (World.ownsRow.lt ho q hq).1
      rcases mem_wrt.1 hm with rfl | hm
      · omega
      · have := (Array.getElem?_eq_some_iff.1 (OwnO.block HV.out.own hm).2.choose_spec).1
        omega
    obtain ⟨a1', c1', hv, hr', -⟩ := OwnE.at usE ho'
    rw [HL1.out] at hv
    subst hv
    have hdj : d = j := by rw [HDD.out, HI0.out]; exact Nat.sub_zero j
    refine ⟨rfl, a1', c1', rfl, a1', c1', v', by rw [hdj], ?_, hx2, ?_, (Kept.of_below hb').trans hk fun x hx => .inl hx⟩
    · rw [hdj, HI0.out, List.drop_zero] at hr'; exact hr'
    have hbB : Below B w w2 := hb'.mono hB
    refine hbB.trans (hk.below (Nat.le_trans hB hb'.size) fun q hq => ?_)
    rcases mem_wrt.1 hq with rfl | hm
    · exact HV.out.lo
    · exact (OwnO.block HV.out.own hm).1
  have HEND := Lib.hid hend
  clear hend
  by_cases hxy : i = j
  · obtain rfl := HS0.out hxy
    subst hxy
    have q1 : ((i : Int) == (i : Int)) = true := by simp
    go_enter Tryz.func55, Tryz.ntmps55
    go_wp2_with (first | (go_at_call 70; refine HN.out.mono ?_; rintro e w1 ⟨rfl, n, rfl⟩) | (go_at_call 71; refine (HCL.out n).mono ?_; rintro e w2 ⟨v2, rfl, ho, hb⟩; have HO2 := Lib.hid ho; have HB2 := Lib.hid hb; clear ho hb) | (go_at_call 72; refine (HEND.out n w2 v2 HO2.out HB2.out).mono ?_; rintro e w3 ⟨rfl, a1', c1', rfl, hR⟩; have HR := Lib.hid hR; clear hR))
    refine bodyPost_ret (v := .tuple #[.slice a1' d c1', .int .i64 0]) (by simp [results, Tryz.results55, go_sem, *]) rfl ?_
    exact HR.out
  · have q1 : ((i : Int) == (j : Int)) = false := by rw [beq_eq_false_iff_ne]; omega
    go_enter Tryz.func55, Tryz.ntmps55
    go_wp2_with (first | (go_at_call 70; refine HN.out.mono ?_; rintro e w1 ⟨rfl, n, rfl⟩) | (go_at_call 71; refine (HCL.out n).mono ?_; rintro e w2 ⟨v2, rfl, ho, hb⟩; have HO2 := Lib.hid ho; have HB2 := Lib.hid hb; clear ho hb) | (go_at_call 72; refine (HEND.out n w2 v2 HO2.out HB2.out).mono ?_; rintro e w3 ⟨rfl, a1', c1', rfl, hR⟩; have HR := Lib.hid hR; clear hR))
    refine bodyPost_ret (v := .tuple #[.slice a1' d c1', .int .i64 0]) (by simp [results, Tryz.results55, go_sem, *]) rfl ?_
    exact HR.out

end Go.Proofs.YtiobcgolcoocnaaGreatDoor.Cr
