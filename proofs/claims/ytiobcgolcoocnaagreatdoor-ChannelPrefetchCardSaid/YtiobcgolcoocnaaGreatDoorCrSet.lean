/-
  A row's part between two places; slices.Delete of one tag, credit's named, remove and Settle, walked.
-/
import Derived.Test.YtiobcgolcoocnaaGreatDoorCrFind
namespace Go.Proofs.YtiobcgolcoocnaaGreatDoor.Cr
open Go.RowKit Rg Sh Bt
set_option linter.unusedVariables false
set_option linter.unusedSimpArgs false

section
variable {α : Type} {k : Nat} {f : α → List Value} {E T : TypeId}
/-- those from the i-th to the j-th. -/
theorem El_mid (h : El k f E T) {w : World} {a : Option Addr} {cap : Nat} {l : List α} (hr : RowsAt k f w a cap l) (hn : a = none → cap = 0) (i j : Nat) (hij : i ≤ j) (hj : j ≤ l.length) :
    ∃ a', RowsAt k f w a' (cap - i) ((l.drop i).take (j - i)) ∧ (a' = none → cap - i = 0) ∧ ∀ wx, (Instr.slice T (.slice a l.length cap) (some (.int .i64 i)) (some (.int .i64 j)) none).run Tryz.prog wx = .ok (.slice a' (j - i) (cap - i)) wx := by
  have hlen := hr.len
  have hmax := hr.max
  obtain ⟨a', h1, h2, h3⟩ := h.back hr hn i (by omega)
  obtain ⟨h4, -⟩ := h.front h1 h2 (j - i) (by rw [List.length_drop]; omega)
  refine ⟨a', h4, h2, fun wx => ?_⟩
  have h5 := h3 wx
  cases a with
  | none =>
    obtain rfl := hn rfl
    obtain rfl : i = 0 := by omega
    obtain rfl : j = 0 := by omega
    have hl : l.length = 0 := by omega
    simp [Instr.slice, Instr.sliceBounds, Instr.sliceBound, asIntOf, run_underlying h.und, h.siz, hl] at h5 ⊢
    exact h5
  | some x =>
    have e1 : ((i : Int)) ≤ (j : Int) := by omega
    have e2 : (j : Int) ≤ (cap : Int) := by omega
    have e3 : (0 : Int) ≤ (j : Int) := by omega
    simp [Instr.slice, Instr.sliceBounds, Instr.sliceBound, asIntOf, run_underlying h.und, h.siz] at h5 ⊢
    rw [if_pos (by omega)] at h5
    rw [if_pos (by omega), if_pos (by omega)]
    simpa using h5
end

theorem usZ : ZOk 1 28 := z_ok (by' := 8) (z := .int .u64 0) (by kernel_rfl) rfl (by simp [Value.cells, Value.oneCell'])
set_option maxRecDepth 100000 in
set_option maxHeartbeats 2000000 in
theorem del_any (l : List Int) (i : Nat) (hi : i < l.length) (hl9 : l.length ≤ 100000) (w : World) (base : Nat) (v : Value) (hown : OwnU w base v l) :
    Calls Tryz.prog 84 #[v, .int .i64 i, .int .i64 ((i : Int) + 1)] w fun e w' => ∃ v', e = .returned v' ∧ OwnU w' base v' (l.eraseIdx i) ∧ w.grownBy w' v.ownBlock := by
  obtain ⟨g, cap, cur, rfl, hbg, hg, hlc, hcm, hsz, htk⟩ := OwnE.row hown (by omega)
  obtain ⟨a0, c0, he, hrow, hn0⟩ := OwnE.at usE hown
  obtain ⟨rfl, -, rfl⟩ := Value.slice.inj he
  obtain ⟨v3, hs3⟩ := run_slice3 usE ⟨g, 0, none⟩ l.length cap i hi hlc
  obtain ⟨-, hs1⟩ := usE.front hrow hn0 i (by omega)
  obtain ⟨b, hrb, hbn, hs2⟩ := usE.back hrow hn0 (i + 1) (by omega)
  rw [List.length_drop] at hs2
  have hs2 : ∀ wx, (Instr.slice 66 (.slice (some ⟨g, 0, none⟩) l.length cap) (some (.int .i64 ((i : Int) + 1))) none none).run Tryz.prog wx = .ok (.slice b (l.length - (i + 1)) (cap - (i + 1))) wx := hs2
  have hbs : b ≠ none := by
    rintro rfl
    have := hs2 w
    simp [Instr.slice, Instr.sliceBounds, Instr.sliceBound, asIntOf, run_underlying usE.und, usE.siz] at this
    rw [if_pos (by omega)] at this
    split at this <;> simp at this
  obtain ⟨cur1, hap, hsz1, htk1⟩ := run_cut_out usE (w := w.drew) (ty := 66) hg hi hlc hsz htk rfl (hrb.below (Below.refl _ _).drew) hbs
  obtain ⟨W1, hW1⟩ : ∃ W1, W1 = w.drew.setRow g cur1 := ⟨_, rfl⟩
  rw [← hW1] at hap
  have hg1 : W1.heap[g]? = some (.cells cur1 28 (0, 0)) := by rw [hW1]; exact setRow_heap w.drew g cur _ _ _ hg
  have hlk : (l.length - 1) * 1 + 1 ≤ cur1.size := by rw [hsz1]; omega
  obtain ⟨zs, hzs, hcl⟩ := run_clear_one usE usZ (w := W1) (p := (l.length - 1) * 1) (n := l.length - (l.length - 1)) (c := cap - (l.length - 1)) 0 hg1 (by omega) hlk
  have hs4 : ∀ wx, (Instr.slice 66 (.slice (some ⟨g, 0, none⟩) (l.length - 1) cap) (some (.int .i64 ((l.length - 1 : Nat) : Int))) (some (.int .i64 l.length)) none).run Tryz.prog wx = .ok (.slice (some ⟨g, (l.length - 1) * 1, none⟩) (l.length - (l.length - 1)) (cap - (l.length - 1))) wx := fun wx => by
    simp [Instr.slice, Instr.sliceBounds, Instr.sliceBound, asIntOf, run_underlying usE.und, usE.siz]
    rw [if_pos (by omega), if_neg (by omega), add_at]
    simp
  rw [Nat.mul_one] at hcl hs4
  have hfin : OwnU (W1.setRow g (over cur1 ((l.length - 1) * 1) zs)) base (.slice (some ⟨g, 0, none⟩) (l.length - 1) cap) (l.eraseIdx i) := by
    have hel : (l.eraseIdx i).length = l.length - 1 := by rw [List.length_eraseIdx, if_pos hi]
    have := OwnE.of_row usE (l := l.eraseIdx i) (base := base) (setRow_heap W1 g cur1 (over cur1 ((l.length - 1) * 1) zs) _ _ hg1) hbg (cap := cap) (by omega) hcm (by rw [over_size (by rw [hzs]; exact hlk)]; exact hsz1) (by rw [hel, over_take (Nat.le_refl _) (by omega)]; exact htk1)
    rwa [hel] at this
  have hgr : w.grownBy (W1.setRow g (over cur1 ((l.length - 1) * 1) zs)) (some g) := by
    refine grown_trans ?_ (row_grown W1 g _)
    rw [hW1]
    have h := row_grown w.drew g cur1
    exact ⟨h.os, h.tape, h.output, h.size, h.block⟩
  rw [Nat.mul_one] at hfin hgr
  have HFIN := Lib.hid hfin
  have HGR := Lib.hid hgr
  have HW1 := Lib.hid hW1
  have hne : ((i : Int) == (i : Int) + 1) = false := by rw [beq_eq_false_iff_ne]; omega
  clear hown hg hsz htk hrow hn0 hrb hbn hbs hsz1 htk1 hW1 hg1 hlk hzs hfin hgr he hcm
  go_enter Tryz.func84, Tryz.ntmps84
  go_wp2_with fail
  go_region_law (refine step_run2 rfl (.tmp 22) (.tmp 25) 66 66 rfl _ _ (by simp [Act.eval, Act.put]) (by simp [Act.eval, Act.put]) hap ?_)
  go_wp2_with fail
  go_ret
  exact ⟨_, rfl, HFIN.out, HGR.out⟩

def NamedR (l : List Int) (t : Int) (all : Bool) (w : World) (e : Ending) (w' : World) : Prop :=
  e = .returned (.tuple #[.int .i64 (fromF l t all), .int .i64 (toF l t all)]) ∧ Drew w w'
set_option maxHeartbeats 1000000 in
theorem named_any (g : Nat) (lim last t : Int) (all : Bool) (l : List Int) (a : Option Addr) (cap : Nat) (w : World) (hu : Up l) (h : CrX w g lim last l a cap) :
    Calls Tryz.prog 70 #[.pointer (some ⟨g, 0, none⟩), .int .u64 t, .bool all] w (NamedR l t all w) := by
  have hsm := h.sm
  obtain ⟨⟨c0, c1, c2⟩, -⟩ := box3 h.bx
  have hf := find_any g lim last t l a cap w hu h
  unfold FindR at hf
  obtain ⟨p, hp⟩ : ∃ p, p = posF l t := ⟨_, rfl⟩
  obtain ⟨q, hq⟩ : ∃ q, q = posF l t + hasN l t := ⟨_, rfl⟩
  rw [← hq, ← hp] at hf
  have HF := Lib.hid hf
  clear h hu hf
  cases all with
  | false =>
    have HN : Hid (fromF l t false = p ∧ toF l t false = q) := Lib.hid ⟨hp.symm, by unfold toF; rw [if_neg (by simp)]; exact hq.symm⟩
    unfold NamedR
    rw [HN.out.1, HN.out.2]
    clear hp hq HN
    go_enter Tryz.func70, Tryz.ntmps70
    go_wp2_with (go_at_call 83; refine HF.out.mono ?_; rintro e w1 ⟨rfl, hd⟩; have HD := Lib.hid hd; clear hd)
    refine bodyPost_ret (v := .tuple #[.int .i64 p, .int .i64 q]) (by simp [results, Tryz.results70, go_sem, *]) rfl ?_
    exact ⟨rfl, HD.out⟩
  | true =>
    by_cases h0 : t = 0
    · subst h0
      clear hp hq HF
      go_enter Tryz.func70, Tryz.ntmps70
      go_wp2_with fail
      go_quiet (fail)
      go_wp2_with fail
      refine bodyPost_ret (v := .tuple #[.int .i64 0, .int .i64 l.length]) (by simp [results, Tryz.results70, go_sem, *]) rfl ?_
      exact ⟨by unfold fromF toF; simp, ⟨_, rfl⟩⟩
    · have HN : Hid (fromF l t true = 0 ∧ toF l t true = q) := Lib.hid ⟨rfl, by unfold toF; rw [if_neg (fun h => h0 h.2)]; exact hq.symm⟩
      unfold NamedR
      rw [HN.out.1, HN.out.2]
      have q1 : (t == 0) = false := by rw [beq_eq_false_iff_ne]; exact h0
      clear hp hq HN h0
      go_enter Tryz.func70, Tryz.ntmps70
      go_wp2_with (go_at_call 83; refine HF.out.mono ?_; rintro e w1 ⟨rfl, hd⟩; have HD := Lib.hid hd; clear hd)
      refine bodyPost_ret (v := .tuple #[.int .i64 0, .int .i64 q]) (by simp [results, Tryz.results70, go_sem, *]) rfl ?_
      exact ⟨rfl, HD.out⟩

/-- what remove leaves: its box, and the row of what stays. -/
def RemR (g : Nat) (lim last : Int) (m : List Int) (v : Value) (w : World) (e : Ending) (w' : World) : Prop :=
  e = .returned (.tuple #[]) ∧ ∃ a2 cap2, CrX w' g lim last m a2 cap2 ∧ Kept (wrt g v) w w'
theorem CrV.row_set {B : Nat} {w : World} {g : Nat} {lim last : Int} {l : List Int} {a : Option Addr} {cap : Nat} (h : CrV B w g lim last l (.slice a l.length cap)) (i : Nat) (u : Value) : UsAt (w.setCell ⟨g, i, none⟩ u) a cap l := by
  have ho : OwnU (w.setCell ⟨g, i, none⟩ u) B (.slice a l.length cap) l := own_stay h.own fun j hj => Below.heap_setCell w ⟨g, i, none⟩ _ j (fun e => own_box h.own h.bx (by decide) (by rw [hj]; exact congrArg some e))
  obtain ⟨a0, c0, he, hr, -⟩ := OwnE.at usE ho
  obtain ⟨rfl, -, rfl⟩ := Value.slice.inj he
  exact hr
set_option maxHeartbeats 1000000 in
theorem rem_front (B g : Nat) (lim last : Int) (j : Nat) (l : List Int) (v : Value) (w : World) (hj : j ≤ l.length) (h : CrV B w g lim last l v) :
    Calls Tryz.prog 72 #[.pointer (some ⟨g, 0, none⟩), .int .i64 0, .int .i64 j] w (RemR g lim last (l.drop j) v w) := by
  obtain ⟨a, cap, rfl, hx⟩ := h.x
  have hsm := h.sm
  obtain ⟨⟨c0, c1, c2⟩, f0, f1, f2⟩ := box3 h.bx
  obtain ⟨a', hr, hn, hs⟩ := usE.back hx.row hx.nn j hj
  have hrs : UsAt (w.setCell ⟨g, 2, none⟩ (.slice a' (l.drop j).length (cap - j))) a' (cap - j) (l.drop j) := by
    obtain ⟨a3, hr3, -, hs3⟩ := usE.back (h.row_set 2 (.slice a' (l.drop j).length (cap - j))) hx.nn j hj
    have h9 := (hs w).symm.trans (hs3 w)
    injection h9 with h9 _
    obtain ⟨rfl, -, -⟩ := Value.slice.inj h9
    exact hr3
  have HX := Lib.hid (show CrX (w.setCell ⟨g, 2, none⟩ (.slice a' (l.drop j).length (cap - j))) g lim last (l.drop j) a' (cap - j) from ⟨set_heap h.bx 2 _, hrs, hn, by simp; omega⟩)
  have HK := Lib.hid (show Kept (wrt g (.slice a l.length cap)) w (w.setCell ⟨g, 2, none⟩ (.slice a' (l.drop j).length (cap - j))) from (Kept.refl _ w).set (mem_wrt.2 (.inl rfl)) 2 _)
  rw [List.length_drop] at hs HX HK
  clear h hx hr hn hrs
  go_enter Tryz.func72, Tryz.ntmps72
  go_wp2_with fail
  refine bodyPost_ret (v := .tuple #[]) (by simp [results, Tryz.results72, go_sem, *]) rfl ?_
  exact ⟨rfl, _, _, HX.out, HK.out⟩
set_option maxHeartbeats 1000000 in
theorem rem_one (B g : Nat) (lim last : Int) (i : Nat) (l : List Int) (v : Value) (w : World) (hi : i < l.length) (h0 : 0 < i) (h : CrV B w g lim last l v) :
    Calls Tryz.prog 72 #[.pointer (some ⟨g, 0, none⟩), .int .i64 i, .int .i64 ((i : Int) + 1)] w (RemR g lim last (l.eraseIdx i) v w) := by
  have hsm := h.sm
  have HD := Lib.hid (del_any l i hi (by omega) w B v h.own)
  have HV := Lib.hid h
  obtain ⟨a, cap, rfl, hx⟩ := h.x
  obtain ⟨⟨c0, c1, c2⟩, f0, f1, f2⟩ := box3 h.bx
  have q1 : ((i : Int) == 0) = false := by rw [beq_eq_false_iff_ne]; omega
  clear h hx
  go_enter Tryz.func72, Tryz.ntmps72
  go_wp2_with (go_at_call 84; refine HD.out.mono ?_; rintro e w' ⟨v', rfl, ho, hg⟩; have hne := own_box HV.out.own HV.out.bx (by decide); have hb9 := (hg.block g (box_lt HV.out.bx).1 (Ne.symm hne)).trans HV.out.bx; have hne' := own_box ho hb9 (by decide); obtain ⟨xa, xc, rfl, hr9, hn9⟩ := OwnE.at usE ho; have hos : OwnU (w'.setCell ⟨g, 2, none⟩ (.slice xa (l.eraseIdx i).length xc)) B (.slice xa (l.eraseIdx i).length xc) (l.eraseIdx i) := own_stay ho fun j hj => Below.heap_setCell w' ⟨g, 2, none⟩ _ j (fun e => hne' (by rw [hj]; exact congrArg some e)); obtain ⟨xa2, xc2, he2, hr2, -⟩ := OwnE.at usE hos; obtain ⟨e21, -, e22⟩ := Value.slice.inj he2; rw [← e21, ← e22] at hr2; have HX := Lib.hid (show CrX (w'.setCell ⟨g, 2, none⟩ (.slice xa (l.eraseIdx i).length xc)) g lim last (l.eraseIdx i) xa xc from ⟨set_heap hb9 2 _, hr2, hn9, by rw [List.length_eraseIdx, if_pos hi]; omega⟩); have HK := Lib.hid (show Kept (wrt g (.slice a l.length cap)) w (w'.setCell ⟨g, 2, none⟩ (.slice xa (l.eraseIdx i).length xc)) from ((Kept.refl _ w).grown hg (fun j hj => .inl (mem_wrt.2 (.inr hj)))).set (mem_wrt.2 (.inl rfl)) 2 _); obtain ⟨⟨j0, j1, j2⟩, k0, k1, k2⟩ := box3 hb9; clear ho hg hne hb9 hne' hr9 hn9 hos hr2 he2 e21 e22)
  go_end0
  exact ⟨rfl, _, _, HX.out, HK.out⟩
/-- remove of what Settle names. -/
theorem rem_any (B g : Nat) (lim last : Int) (i j : Nat) (l : List Int) (v : Value) (w : World) (hj : j ≤ l.length) (hij : i = 0 ∨ j = i + 1) (h : CrV B w g lim last l v) :
    Calls Tryz.prog 72 #[.pointer (some ⟨g, 0, none⟩), .int .i64 i, .int .i64 j] w (RemR g lim last (l.take i ++ l.drop j) v w) := by
  by_cases h0 : i = 0
  · subst h0
    simpa using rem_front B g lim last j l v w hj h
  · have h1 : j = i + 1 := by omega
    subst h1
    have := rem_one B g lim last i l v w (by omega) (by omega) h
    rw [List.eraseIdx_eq_take_drop_succ] at this
    exact this

end Go.Proofs.YtiobcgolcoocnaaGreatDoor.Cr
