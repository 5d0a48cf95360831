/-
  A credit in memory: its box and its row of tags.
  credit's New, mayLimit, Limit, Free, Open, Take and slices.Clone of tags, walked.
-/
import Derived.Test.YtiobcgolcoocnaaGreatDoorRgMemG
import Derived.Deep.LoopGhost
import Derived.Deep.CutRange
namespace Go.Proofs.YtiobcgolcoocnaaGreatDoor.Cr
open Go.RowKit Rg Sh Bt
set_option linter.unusedVariables false
set_option linter.unusedSimpArgs false

def usC (x : Int) : List Value := [.int .u64 x]
theorem us_one (l : List Int) : ∀ u ∈ l.flatMap usC, u.oneCell' = true := by
  intro u hu
  obtain ⟨e, _, he⟩ := List.mem_flatMap.1 hu
  simp only [usC, List.mem_cons, List.not_mem_nil, or_false] at he
  rcases he with rfl; rfl
theorem usE : El 1 usC 28 66 :=
  ⟨by decide, fun _ => rfl, us_one, Tryz.underlying66, fun w => by kernel_rfl, el_info (by' := 8) (z := .int .u64 0) (by kernel_rfl) (by decide) rfl⟩
abbrev UsAt := RowsAt 1 usC
abbrev OwnU := OwnE 1 usC 28
theorem UsAt.get {w : World} {a : Option Addr} {cap : Nat} {l : List Int} (h : UsAt w a cap l) (i : Nat) (hi : i < l.length) :
    ∃ b o, a = some ⟨b, o, none⟩ ∧ w.cell? ⟨b, o + i, none⟩ = some (.int .u64 l[i]) := by
  obtain ⟨b, o, ha, hc⟩ := h.at' (by omega)
  have h1 := hc i hi 0 _ rfl
  rw [show o + i * 1 + 0 = o + i by omega] at h1
  exact ⟨b, o, ha, h1⟩

/-- a credit that is read. -/
structure CrX (w : World) (g : Nat) (lim last : Int) (l : List Int) (a : Option Addr) (cap : Nat) : Prop where
  bx : w.heap[g]? = some (.cells #[.int .i64 lim, .int .u64 last, .slice a l.length cap] 68 (0, 0))
  row : UsAt w a cap l
  nn : a = none → cap = 0
  sm : l.length ≤ 1000
/-- a credit of the walk's own: its box and its row lie in blocks from B on. -/
structure CrV (B : Nat) (w : World) (g : Nat) (lim last : Int) (l : List Int) (v : Value) : Prop where
  lo : B ≤ g
  bx : w.heap[g]? = some (.cells #[.int .i64 lim, .int .u64 last, v] 68 (0, 0))
  own : OwnU w B v l
  sm : l.length ≤ 1000
theorem CrV.x {B : Nat} {w : World} {g : Nat} {lim last : Int} {l : List Int} {v : Value} (h : CrV B w g lim last l v) : ∃ a cap, v = .slice a l.length cap ∧ CrX w g lim last l a cap := by
  obtain ⟨a, cap, h1, h2, h3⟩ := OwnE.at usE h.own
  subst h1
  exact ⟨a, cap, rfl, h.bx, h2, h3, h.sm⟩
theorem CrX.below {w w' : World} {g : Nat} {lim last : Int} {l : List Int} {a : Option Addr} {cap : Nat} (h : CrX w g lim last l a cap) (hb : Below w.heap.size w w') : CrX w' g lim last l a cap :=
  ⟨box_bl h.bx hb, h.row.below hb, h.nn, h.sm⟩
theorem CrV.below {B : Nat} {w w' : World} {g : Nat} {lim last : Int} {l : List Int} {v : Value} (h : CrV B w g lim last l v) (hb : Below w.heap.size w w') : CrV B w' g lim last l v :=
  ⟨h.lo, box_bl h.bx hb, h.own.below1 hb, h.sm⟩
theorem box3 {w : World} {g : Nat} {x y z : Value} {t : TypeId} (h : w.heap[g]? = some (.cells #[x, y, z] t (0, 0))) :
    (w.cell? ⟨g, 0, none⟩ = some x ∧ w.cell? ⟨g, 1, none⟩ = some y ∧ w.cell? ⟨g, 2, none⟩ = some z) ∧
    w.frozen? ⟨g, 0, none⟩ = false ∧ w.frozen? ⟨g, 1, none⟩ = false ∧ w.frozen? ⟨g, 2, none⟩ = false := by
  refine ⟨⟨?_, ?_, ?_⟩, ?_, ?_, ?_⟩
  all_goals first | (rw [cell_of_row w _ _ _ _ _ h]; rfl) | simp [World.frozen?, h]

theorem lim_any (n : Int) (w : World) : Calls Tryz.prog 30 #[.int .i64 n] w fun e w' => e = .returned (.bool (decide (0 ≤ n ∧ n ≤ 65535))) ∧ w = w' := by
  by_cases h0 : 0 ≤ n
  · by_cases h1 : n ≤ 65535
    · rw [decide_eq_true (show 0 ≤ n ∧ n ≤ 65535 from ⟨h0, h1⟩)]
      go_enter Tryz.func30, Tryz.ntmps30
      go_wp2_with fail
      go_ret
      exact ⟨rfl, rfl⟩
    · rw [decide_eq_false (show ¬ (0 ≤ n ∧ n ≤ 65535) from fun h => h1 h.2)]
      go_enter Tryz.func30, Tryz.ntmps30
      go_wp2_with fail
      go_ret
      exact ⟨rfl, rfl⟩
  · rw [decide_eq_false (show ¬ (0 ≤ n ∧ n ≤ 65535) from fun h => h0 h.1)]
    go_enter Tryz.func30, Tryz.ntmps30
    go_wp2_with fail
    go_ret
    exact ⟨rfl, rfl⟩
theorem new_bad (n : Int) (h : ¬ (0 ≤ n ∧ n ≤ 65535)) (w : World) : Calls Tryz.prog 18 #[.int .i64 n] w fun e w' => e = .returned (.pointer none) ∧ w = w' := by
  have hl := lim_any n w
  rw [decide_eq_false h] at hl
  clear h
  go_enter Tryz.func18, Tryz.ntmps18
  go_wp2_with (go_at_call 30; refine hl.mono ?_; clear hl; rintro e w1 ⟨rfl, rfl⟩)
  go_ret
  exact ⟨rfl, rfl⟩
theorem new_any (n : Int) (h : 0 ≤ n ∧ n ≤ 65535) (w : World) : Calls Tryz.prog 18 #[.int .i64 n] w fun e w' => e = .returned (.pointer (some ⟨w.heap.size, 0, none⟩)) ∧ CrV w.heap.size w' w.heap.size n 0 [] (.slice none 0 0) ∧ Below w.heap.size w w' ∧ w'.heap.size = w.heap.size + 1 := by
  have hl := lim_any n w
  rw [decide_eq_true h] at hl
  clear h
  go_enter Tryz.func18, Tryz.ntmps18
  go_wp2_with (go_at_call 30; refine hl.mono ?_; clear hl; rintro e w1 ⟨rfl, rfl⟩)
  go_ret
  exact ⟨rfl, ⟨Nat.le_refl _, heap_alloc_new w _, OwnE.nil _ _ _ _ _, by simp⟩, (Below.refl _ _).alloc (Nat.le_refl _) _, by simp⟩

theorem free_nil (w : World) : Calls Tryz.prog 42 #[.pointer none] w fun e w' => e = .returned (.int .i64 0) ∧ w = w' := by
  go_enter Tryz.func42, Tryz.ntmps42
  go_wp2_with fail
  go_ret
  exact ⟨rfl, rfl⟩
theorem take_nil (t : Int) (w : World) : Calls Tryz.prog 23 #[.pointer none, .int .u64 t] w fun e w' => e = .returned (.int .i64 7) ∧ w = w' := by
  go_enter Tryz.func23, Tryz.ntmps23
  go_wp2_with fail
  go_ret
  exact ⟨rfl, rfl⟩
theorem limit_nil (n : Int) (w : World) : Calls Tryz.prog 35 #[.pointer none, .int .i64 n] w fun e w' => e = .returned (.int .i64 7) ∧ w = w' := by
  go_enter Tryz.func35, Tryz.ntmps35
  go_wp2_with fail
  go_ret
  exact ⟨rfl, rfl⟩

/-- how many may be taken. -/
def freeF (lim : Int) (n : Nat) : Int := max ((if lim = 0 then 1000 else lim) - n) 0
theorem free_any (g : Nat) (lim last : Int) (l : List Int) (a : Option Addr) (cap : Nat) (w : World) (hl : 0 ≤ lim ∧ lim ≤ 65535) (h : CrX w g lim last l a cap) :
    Calls Tryz.prog 42 #[.pointer (some ⟨g, 0, none⟩)] w fun e w' => e = .returned (.int .i64 (freeF lim l.length)) ∧ w = w' := by
  obtain ⟨⟨c0, c1, c2⟩, -⟩ := box3 h.bx
  have hsm := h.sm
  clear h
  unfold freeF
  generalize l.length = n at *
  by_cases h0 : lim = 0
  · subst h0
    have q1 : IntKind.i64.wrap ((1000 : Int) - (n : Int)) = (1000 : Int) - (n : Int) := IntWalk.i64_in _ (by omega)
    rw [if_pos rfl]
    go_enter Tryz.func42, Tryz.ntmps42
    go_wp2_with fail
    go_ret
    exact ⟨rfl, rfl⟩
  · have q1 : IntKind.i64.wrap (lim - (n : Int)) = lim - (n : Int) := IntWalk.i64_in _ (by omega)
    have q2 : (lim == 0) = false := by rw [beq_eq_false_iff_ne]; exact h0
    rw [if_neg h0]
    go_enter Tryz.func42, Tryz.ntmps42
    go_wp2_with fail
    go_ret
    exact ⟨rfl, rfl⟩

set_option maxRecDepth 100000 in
theorem clone_any (a : Option Addr) (cap : Nat) (l : List Int) (hl9 : l.length ≤ 1000) (w : World) (hf : UsAt w a cap l) :
    Calls Tryz.prog 71 #[.slice a l.length cap] w fun e w' => ∃ v, e = .returned v ∧ OwnU w' w.heap.size v l ∧ Below w.heap.size w w' := by
  cases a with
  | none =>
    obtain rfl : l = [] := rows_nil hf
    have hnil : (binOp .eql 66 (.slice none 0 cap) (.slice none 0 0)).run Tryz.prog w = .ok (.bool true) w := Lib.run_eql_slice_nil w 66 28 none 0 cap 0 0 Tryz.underlying66
    go_enter Tryz.func71, Tryz.ntmps71
    go_wp2_with fail
    go_ret
    exact ⟨_, rfl, OwnE.nil _ _ _ _ _, Below.refl _ _⟩
  | some x =>
    have hb0 : Below w.heap.size w (w.alloc (.cells #[] 28)) := (Below.refl _ _).alloc (Nat.le_refl _) _
    have HB0 := Lib.hid hb0
    have HAT := Lib.hid (hf.below hb0)
    have HOWN := Lib.hid (OwnE.lit usE w w.heap.size (Nat.le_refl _))
    clear hf hb0
    have hnil : (binOp .eql 66 (.slice (some x) l.length cap) (.slice none 0 0)).run Tryz.prog w = .ok (.bool false) w := Lib.run_eql_slice_nil w 66 28 (some x) l.length cap 0 0 Tryz.underlying66
    go_enter Tryz.func71, Tryz.ntmps71
    go_wp2_with (at_builtin; refine put_rows usE (base := w.heap.size) (l := []) (m := l) rfl (.tmp 5) (.tmp 6) rfl HOWN.out HB0.out.size rfl _ rfl rfl HAT.out (by simp; omega) (fun h => by cases h) ?_; intro v2 w2 hb2 hon2; have HB2 := Lib.hid hb2; have HBEL2 := Lib.hid (OwnE.grown HB0.out HOWN.out hon2 HB0.out.size); clear hb2 hon2)
    go_ret
    exact ⟨_, rfl, HB2.out, HBEL2.out⟩
/-- a tag that is not greater than all ahead. -/
theorem take_old (g : Nat) (lim last t : Int) (l : List Int) (a : Option Addr) (cap : Nat) (w : World) (ht : t ≤ last) (h : CrX w g lim last l a cap) :
    Calls Tryz.prog 23 #[.pointer (some ⟨g, 0, none⟩), .int .u64 t] w fun e w' => e = .returned (.int .i64 1) ∧ w = w' := by
  obtain ⟨⟨c0, c1, c2⟩, -⟩ := box3 h.bx
  clear h
  go_enter Tryz.func23, Tryz.ntmps23
  go_wp2_with fail
  go_ret
  exact ⟨rfl, rfl⟩
theorem take_full (g : Nat) (lim last t : Int) (l : List Int) (a : Option Addr) (cap : Nat) (w : World) (hl : 0 ≤ lim ∧ lim ≤ 65535) (ht : last < t) (hf : freeF lim l.length = 0) (h : CrX w g lim last l a cap) :
    Calls Tryz.prog 23 #[.pointer (some ⟨g, 0, none⟩), .int .u64 t] w fun e w' => e = .returned (.int .i64 4) ∧ w = w' := by
  obtain ⟨⟨c0, c1, c2⟩, -⟩ := box3 h.bx
  have hh := free_any g lim last l a cap w hl h
  rw [hf] at hh
  have HF := Lib.hid hh
  have ht' : ¬ t ≤ last := by omega
  clear h hh hf ht
  go_enter Tryz.func23, Tryz.ntmps23
  go_wp2_with (go_at_call 42; refine HF.out.mono ?_; rintro e w1 ⟨rfl, rfl⟩)
  go_ret
  exact ⟨rfl, rfl⟩
set_option maxRecDepth 100000 in
set_option maxHeartbeats 1000000 in
theorem take_any (B g : Nat) (lim last t : Int) (l : List Int) (v : Value) (w : World) (hl : 0 ≤ lim ∧ lim ≤ 65535) (ht : last < t) (hf : ¬ freeF lim l.length = 0) (hsm : l.length < 1000) (hB : B ≤ w.heap.size) (h : CrV B w g lim last l v) :
    Calls Tryz.prog 23 #[.pointer (some ⟨g, 0, none⟩), .int .u64 t] w fun e w' => e = .returned (.int .i64 0) ∧ ∃ v', CrV B w' g lim t (l ++ [t]) v' ∧ Below B w w' := by
  obtain ⟨a, cap, rfl, hx⟩ := h.x
  have hh := free_any g lim last l a cap w hl hx
  have q1 : (freeF lim l.length == 0) = false := by rw [beq_eq_false_iff_ne]; exact hf
  generalize freeF lim l.length = fr at *
  have HF := Lib.hid hh
  obtain ⟨⟨c0, c1, c2⟩, f0, f1, f2⟩ := box3 h.bx
  have hlo := h.lo
  obtain ⟨W, hW⟩ : ∃ W, W = w.setCell ⟨g, 1, none⟩ (.int .u64 t) := ⟨_, rfl⟩
  have hbW : W.heap[g]? = some (.cells #[.int .i64 lim, .int .u64 t, .slice a l.length cap] 68 (0, 0)) := by rw [hW]; exact set_heap h.bx 1 _
  have hoW : OwnU W B (.slice a l.length cap) l := by
    rw [hW]
    exact own_stay h.own fun j hj => Below.heap_setCell w ⟨g, 1, none⟩ _ j (fun e => own_box h.own h.bx (by decide) (by rw [hj]; exact congrArg some e))
  have hdW : Below B w W := by rw [hW]; exact low_set (Below.refl _ _) hlo
  have ht' : ¬ t ≤ last := by omega
  have HO := Lib.hid hoW
  have HX := Lib.hid hbW
  have HD := Lib.hid hdW
  clear h hh hf ht hx hoW hbW hdW
  go_enter Tryz.func23, Tryz.ntmps23
  go_upto_region 8 with (go_at_call 42; refine HF.out.mono ?_; rintro e w1 ⟨rfl, rfl⟩)
  rw [← hW]
  have hz : W.heap.size = w.heap.size := by rw [hW]; simp
  clear hW f0 f1 f2 c0 c1 c2 HF
  obtain ⟨⟨c0, c1, c2⟩, f0, f1, f2⟩ := box3 HX.out
  have hBW : B ≤ W.heap.size := by rw [hz]; exact hB
  obtain ⟨z1, z2, -⟩ := box_lt HX.out
  clear hz hB
  go_wp2_with (first | (refine put_lies usE t (w := W) rfl (.tmp 26) (.tmp 28) rfl HO.out hBW (by omega) _ rfl rfl _ rfl rfl ?_; intro v' w' ho hg hla; have hne := own_box HO.out HX.out (by decide); have hne' := own_box ho ((hg.block g z1 (Ne.symm hne)).trans HX.out) (by decide); have hb9 := (hg.block g z1 (Ne.symm hne)).trans HX.out; have hEND : CrV B (w'.setCell ⟨g, 2, none⟩ v') g lim t (l ++ [t]) v' := ⟨hlo, set_heap hb9 2 _, own_stay ho fun j hj => Below.heap_setCell w' ⟨g, 2, none⟩ _ j (fun e => hne' (by rw [hj]; exact congrArg some e)), by simp; omega⟩; have hBE : Below B w (w'.setCell ⟨g, 2, none⟩ v') := low_set (OwnE.grown HD.out HO.out hg hBW) hlo; obtain ⟨xa, xc, rfl, -, -⟩ := OwnE.at usE ho; rw [show (l ++ [t]).length = l.length + 1 from List.length_append] at hEND hBE; have HE := Lib.hid hEND; have HBE := Lib.hid hBE; obtain ⟨⟨j0, j1, j2⟩, k0, k1, k2⟩ := box3 hb9; clear ho hg hla hne hne' hb9 hEND hBE))
  go_ret
  exact ⟨rfl, _, HE.out, HBE.out⟩

theorem limit_any (B g : Nat) (lim last n : Int) (l : List Int) (v : Value) (w : World) (hn : 0 ≤ n ∧ n ≤ 65535) (h : CrV B w g lim last l v) :
    Calls Tryz.prog 35 #[.pointer (some ⟨g, 0, none⟩), .int .i64 n] w fun e w' => e = .returned (.int .i64 0) ∧ CrV B w' g n last l v ∧ Below B w w' := by
  have hl := lim_any n w
  rw [decide_eq_true hn] at hl
  obtain ⟨⟨c0, c1, c2⟩, f0, f1, f2⟩ := box3 h.bx
  have hE : CrV B (w.setCell ⟨g, 0, none⟩ (.int .i64 n)) g n last l v := ⟨h.lo, set_heap h.bx 0 _, own_stay h.own fun j hj => Below.heap_setCell w ⟨g, 0, none⟩ _ j (fun e => own_box h.own h.bx (by decide) (by rw [hj]; exact congrArg some e)), h.sm⟩
  have HE := Lib.hid hE
  have HB := Lib.hid (show Below B w (w.setCell ⟨g, 0, none⟩ (.int .i64 n)) from low_set (Below.refl _ _) h.lo)
  clear h hE hn
  go_enter Tryz.func35, Tryz.ntmps35
  go_wp2_with (go_at_call 30; refine hl.mono ?_; clear hl; rintro e w1 ⟨rfl, rfl⟩)
  go_ret
  exact ⟨rfl, HE.out, HB.out⟩

end Go.Proofs.YtiobcgolcoocnaaGreatDoor.Cr
