/-
  table's has, mayCount, inTurn, New, walked.
-/
import Derived.Test.YtkcccfllkgjdiaaDoorTlMay
import Derived.Test.YtkcccfllkgjdiaaDoorRgBuild
import Derived.Test.YtkcccfllkgjdiaaDoorRgShr
namespace Go.Proofs.YtkcccfllkgjdiaaDoor.Tl
open Go.RowKit Rg
set_option linter.unusedVariables false

def hasB (l : List Ar) (s : Int) : Bool := l.any fun a => decide (a.s = s)
theorem has_iff (l : List Ar) (s : Int) : hasB l s = true ↔ ∃ a ∈ l, a.s = s := by unfold hasB; rw [List.any_eq_true]; simp
theorem share_has {l : List Ar} (hm : May l) (s : Int) : decide (0 < shareA l s) = hasB l s := by
  unfold shareA shareF
  rw [if_pos hm, Bool.eq_iff_iff, decide_eq_true_eq, has_iff]
  constructor
  · intro h
    refine Classical.byContradiction fun hn => ?_
    have h0 : sm (ringT l) s = 0 := sm_none fun t ht => by
      obtain ⟨k, hk, rfl⟩ := List.getElem_of_mem ht
      rw [ring_length] at hk
      rw [ring_get l k hk]
      exact fun e => hn ⟨l[k], List.getElem_mem hk, e⟩
    omega
  · rintro ⟨a, ha, rfl⟩
    obtain ⟨k, hk, rfl⟩ := List.getElem_of_mem ha
    have hr := ring_get l k hk
    have := sm_pos (l := ringT l) (t := (ringT l)[k]'(by rw [ring_length]; exact hk)) (List.getElem_mem _)
    rw [hr] at this
    have this : 1 ≤ sm (ringT l) l[k].s := this
    omega

set_option maxHeartbeats 400000 in
theorem has_any (a : Option Addr) (cap : Nat) (l : List Ar) (s : Int) (w : World) (hf : AsAt w a cap l) (hw : Wf l) (hm : May l) :
    Calls Tryd.prog 38 #[.slice a l.length cap, .int .i64 s] w fun e w' => e = .returned (.bool (hasB l s)) ∧ Drew w w' := by
  have HS := Lib.hid (share_has hm s)
  have HC := Lib.hid (share_any a cap l s w hf hw)
  clear hf hw hm
  generalize shareA l s = x at *
  go_enter Tryd.func38, Tryd.ntmps38
  go_wp2_with fail
  refine HC.out.mono ?_
  rintro e w' ⟨rfl, hd⟩
  have HD := Lib.hid hd
  clear hd
  go_wp2_with fail
  go_ret
  exact ⟨ret_bool HS.out, HD.out⟩

set_option maxHeartbeats 400000 in
theorem count_any (n : Int) (w : World) :
    Calls Tryd.prog 17 #[.int .i64 n] w fun e w' => e = .returned (.bool (decide (1 ≤ n ∧ n ≤ 4))) ∧ w = w' := by
  by_cases h1 : 1 ≤ n
  · by_cases h2 : n ≤ 4
    · rw [decide_eq_true (show 1 ≤ n ∧ n ≤ 4 from ⟨h1, h2⟩)]
      go_enter Tryd.func17, Tryd.ntmps17
      go_wp2_with fail
      go_ret
      exact ⟨rfl, rfl⟩
    · rw [decide_eq_false (show ¬ (1 ≤ n ∧ n ≤ 4) from fun h => h2 h.2)]
      go_enter Tryd.func17, Tryd.ntmps17
      go_wp2_with fail
      go_ret
      exact ⟨rfl, rfl⟩
  · rw [decide_eq_false (show ¬ (1 ≤ n ∧ n ≤ 4) from fun h => h1 h.1)]
    go_enter Tryd.func17, Tryd.ntmps17
    go_wp2_with fail
    go_ret
    exact ⟨rfl, rfl⟩

/-! ### the nodes in turn -/
def turnN (l : List Ar) (k : Int) (i : Nat) : Int := if hasB l i = true then (i : Int) % k else -1
def turnF (l : List Ar) (k : Int) (n : Nat) : List Int := (List.range n).map (turnN l k)
theorem turn_succ (l : List Ar) (k : Int) (n : Nat) : turnF l k (n + 1) = turnF l k n ++ [turnN l k n] := by unfold turnF; rw [List.range_succ, List.map_append]; rfl
theorem turn_length (l : List Ar) (k : Int) (n : Nat) : (turnF l k n).length = n := by unfold turnF; simp
def turnRel (W : World) (l : List Ar) (k : Int) (n : Nat) (m : Nat) (u v : Value) (wr : World) : Prop :=
  ∃ i : Nat, i ≤ n ∧ v = .int .i64 i ∧ m = n - i ∧ OwnW wr W.heap.size u (turnF l k i) ∧ Below W.heap.size W wr
theorem own_drewN {w : World} {base : Nat} {v : Value} {l : List Int} (h : OwnW w base v l) (n : Nat) : OwnW (w.drewN n) base v l := h.below1 (Drew.below ⟨n, rfl⟩)

set_option maxRecDepth 100000 in
set_option maxHeartbeats 2000000 in
theorem turn_any (a : Option Addr) (cap : Nat) (l : List Ar) (n : Nat) (k : Int) (w : World) (hf : AsAt w a cap l) (hw : Wf l) (hm : May l) (hn : n ≤ 100) (hk : 1 ≤ k ∧ k ≤ 4) :
    Calls Tryd.prog 19 #[.slice a l.length cap, .int .i64 n, .int .i64 k] w fun e w' => ∃ v, e = .returned v ∧ OwnW w' w.heap.size v (turnF l k n) ∧ Below w.heap.size w w' := by
  have HF := Lib.hid hf
  have HW := Lib.hid hw
  have HM := Lib.hid hm
  have hk0 : ¬ k = 0 := by omega
  clear hf hw hm
  go_enter Tryd.func19, Tryd.ntmps19
  go_wp2_with fail
  go_loopg [7, 11] n (turnRel w l k n)
  case atStart => exact ⟨0, Nat.zero_le _, rfl, rfl, OwnW.nil _ _, Below.refl _ _⟩
  case round =>
    obtain ⟨i, hi, rfl, rfl, hown, hb⟩ := hrel
    have HOWN := Lib.hid hown
    have HB := Lib.hid hb
    clear hown hb
    by_cases hlt : i < n
    · have hlti : (i : Int) < (n : Int) := by omega
      have h0i : (0 : Int) ≤ (i : Int) := by omega
      have HC := Lib.hid (has_any a cap l i wr (HF.out.below HB.out) HW.out HM.out)
      have HS := Lib.hid (turn_succ l k i)
      have hts : (turnF l k i).length ≤ 1000 := by rw [turn_length]; omega
      unfold turnN at HS
      generalize hasB l i = q at *
      cases q
      · simp only [Bool.false_eq_true, if_false] at HS
        go_wp2_with (first | (go_at_call 38; refine HC.out.mono ?_; rintro e w1 ⟨rfl, ⟨d, rfl⟩⟩) | (at_builtin; refine put_w (-1) rfl (.tmp 20) (.tmp 22) rfl (own_drewN HOWN.out d) (by simpa using HB.out.size) (by omega) rfl wr.heap.size (by simp) rfl ?_; intro g1 cap1 w1 hown1 hold1 hg1; have HOWN1 := Lib.hid hown1; have HB1 := Lib.hid (OwnW.grown (Below.drewN HB.out d) (own_drewN HOWN.out d) hg1 (by simpa using HB.out.size)); clear hown1 hold1 hg1))
        go_roundg (n - (i + 1))
        case measure => omega
        case rel => exact ⟨i + 1, by omega, by go_num, by simp, by rw [HS.out]; exact HOWN1.out, HB1.out⟩
      · simp only [if_true] at HS
        go_wp2_with (first | (go_at_call 38; refine HC.out.mono ?_; rintro e w1 ⟨rfl, ⟨d, rfl⟩⟩) | (at_builtin; refine put_w ((i : Int) % k) rfl (.tmp 20) (.tmp 22) rfl (own_drewN HOWN.out d) (by simpa using HB.out.size) (by omega) rfl wr.heap.size (by simp) rfl ?_; intro g1 cap1 w1 hown1 hold1 hg1; have HOWN1 := Lib.hid hown1; have HB1 := Lib.hid (OwnW.grown (Below.drewN HB.out d) (own_drewN HOWN.out d) hg1 (by simpa using HB.out.size)); clear hown1 hold1 hg1))
        go_roundg (n - (i + 1))
        case measure => omega
        case rel => exact ⟨i + 1, by omega, by go_num, by simp, by rw [HS.out]; exact HOWN1.out, HB1.out⟩
    · obtain rfl : i = n := by omega
      go_wp2_with fail
      go_ret
      exact ⟨_, rfl, HOWN.out, HB.out⟩

/-! ### New -/
def okN (ws : List Int) (k : Int) : Prop := (1 ≤ k ∧ k ≤ 4) ∧ MayW ws
instance (ws : List Int) (k : Int) : Decidable (okN ws k) := inferInstanceAs (Decidable ((_ ∧ _) ∧ _))
def newT (ws : List Int) (k : Int) : Ta := if okN ws k then ⟨1, ringW ws, turnF (ringW ws) k ws.length⟩ else zeroT
def newC (ws : List Int) (k : Int) : Int := if okN ws k then 0 else 1
/-- an answer that is a table and a code. -/
def TaR (t : Ta) (c : Int) (w : World) (e : Ending) (w' : World) : Prop :=
  ∃ aa ac na nc, e = .returned (.tuple #[.agg #[.int .i64 t.ep, .slice aa t.arcs.length ac, .slice na t.nodes.length nc], .int .i64 c]) ∧ AsAt w' aa ac t.arcs ∧ WsAt w' na nc t.nodes ∧ (aa = none → ac = 0) ∧ (na = none → nc = 0) ∧ Below w.heap.size w w'
theorem newR_not {ws : List Int} {k : Int} (h : ¬ okN ws k) (w w' : World) (hb : Below w.heap.size w w') : TaR (newT ws k) (newC ws k) w (.returned (.tuple #[.agg #[.int .i64 0, .slice none 0 0, .slice none 0 0], .int .i64 1])) w' := by
  unfold newT newC
  rw [if_neg h, if_neg h]
  exact ⟨none, 0, none, 0, rfl, RowsAt.nil _ _ _ _ _ (by simp [maxLen]), RowsAt.nil _ _ _ _ _ (by simp [maxLen]), fun _ => rfl, fun _ => rfl, hb⟩
theorem newR_of {ws : List Int} {k : Int} (h : okN ws k) {w w' : World} {aa na : Option Addr} {ac nc n m : Nat} (h1 : AsAt w' aa ac (ringW ws)) (h2 : WsAt w' na nc (turnF (ringW ws) k ws.length)) (hn : n = (ringW ws).length) (hm : m = (turnF (ringW ws) k ws.length).length) (hb : Below w.heap.size w w') :
    TaR (newT ws k) (newC ws k) w (.returned (.tuple #[.agg #[.int .i64 1, .slice aa n ac, .slice na m nc], .int .i64 0])) w' := by
  subst hn hm
  unfold newT newC
  rw [if_pos h, if_pos h]
  obtain ⟨x, hx⟩ := h1.pos (ringW_may h.2).1
  obtain ⟨y, hy⟩ := h2.pos (by rw [turn_length]; exact h.2.1)
  exact ⟨aa, ac, na, nc, rfl, h1, h2, (fun e => by rw [e] at hx; cases hx), (fun e => by rw [e] at hy; cases hy), hb⟩
theorem own_kept {w w' : World} {base k n : Nat} {T : TypeId} {v : Value} {xs : List Value} (h : w.ownsRow base T k v n xs) (hk : ∀ b, base ≤ b → b < w.heap.size → w'.heap[b]? = w.heap[b]?) : w'.ownsRow base T k v n xs := by
  refine ⟨h.1, ?_⟩
  rcases h.2 with h1 | ⟨g, cap, cur, hv, hbg, hg, r⟩
  · exact .inl h1
  · exact .inr ⟨g, cap, cur, hv, hbg, (hk g hbg (Array.getElem?_eq_some_iff.1 hg).1).trans hg, r⟩
/-- arcs stay as they are, where a block without such numbers is written. -/
theorem ars_other {w w' : World} {a : Option Addr} {cap : Nat} {l : List Ar} (h : AsAt w a cap l) {g : Nat} {cs : Array Value} {T : TypeId} {fz : Nat × Nat} (hg : w.heap[g]? = some (.cells cs T fz)) (hn : ∀ (i : Nat) (n : Int), cs[i]? ≠ some (.int .u32 n)) (hk : ∀ b, b ≠ g → w'.heap[b]? = w.heap[b]?) : AsAt w' a cap l := by
  refine ⟨h.len, h.max, fun h0 => ?_⟩
  obtain ⟨b, o, ha, hc⟩ := h.at' h0
  have hbg : b ≠ g := by
    rintro rfl
    have := hc 0 h0 0 _ rfl
    rw [cell_of_row w _ _ _ _ _ hg] at this
    exact hn _ _ this
  exact ⟨b, o, ha, fun i hi r v hv => (World.cell?_of_block (w := w) (a := ⟨b, o + i * 2 + r, none⟩) (hk b hbg)).trans (hc i hi r v hv)⟩
theorem box_ne {e : Int} {x y : Value} (hx : ∀ n, x ≠ .int .u32 n) (hy : ∀ n, y ≠ .int .u32 n) : ∀ (i : Nat) (n : Int), (#[.int .i64 e, x, y] : Array Value)[i]? ≠ some (.int .u32 n) := by
  intro i n
  match i with
  | 0 => simp
  | 1 => simpa using hx n
  | 2 => simpa using hy n
  | i + 3 => simp
def set3 (w : World) (g : Nat) (x y z : Value) : World := ((w.setCell ⟨g, 0, none⟩ x).setCell ⟨g, 1, none⟩ y).setCell ⟨g, 2, none⟩ z
theorem set3_heap (w : World) (g : Nat) (x y z : Value) (b : Nat) (h : b ≠ g) : (set3 w g x y z).heap[b]? = w.heap[b]? := by
  unfold set3
  rw [Below.heap_setCell _ _ _ _ h, Below.heap_setCell _ _ _ _ h, Below.heap_setCell _ _ _ _ h]
theorem set3_below {B : Nat} {a w : World} (h : Below B a w) {g : Nat} (hg : B ≤ g) (x y z : Value) : Below B a (set3 w g x y z) := by
  unfold set3
  exact ((h.setCell (p := ⟨g, 0, none⟩) hg _).setCell (p := ⟨g, 1, none⟩) hg _).setCell (p := ⟨g, 2, none⟩) hg _
/-- a table's box. -/
theorem box3 {w : World} {g : Nat} {x y z : Value} {t : TypeId} (h : w.heap[g]? = some (.cells #[x, y, z] t (0, 0))) :
    (w.cell? ⟨g, 0, none⟩ = some x ∧ w.cell? ⟨g, 1, none⟩ = some y ∧ w.cell? ⟨g, 2, none⟩ = some z) ∧ w.frozen? ⟨g, 0, none⟩ = false ∧ w.frozen? ⟨g, 1, none⟩ = false ∧ w.frozen? ⟨g, 2, none⟩ = false := by
  refine ⟨⟨?_, ?_, ?_⟩, ?_, ?_, ?_⟩
  all_goals first | (rw [cell_of_row w _ _ _ _ _ h]; rfl) | simp [World.frozen?, h]
theorem box_kept {w w' : World} {o : Obj} (h : Below (w.alloc o).heap.size (w.alloc o) w') : w'.heap[w.heap.size]? = some o := (h.block _ (by simp)).trans (heap_alloc_new w o)
theorem ringW_wf {ws : List Int} (h : MayW ws) : Wf (ringW ws) := srt_wf (marks_wf h.2.2.1 h.2.1)

set_option maxHeartbeats 2000000 in
theorem new_any (a : Option Addr) (cap : Nat) (ws : List Int) (k : Int) (w : World) (hf : WsAt w a cap ws) :
    Calls Tryd.prog 6 #[.slice a ws.length cap, .int .i64 k] w (TaR (newT ws k) (newC ws k) w) := by
  have hb0 : Below w.heap.size w (w.alloc (.cells #[.int .i64 0, .slice none 0 0, .slice none 0 0] 26)) := (Below.refl _ _).alloc (Nat.le_refl _) _
  have HB0 := Lib.hid hb0
  have HF := Lib.hid hf
  clear hf hb0
  by_cases h1 : 1 ≤ k ∧ k ≤ 4
  case neg =>
    have HR : Hid (¬ okN ws k) := Lib.hid fun h => h1 h.1
    have HC := Lib.hid fun wx => count_any k wx
    rw [decide_eq_false h1] at HC
    clear h1
    go_enter Tryd.func6, Tryd.ntmps6
    go_wp2_with fail
    refine (HC.out _).mono ?_
    rintro e w1 ⟨rfl, rfl⟩
    go_wp2_with fail
    refine bodyPost_ret (v := .tuple #[.agg #[.int .i64 0, .slice none 0 0, .slice none 0 0], .int .i64 1]) (by simp [results, Tryd.results6, go_sem, *]) rfl ?_
    exact newR_not HR.out _ _ (HB0.out)
  have HC := Lib.hid fun wx => count_any k wx
  rw [decide_eq_true h1] at HC
  have HK := Lib.hid h1
  have HBD := Lib.hid (build_any a cap ws _ (HF.out.below HB0.out))
  unfold BuildR buildC buildL at HBD
  clear h1
  by_cases h2 : MayW ws
  case neg =>
    have HR : Hid (¬ okN ws k) := Lib.hid fun h => h2 h.2
    rw [if_neg h2, if_neg h2] at HBD
    clear h2
    go_enter Tryd.func6, Tryd.ntmps6
    go_wp2_with fail
    refine (HC.out _).mono ?_
    rintro e w1 ⟨rfl, rfl⟩
    go_wp2_with fail
    refine HBD.out.mono ?_
    rintro e w2 ⟨ba, bc, rfl, _, _, hb2⟩
    have HB2 := Lib.hid (HB0.out.trans (hb2.mono HB0.out.size))
    obtain ⟨⟨c0, c1, c2⟩, f0, f1, f2⟩ := box3 (box_kept hb2)
    clear hb2
    go_wp2_with fail
    refine bodyPost_ret (v := .tuple #[.agg #[.int .i64 0, .slice none 0 0, .slice none 0 0], .int .i64 1]) (by simp [results, Tryd.results6, go_sem, *]) rfl ?_
    exact newR_not HR.out _ _ (set3_below HB2.out (Nat.le_refl _) _ _ _)
  have HO : Hid (okN ws k) := Lib.hid ⟨HK.out, h2⟩
  rw [if_pos h2, if_pos h2] at HBD
  have HM := Lib.hid (ringW_may h2)
  have HW := Lib.hid (ringW_wf h2)
  have hwl : ws.length ≤ 100 := by have := h2.2.1; omega
  clear h2
  go_enter Tryd.func6, Tryd.ntmps6
  go_wp2_with fail
  refine (HC.out _).mono ?_
  rintro e w1 ⟨rfl, rfl⟩
  go_wp2_with fail
  refine HBD.out.mono ?_
  rintro e w2 ⟨ba, bc, rfl, hat2, _, hb2⟩
  have HB2 := Lib.hid (HB0.out.trans (hb2.mono HB0.out.size))
  have HAT2 := Lib.hid hat2
  have HBX := Lib.hid (box_kept hb2)
  have HSZ : Hid (w.heap.size < w2.heap.size) := Lib.hid (Array.getElem?_eq_some_iff.1 HBX.out).1
  clear hb2 hat2
  go_wp2_with fail
  refine (turn_any ba bc (ringW ws) ws.length k w2 HAT2.out HW.out HM.out hwl HK.out).mono ?_
  rintro e w3 ⟨v3, rfl, hown3, hb3⟩
  obtain ⟨na, nc, rfl, hat3⟩ := hown3.at
  have HO3 := Lib.hid hown3
  have HBX3 := Lib.hid ((hb3.block _ (Array.getElem?_eq_some_iff.1 HBX.out).1).trans HBX.out)
  obtain ⟨⟨c0, c1, c2⟩, f0, f1, f2⟩ := box3 ((hb3.block _ (Array.getElem?_eq_some_iff.1 HBX.out).1).trans HBX.out)
  have HB3 := Lib.hid (HB2.out.trans (hb3.mono HB2.out.size))
  have HAT3 := Lib.hid hat3
  have HAT2b := Lib.hid (HAT2.out.below hb3)
  clear hb3 hat3 hown3
  go_wp2_with fail
  refine bodyPost_ret (v := .tuple #[.agg #[.int .i64 1, .slice ba (ringW ws).length bc, .slice na (turnF (ringW ws) k ws.length).length nc], .int .i64 0]) (by simp [results, Tryd.results6, go_sem, *]) rfl ?_
  have hk := set3_heap w3 w.heap.size (.int .i64 1) (.slice ba (ringW ws).length bc) (.slice na (turnF (ringW ws) k ws.length).length nc)
  have hown4 := own_kept (w' := set3 w3 w.heap.size (.int .i64 1) (.slice ba (ringW ws).length bc) (.slice na (turnF (ringW ws) k ws.length).length nc)) HO3.out (fun b hb _ => hk b (by have := HSZ.out; omega))
  obtain ⟨na', nc', he, hat4⟩ := OwnW.at hown4
  obtain ⟨rfl, -, rfl⟩ := Value.slice.inj he
  exact newR_of HO.out (ars_other HAT2b.out HBX3.out (box_ne (by simp) (by simp)) hk) hat4 rfl rfl (set3_below HB3.out (Nat.le_refl _) _ _ _)

end Go.Proofs.YtkcccfllkgjdiaaDoor.Tl
