/-
  A channel in memory, its rows of texts, what it answers.
  slices.Index, Contains, Clone of texts; channel's New, one, done, has, Open, Queues, kindOf walked.
-/
import Derived.Test.YtiobcgolcoocnaaGreatDoorRgMemG
import Derived.Test.YtiobcgolcoocnaaGreatDoorMLeaf
import Derived.Deep.LoopGhost
namespace Go.Proofs.YtiobcgolcoocnaaGreatDoor.Ch
open Go.RowKit Rg Sh Bt
set_option linter.unusedVariables false
set_option linter.unusedSimpArgs false

/-! ### rows of texts -/
def stC (s : List UInt8) : List Value := [.string ⟨s.toArray⟩]
theorem st_one (l : List (List UInt8)) : ∀ u ∈ l.flatMap stC, u.oneCell' = true := by
  intro u hu
  obtain ⟨e, _, he⟩ := List.mem_flatMap.1 hu
  simp only [stC, List.mem_cons, List.not_mem_nil, or_false] at he
  rcases he with rfl; rfl
theorem stE : El 1 stC 9 36 :=
  ⟨by decide, fun _ => rfl, st_one, Tryz.underlying36, fun w => by kernel_rfl, el_info (by' := 16) (z := .string ⟨#[]⟩) (by kernel_rfl) (by decide) rfl⟩
abbrev StAt := RowsAt 1 stC
abbrev OwnS := OwnE 1 stC 9
theorem StAt.get {w : World} {a : Option Addr} {cap : Nat} {l : List (List UInt8)} (h : StAt w a cap l) (i : Nat) (hi : i < l.length) :
    ∃ b o, a = some ⟨b, o, none⟩ ∧ w.cell? ⟨b, o + i, none⟩ = some (.string ⟨l[i].toArray⟩) := by
  obtain ⟨b, o, ha, hc⟩ := h.at' (by omega)
  have h1 := hc i hi 0 _ rfl
  rw [show o + i * 1 + 0 = o + i by omega] at h1
  exact ⟨b, o, ha, h1⟩

def idxF (l : List (List UInt8)) (x : List UInt8) : Int := match l.findIdx? (fun y => decide (y = x)) with | none => -1 | some i => (i : Int)
theorem idx_not {l : List (List UInt8)} {x : List UInt8} (h : ∀ j (hj : j < l.length), ¬ l[j] = x) : idxF l x = -1 ∧ ¬ x ∈ l := by
  refine ⟨?_, fun hx => ?_⟩
  · unfold idxF
    rw [List.findIdx?_eq_none_iff.2 fun y hy => by
      obtain ⟨j, hj, rfl⟩ := List.getElem_of_mem hy
      simpa using h j hj]
  · obtain ⟨j, hj, he⟩ := List.getElem_of_mem hx
    exact h j hj he
theorem idx_yes {l : List (List UInt8)} {x : List UInt8} {i : Nat} (hi : i < l.length) (hx : l[i] = x) (h : ∀ j (hj : j < i), ¬ l[j]'(by omega) = x) : idxF l x = (i : Int) ∧ x ∈ l := by
  refine ⟨?_, hx ▸ List.getElem_mem hi⟩
  unfold idxF
  rw [List.findIdx?_eq_some_iff_getElem.2 ⟨hi, by simpa using hx, fun j hj => by simpa using h j hj⟩]
def idxRel (a : Option Addr) (cap : Nat) (l : List (List UInt8)) (x : List UInt8) (w : World) (m : Nat) (v8 : Value) (wr : World) : Prop :=
  ∃ i : Nat, i ≤ l.length ∧ m = l.length - i ∧ v8 = .int .i64 i ∧ (∀ j (hj : j < l.length), j < i → ¬ l[j] = x) ∧ w = wr
set_option maxRecDepth 100000 in
set_option maxHeartbeats 2000000 in
theorem index_any (a : Option Addr) (cap : Nat) (l : List (List UInt8)) (x : List UInt8) (w : World) (hf : StAt w a cap l) :
    Calls Tryz.prog 41 #[.slice a l.length cap, .string ⟨x.toArray⟩] w fun e w' => e = .returned (.int .i64 (idxF l x)) ∧ w = w' := by
  have HF := Lib.hid hf
  have hcap := hf.max
  have hlen := hf.len
  unfold maxLen at hcap
  clear hf
  go_enter Tryz.func41, Tryz.ntmps41
  go_wp2_with fail
  go_loopg [8] l.length (idxRel a cap l x w)
  case atStart => exact ⟨0, by omega, by omega, rfl, fun j hj h => by omega, rfl⟩
  case round =>
    obtain ⟨i, hi, rfl, rfl, hno, rfl⟩ := hrel
    have HNO := Lib.hid hno
    clear hno
    by_cases hlt : i < l.length
    · have hlti : (i : Int) < (l.length : Int) := by omega
      have h0i : (0 : Int) ≤ (i : Int) := by omega
      have c4 : IntKind.i64.wrap ((i : Int) + 1) = (i : Int) + 1 := IntWalk.i64_in _ (by omega)
      obtain ⟨b, o, rfl, c0⟩ := StAt.get HF.out i hlt
      by_cases hp : l[i] = x
      · have HP := Lib.hid (idx_yes hlt hp fun j hj => HNO.out j (by omega) hj)
        have e1 : (x == l[i]) = true := by rw [hp]; simp
        clear hp
        go_wp2_with fail
        go_ret
        exact ⟨by rw [HP.out.1]; rfl, rfl⟩
      · have HP := Lib.hid hp
        have e1 : (x == l[i]) = false := by rw [beq_eq_false_iff_ne]; exact fun h => hp h.symm
        clear hp
        go_wp2_with fail
        go_roundg (l.length - (i + 1))
        case measure => omega
        case rel =>
          refine ⟨i + 1, by omega, rfl, by simp, fun j hj hji => ?_, rfl⟩
          by_cases e : j = i
          · subst e; exact HP.out
          · exact HNO.out j hj (by omega)
    · have hlti : ¬ (i : Int) < (l.length : Int) := by omega
      have HP := Lib.hid (idx_not fun j hj => HNO.out j hj (by omega))
      go_wp2_with fail
      go_ret
      exact ⟨by rw [HP.out.1]; rfl, rfl⟩
theorem contains_any (a : Option Addr) (cap n : Nat) (l : List (List UInt8)) (x : List UInt8) (w : World) (hn : n = l.length) (hf : StAt w a cap l) :
    Calls Tryz.prog 22 #[.slice a n cap, .string ⟨x.toArray⟩] w fun e w' => e = .returned (.bool (decide (x ∈ l))) ∧ w = w' := by
  subst hn
  have HI := Lib.hid (index_any a cap l x w hf)
  have hh : (0 ≤ idxF l x ∧ x ∈ l) ∨ (idxF l x < 0 ∧ ¬ x ∈ l) := by
    by_cases h : ∃ j, ∃ hj : j < l.length, l[j] = x
    · refine .inl ⟨?_, ?_⟩
      · obtain ⟨j, hj, he⟩ := h
        unfold idxF
        cases hf : l.findIdx? (fun y => decide (y = x)) with
        | none =>
          rw [List.findIdx?_eq_none_iff] at hf
          have := hf _ (List.getElem_mem hj)
          rw [he] at this
          simp at this
        | some i => simp
      · obtain ⟨j, hj, he⟩ := h
        exact he ▸ List.getElem_mem hj
    · obtain ⟨h1, h2⟩ := idx_not (l := l) (x := x) fun j hj he => h ⟨j, hj, he⟩
      exact .inr ⟨by omega, h2⟩
  generalize idxF l x = n at HI hh
  rcases hh with ⟨h1, h2⟩ | ⟨h1, h2⟩
  · rw [decide_eq_true h2]
    clear h2
    go_enter Tryz.func22, Tryz.ntmps22
    go_wp2_with (go_at_call 41; refine HI.out.mono ?_; rintro e w1 ⟨rfl, rfl⟩)
    go_ret
    exact ⟨rfl, rfl⟩
  · rw [decide_eq_false h2]
    have h3 : ¬ 0 ≤ n := by omega
    clear h2
    go_enter Tryz.func22, Tryz.ntmps22
    go_wp2_with (go_at_call 41; refine HI.out.mono ?_; rintro e w1 ⟨rfl, rfl⟩)
    go_ret
    exact ⟨ret_bool (decide_eq_false (by omega)), rfl⟩
set_option maxRecDepth 100000 in
theorem clone_any (a : Option Addr) (cap n : Nat) (l : List (List UInt8)) (hn : n = l.length) (hl9 : l.length ≤ 1000) (w : World) (hf : StAt w a cap l) :
    Calls Tryz.prog 21 #[.slice a n cap] w fun e w' => ∃ v, e = .returned v ∧ OwnS w' w.heap.size v l ∧ Below w.heap.size w w' := by
  subst hn
  cases a with
  | none =>
    obtain rfl : l = [] := rows_nil hf
    have hnil : (binOp .eql 36 (.slice none 0 cap) (.slice none 0 0)).run Tryz.prog w = .ok (.bool true) w := Lib.run_eql_slice_nil w 36 9 none 0 cap 0 0 Tryz.underlying36
    go_enter Tryz.func21, Tryz.ntmps21
    go_wp2_with fail
    go_ret
    exact ⟨_, rfl, OwnE.nil _ _ _ _ _, Below.refl _ _⟩
  | some x =>
    have hb0 : Below w.heap.size w (w.alloc (.cells #[] 9)) := (Below.refl _ _).alloc (Nat.le_refl _) _
    have HB0 := Lib.hid hb0
    have HAT := Lib.hid (hf.below hb0)
    have HOWN := Lib.hid (OwnE.lit stE w w.heap.size (Nat.le_refl _))
    clear hf hb0
    have hnil : (binOp .eql 36 (.slice (some x) l.length cap) (.slice none 0 0)).run Tryz.prog w = .ok (.bool false) w := Lib.run_eql_slice_nil w 36 9 (some x) l.length cap 0 0 Tryz.underlying36
    go_enter Tryz.func21, Tryz.ntmps21
    go_wp2_with (at_builtin; refine put_rows stE (base := w.heap.size) (l := []) (m := l) rfl (.tmp 5) (.tmp 6) rfl HOWN.out HB0.out.size rfl _ rfl rfl HAT.out (by simp; omega) (fun h => by cases h) ?_; intro v2 w2 hb2 hon2; have HB2 := Lib.hid hb2; have HBEL2 := Lib.hid (OwnE.grown HB0.out HOWN.out hon2 HB0.out.size); clear hb2 hon2)
    go_ret
    exact ⟨_, rfl, HB2.out, HBEL2.out⟩

/-! ### a channel -/
/-- block g is a channel. -/
def ChB (w : World) (g : Nat) (st : Int) (x b q c p : Value) (cf tx : Bool) : Prop :=
  w.heap[g]? = some (.cells #[.int .i64 st, x, b, q, c, p, .bool cf, .bool tx] 53 (0, 0))
theorem ChB.cells {w : World} {g : Nat} {st : Int} {x b q c p : Value} {cf tx : Bool} (h : ChB w g st x b q c p cf tx) :
    (w.cell? ⟨g, 0, none⟩ = some (.int .i64 st) ∧ w.cell? ⟨g, 1, none⟩ = some x ∧ w.cell? ⟨g, 2, none⟩ = some b ∧ w.cell? ⟨g, 3, none⟩ = some q ∧ w.cell? ⟨g, 4, none⟩ = some c ∧ w.cell? ⟨g, 5, none⟩ = some p ∧ w.cell? ⟨g, 6, none⟩ = some (.bool cf) ∧ w.cell? ⟨g, 7, none⟩ = some (.bool tx)) ∧
    (w.frozen? ⟨g, 0, none⟩ = false ∧ w.frozen? ⟨g, 1, none⟩ = false ∧ w.frozen? ⟨g, 2, none⟩ = false ∧ w.frozen? ⟨g, 3, none⟩ = false ∧ w.frozen? ⟨g, 4, none⟩ = false ∧ w.frozen? ⟨g, 5, none⟩ = false ∧ w.frozen? ⟨g, 6, none⟩ = false ∧ w.frozen? ⟨g, 7, none⟩ = false) := by
  unfold ChB at h
  refine ⟨⟨?_, ?_, ?_, ?_, ?_, ?_, ?_, ?_⟩, ?_, ?_, ?_, ?_, ?_, ?_, ?_, ?_⟩
  all_goals first | (rw [cell_of_row w _ _ _ _ _ h]; rfl) | simp [World.frozen?, h]
theorem ChB.lt {w : World} {g : Nat} {st : Int} {x b q c p : Value} {cf tx : Bool} (h : ChB w g st x b q c p cf tx) : g < w.heap.size := (box_lt h).1
theorem ChB.below {w w' : World} {g : Nat} {st : Int} {x b q c p : Value} {cf tx : Bool} (h : ChB w g st x b q c p cf tx) (hb : Below w.heap.size w w') : ChB w' g st x b q c p cf tx := box_bl h hb

/-! ### a channel's box is laid anew -/
def set8 (w : World) (g : Nat) (x y z u v p q r : Value) : World := (((((((w.setCell ⟨g, 0, none⟩ x).setCell ⟨g, 1, none⟩ y).setCell ⟨g, 2, none⟩ z).setCell ⟨g, 3, none⟩ u).setCell ⟨g, 4, none⟩ v).setCell ⟨g, 5, none⟩ p).setCell ⟨g, 6, none⟩ q).setCell ⟨g, 7, none⟩ r
theorem set8_kept (w : World) (g : Nat) (x y z u v p q r : Value) : Kept [g] w (set8 w g x y z u v p q r) := by
  unfold set8
  have h : g ∈ [g] := by simp
  exact ((((((((Kept.refl [g] w).set h 0 x).set h 1 y).set h 2 z).set h 3 u).set h 4 v).set h 5 p).set h 6 q).set h 7 r
theorem ChB.set0 {w : World} {g : Nat} {st : Int} {x b q c p : Value} {cf tx : Bool} (h : ChB w g st x b q c p cf tx) (st' : Int) : ChB (w.setCell ⟨g, 0, none⟩ (.int .i64 st')) g st' x b q c p cf tx := by
  have h1 := set_heap h 0 (.int .i64 st')
  exact h1
theorem ChB.set1 {w : World} {g : Nat} {st : Int} {x b q c p : Value} {cf tx : Bool} (h : ChB w g st x b q c p cf tx) (x' : Value) : ChB (w.setCell ⟨g, 1, none⟩ x') g st x' b q c p cf tx := by
  have h1 := set_heap h 1 x'
  exact h1
theorem ChB.set2 {w : World} {g : Nat} {st : Int} {x b q c p : Value} {cf tx : Bool} (h : ChB w g st x b q c p cf tx) (b' : Value) : ChB (w.setCell ⟨g, 2, none⟩ b') g st x b' q c p cf tx := by
  have h1 := set_heap h 2 b'
  exact h1
theorem ChB.set3 {w : World} {g : Nat} {st : Int} {x b q c p : Value} {cf tx : Bool} (h : ChB w g st x b q c p cf tx) (q' : Value) : ChB (w.setCell ⟨g, 3, none⟩ q') g st x b q' c p cf tx := by
  have h1 := set_heap h 3 q'
  exact h1
theorem ChB.set4 {w : World} {g : Nat} {st : Int} {x b q c p : Value} {cf tx : Bool} (h : ChB w g st x b q c p cf tx) (c' : Value) : ChB (w.setCell ⟨g, 4, none⟩ c') g st x b q c' p cf tx := by
  have h1 := set_heap h 4 c'
  exact h1
theorem ChB.set5 {w : World} {g : Nat} {st : Int} {x b q c p : Value} {cf tx : Bool} (h : ChB w g st x b q c p cf tx) (p' : Value) : ChB (w.setCell ⟨g, 5, none⟩ p') g st x b q c p' cf tx := by
  have h1 := set_heap h 5 p'
  exact h1
theorem ChB.set6 {w : World} {g : Nat} {st : Int} {x b q c p : Value} {cf tx : Bool} (h : ChB w g st x b q c p cf tx) (cf' : Bool) : ChB (w.setCell ⟨g, 6, none⟩ (.bool cf')) g st x b q c p cf' tx := by
  have h1 := set_heap h 6 (.bool cf')
  exact h1
theorem ChB.set7 {w : World} {g : Nat} {st : Int} {x b q c p : Value} {cf tx : Bool} (h : ChB w g st x b q c p cf tx) (tx' : Bool) : ChB (w.setCell ⟨g, 7, none⟩ (.bool tx')) g st x b q c p cf tx' := by
  have h1 := set_heap h 7 (.bool tx')
  exact h1
theorem set8_box {w : World} {g : Nat} {st : Int} {x b q c p : Value} {cf tx : Bool} (h : ChB w g st x b q c p cf tx) (st' : Int) (x' b' q' c' p' : Value) (cf' tx' : Bool) :
    ChB (set8 w g (.int .i64 st') x' b' q' c' p' (.bool cf') (.bool tx')) g st' x' b' q' c' p' cf' tx' := by
  unfold set8
  exact (((((((h.set0 st').set1 x').set2 b').set3 q').set4 c').set5 p').set6 cf').set7 tx'
theorem set8_size (w : World) (g : Nat) (x y z u v p q r : Value) : (set8 w g x y z u v p q r).heap.size = w.heap.size := by
  unfold set8; simp
theorem Kept.tail {bs : List Nat} {w w1 w2 : World} (h : Kept bs w w1) (hb : Below w1.heap.size w1 w2) : Kept bs w w2 :=
  h.trans (Kept.of_below (bs := []) hb) fun x hx => by simp at hx
theorem Kept.lead {bs : List Nat} {w w1 w2 : World} (hb : Below w.heap.size w w1) (h : Kept bs w1 w2) : Kept bs w w2 :=
  (Kept.of_below hb).trans h fun x hx => .inl hx

/-- what is answered: nothing, or one call. -/
def Ans (w : World) (v : Value) : Option Me → Prop
  | none => v = .slice none 0 0
  | some m => ∃ s, v = .slice (some ⟨s, 0, none⟩) 1 1 ∧ MeAt w s m none 0
theorem Ans.below {w w' : World} {v : Value} {o : Option Me} (h : Ans w v o) (hb : Below w.heap.size w w') : Ans w' v o := by
  cases o with
  | none => exact h
  | some m =>
    obtain ⟨s, h1, h2⟩ := h
    exact ⟨s, h1, box_bl h2 hb⟩

theorem new_any (w : World) : Calls Tryz.prog 8 #[] w fun e w' => e = .returned (.pointer (some ⟨w.heap.size, 0, none⟩)) ∧ ChB w' w.heap.size 0 (.slice none 0 0) (.slice none 0 0) (.slice none 0 0) (.slice none 0 0) (.pointer none) false false ∧ Below w.heap.size w w' ∧ w'.heap.size = w.heap.size + 1 := by
  go_enter Tryz.func8, Tryz.ntmps8
  go_wp2_with fail
  go_ret
  exact ⟨rfl, heap_alloc_new w _, (Below.refl _ _).alloc (Nat.le_refl _) _, by simp⟩
theorem one_any (id : Int) (w : World) : Calls Tryz.prog 19 #[.int .i64 id] w fun e w' => e = .returned (.slice (some ⟨w.heap.size, 0, none⟩) 1 1) ∧ MeAt w' w.heap.size (Me.of id) none 0 ∧ Below w.heap.size w w' := by
  go_enter Tryz.func19, Tryz.ntmps19
  go_wp2_with fail
  go_ret
  exact ⟨rfl, heap_alloc_new w _, (Below.refl _ _).alloc (Nat.le_refl _) _⟩
/-- what done makes of a code. -/
def doneC (c : Int) : Int := if c = 1 then 406 else c
theorem done_ok (id : Int) (w : World) : Calls Tryz.prog 34 #[.int .i64 id, .int .i64 0] w fun e w' => e = .returned (.tuple #[.slice (some ⟨w.heap.size, 0, none⟩) 1 1, .int .i64 0]) ∧ MeAt w' w.heap.size (Me.of id) none 0 ∧ Below w.heap.size w w' := by
  have HO := Lib.hid (one_any id)
  go_enter Tryz.func34, Tryz.ntmps34
  go_wp2_with (go_at_call 19; refine (HO.out _).mono ?_; rintro e w1 ⟨rfl, hm, hb⟩; have HM := Lib.hid hm; have HB := Lib.hid hb; clear hm hb)
  go_ret2
  exact ⟨rfl, HM.out, HB.out⟩
theorem has_any (g : Nat) (st : Int) (x b : Value) (a : Option Addr) (n cap : Nat) (c p : Value) (cf tx : Bool) (l : List (List UInt8)) (s : List UInt8) (w : World) (hn : n = l.length) (h : ChB w g st x b (.slice a n cap) c p cf tx) (hl : StAt w a cap l) :
    Calls Tryz.prog 24 #[.pointer (some ⟨g, 0, none⟩), .string ⟨s.toArray⟩] w fun e w' => e = .returned (.bool (decide (s ∈ l))) ∧ w = w' := by
  obtain ⟨⟨-, -, -, c3, -⟩, -⟩ := h.cells
  have HC := Lib.hid (contains_any a cap n l s w hn hl)
  clear h hl hn
  go_enter Tryz.func24, Tryz.ntmps24
  go_wp2_with (go_at_call 22; refine HC.out.mono ?_; rintro e w1 ⟨rfl, rfl⟩)
  go_ret
  exact ⟨rfl, rfl⟩
theorem open_nil (w : World) : Calls Tryz.prog 11 #[.pointer none] w fun e w' => e = .returned (.bool false) ∧ w = w' := by
  go_enter Tryz.func11, Tryz.ntmps11
  go_wp2_with fail
  go_ret
  exact ⟨rfl, rfl⟩
theorem open_any (g : Nat) (st : Int) (x b q c p : Value) (cf tx : Bool) (w : World) (h : ChB w g st x b q c p cf tx) :
    Calls Tryz.prog 11 #[.pointer (some ⟨g, 0, none⟩)] w fun e w' => e = .returned (.bool (st == 1)) ∧ w = w' := by
  obtain ⟨⟨c0, -⟩, -⟩ := h.cells
  clear h
  go_enter Tryz.func11, Tryz.ntmps11
  go_wp2_with fail
  go_ret
  exact ⟨rfl, rfl⟩
theorem queues_any (g : Nat) (st : Int) (x b : Value) (a : Option Addr) (n cap : Nat) (c p : Value) (cf tx : Bool) (l : List (List UInt8)) (w : World) (hn : n = l.length) (hl9 : l.length ≤ 1000) (h : ChB w g st x b (.slice a n cap) c p cf tx) (hl : StAt w a cap l) :
    Calls Tryz.prog 13 #[.pointer (some ⟨g, 0, none⟩)] w fun e w' => ∃ v, e = .returned v ∧ OwnS w' w.heap.size v l ∧ Below w.heap.size w w' := by
  obtain ⟨⟨-, -, -, c3, -⟩, -⟩ := h.cells
  have HC := Lib.hid (clone_any a cap n l hn hl9 w hl)
  clear h hl hn
  go_enter Tryz.func13, Tryz.ntmps13
  go_wp2_with (go_at_call 21; refine HC.out.mono ?_; rintro e w1 ⟨v, rfl, ho, hb⟩; have HO := Lib.hid ho; have HB := Lib.hid hb; clear ho hb)
  go_ret
  exact ⟨_, rfl, HO.out, HB.out⟩

end Go.Proofs.YtiobcgolcoocnaaGreatDoor.Ch
