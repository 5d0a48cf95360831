/-
  Two bindings, two exchanges compared; route.alike, walked.
  route.mayAll, walked.
  route.mayBinding, mayBindings, May, walked.
-/
import Derived.Test.YtiobcgolcoocnaaGreatDoorRtMem
import Derived.Test.YtiobcgolcoocnaaGreatDoorTCut
import Derived.Laws.StructEq
import Derived.BigQuiet
import Derived.Test.YtiobcgolcoocnaaGreatDoorTMatch

namespace Go.Proofs.YtiobcgolcoocnaaGreatDoor.Rt
open Go.RowKit Top
set_option linter.unusedVariables false

theorem bd_fields : (Tryz.prog.fieldsOf 92).toList.map (fun f => (f.name, f.type, f.offset)) = [("Ex", 9, 0), ("Queue", 9, 1), ("Key", 9, 2), ("Weight", 3, 3)] := by kernel_rfl
theorem ex_fields : (Tryz.prog.fieldsOf 78).toList.map (fun f => (f.name, f.type, f.offset)) = [("Name", 9, 0), ("Kind", 3, 1)] := by kernel_rfl
theorem part_str (w : World) (xs : Array Value) (o : Nat) (s : Value) (h : xs[o]? = some s) : (part 9 xs o).run Tryz.prog w = .ok s w := by
  have hz : ∀ w, (Go.sizeOf 9).run Tryz.prog w = .ok 1 w := fun w => by kernel_rfl
  simp [part, hz, h]
theorem part_int (w : World) (xs : Array Value) (o : Nat) (s : Value) (h : xs[o]? = some s) : (part 3 xs o).run Tryz.prog w = .ok s w := by
  have hz : ∀ w, (Go.sizeOf 3).run Tryz.prog w = .ok 1 w := fun w => by kernel_rfl
  simp [part, hz, h]
theorem field_str (w : World) (d : Nat) (xs ys : Array Value) (o : Nat) (s t : List UInt8) (nm : String) (hnm : nm ≠ "_") (hx : xs[o]? = some (.string ⟨s.toArray⟩)) (hy : ys[o]? = some (.string ⟨t.toArray⟩)) (f : Field) (fs : List Field) (hf : (f.name, f.type, f.offset) = (nm, 9, o)) (r : Bool)
    (h : (Op.eqFields (d + 1) xs ys fs).run Tryz.prog w = .ok r w) : (Op.eqFields (d + 1) xs ys (f :: fs)).run Tryz.prog w = .ok (decide (s = t) && r) w := by
  simp only [Prod.mk.injEq] at hf
  obtain ⟨h1, h2, h3⟩ := hf
  simp only [Op.eqFields, h1, h2, h3, if_pos hnm, Sem.run_bind, part_str w xs o _ hx, part_str w ys o _ hy, Result.andThen_ok, run_equalIn_string w d _ _ _ Tryz.underlying9]
  by_cases hst : s = t
  · subst hst; simp [h]
  · simp [hst]
theorem field_int (w : World) (d : Nat) (xs ys : Array Value) (o : Nat) (s t : Int) (nm : String) (hnm : nm ≠ "_") (hx : xs[o]? = some (.int .i64 s)) (hy : ys[o]? = some (.int .i64 t)) (f : Field) (fs : List Field) (hf : (f.name, f.type, f.offset) = (nm, 3, o)) (r : Bool)
    (h : (Op.eqFields (d + 1) xs ys fs).run Tryz.prog w = .ok r w) : (Op.eqFields (d + 1) xs ys (f :: fs)).run Tryz.prog w = .ok (decide (s = t) && r) w := by
  simp only [Prod.mk.injEq] at hf
  obtain ⟨h1, h2, h3⟩ := hf
  simp only [Op.eqFields, h1, h2, h3, if_pos hnm, Sem.run_bind, part_int w xs o _ hx, part_int w ys o _ hy, Result.andThen_ok, run_equalIn_int w d _ _ _ _ _ Tryz.underlying3]
  by_cases hst : s = t
  · subst hst; simp [h]
  · simp [hst]
theorem four {α : Type} {l : List α} (h : l.length = 4) : ∃ a b c d, l = [a, b, c, d] := by
  match l, h with
  | [a, b, c, d], _ => exact ⟨a, b, c, d, rfl⟩
theorem two {α : Type} {l : List α} (h : l.length = 2) : ∃ a b, l = [a, b] := by
  match l, h with
  | [a, b], _ => exact ⟨a, b, rfl⟩
theorem bd_equal (a b : Bd) (w : World) : (Op.equalIn 10000 92 (.agg #[.string ⟨a.ex.toArray⟩, .string ⟨a.q.toArray⟩, .string ⟨a.key.toArray⟩, .int .i64 a.wt]) (.agg #[.string ⟨b.ex.toArray⟩, .string ⟨b.q.toArray⟩, .string ⟨b.key.toArray⟩, .int .i64 b.wt])).run Tryz.prog w = .ok (decide (a = b)) w := by
  have hfs := bd_fields
  rw [run_equalIn_struct w 9999 _ _ _ (by kernel_rfl) (by kernel_rfl)]
  generalize (Tryz.prog.fieldsOf 92).toList = L at hfs
  obtain ⟨f0, f1, f2, f3, rfl⟩ := four (by simpa using congrArg List.length hfs)
  · simp only [List.map_cons, List.map_nil, List.cons.injEq, and_true] at hfs
    obtain ⟨h0, h1, h2, h3⟩ := hfs
    rw [field_str w 9998 _ _ 0 a.ex b.ex "Ex" (by decide) rfl rfl f0 _ h0 _ (field_str w 9998 _ _ 1 a.q b.q "Queue" (by decide) rfl rfl f1 _ h1 _ (field_str w 9998 _ _ 2 a.key b.key "Key" (by decide) rfl rfl f2 _ h2 _ (field_int w 9998 _ _ 3 a.wt b.wt "Weight" (by decide) rfl rfl f3 _ h3 true rfl)))]
    congr 1
    by_cases h : a = b
    · subst h; simp
    · rw [decide_eq_false h]
      cases a; cases b
      simpa using h
theorem ex_equal (a b : Ex) (w : World) : (Op.equalIn 10000 78 (.agg #[.string ⟨a.name.toArray⟩, .int .i64 a.kind]) (.agg #[.string ⟨b.name.toArray⟩, .int .i64 b.kind])).run Tryz.prog w = .ok (decide (a = b)) w := by
  have hfs := ex_fields
  rw [run_equalIn_struct w 9999 _ _ _ (by kernel_rfl) (by kernel_rfl)]
  generalize (Tryz.prog.fieldsOf 78).toList = L at hfs
  obtain ⟨f0, f1, rfl⟩ := two (by simpa using congrArg List.length hfs)
  · simp only [List.map_cons, List.map_nil, List.cons.injEq, and_true] at hfs
    obtain ⟨h0, h1⟩ := hfs
    rw [field_str w 9998 _ _ 0 a.name b.name "Name" (by decide) rfl rfl f0 _ h0 _ (field_int w 9998 _ _ 1 a.kind b.kind "Kind" (by decide) rfl rfl f1 _ h1 true rfl)]
    congr 1
    by_cases h : a = b
    · subst h; simp
    · rw [decide_eq_false h]
      cases a; cases b
      simpa using h
theorem bd_neq (a b : Bd) (r : Bool) (hr : decide (a = b) = r) (w : World) : (binOp .neq 92 (.agg #[.string ⟨a.ex.toArray⟩, .string ⟨a.q.toArray⟩, .string ⟨a.key.toArray⟩, .int .i64 a.wt]) (.agg #[.string ⟨b.ex.toArray⟩, .string ⟨b.q.toArray⟩, .string ⟨b.key.toArray⟩, .int .i64 b.wt])).run Tryz.prog w = .ok (.bool (!r)) w := by
  rw [run_neq_struct, bd_equal, hr]; rfl
theorem bd_eql (a b : Bd) (r : Bool) (hr : decide (a = b) = r) (w : World) : (binOp .eql 92 (.agg #[.string ⟨a.ex.toArray⟩, .string ⟨a.q.toArray⟩, .string ⟨a.key.toArray⟩, .int .i64 a.wt]) (.agg #[.string ⟨b.ex.toArray⟩, .string ⟨b.q.toArray⟩, .string ⟨b.key.toArray⟩, .int .i64 b.wt])).run Tryz.prog w = .ok (.bool r) w := by
  rw [run_eql_struct, bd_equal, hr]; rfl
theorem ex_eql (a b : Ex) (r : Bool) (hr : decide (a = b) = r) (w : World) : (binOp .eql 78 (.agg #[.string ⟨a.name.toArray⟩, .int .i64 a.kind]) (.agg #[.string ⟨b.name.toArray⟩, .int .i64 b.kind])).run Tryz.prog w = .ok (.bool r) w := by
  rw [run_eql_struct, ex_equal, hr]; rfl

theorem lk_eq (b c : Bd) : decide (c = ⟨b.ex, b.q, b.key, c.wt⟩) = lk b c := by
  unfold lk
  rw [decide_eq_decide]
  cases c
  simp
def alikeRel (a : Option Addr) (cap : Nat) (l : List Bd) (b : Bd) (w : World) (m : Nat) (a' : Act) (w' : World) : Prop :=
  ∃ (i : Nat) (v : Int) (w1 : World) (u6 u7 u8 u9 u10 u11 u12 u13 u14 u15 u16 u17 u18 u19 u20 u21 u22 u23 u24 : Value), a' = { tmps := #[.slice a l.length cap, .agg #[.string ⟨b.ex.toArray⟩, .string ⟨b.q.toArray⟩, .string ⟨b.key.toArray⟩, .int .i64 b.wt], undef, .pointer (some ⟨w1.heap.size, 0, none⟩), .int .i64 0, .int .i64 i, u6, u7, u8, u9, u10, u11, u12, u13, u14, u15, u16, u17, u18, u19, u20, u21, u22, u23, u24], defers := [] } ∧
    m = l.length - i ∧ i ≤ l.length ∧ (∀ (j : Nat) (h : j < i) (h' : j < l.length), lk b l[j] = false) ∧ Below w.heap.size w w1 ∧ w' = w1.alloc (.cells #[.string ⟨b.ex.toArray⟩, .string ⟨b.q.toArray⟩, .string ⟨b.key.toArray⟩, .int .i64 v] 92)

set_option maxRecDepth 100000 in
set_option maxHeartbeats 1000000 in
theorem alike_any (a : Option Addr) (cap : Nat) (l : List Bd) (b : Bd) (w : World) (hf : BsAt w a cap l) :
    Calls Tryz.prog 69 #[.slice a l.length cap, .agg #[.string ⟨b.ex.toArray⟩, .string ⟨b.q.toArray⟩, .string ⟨b.key.toArray⟩, .int .i64 b.wt]] w fun e w' => e = .returned (.int .i64 (pl (alk b l))) ∧ Below w.heap.size w w' := by
  have HF := Lib.hid hf
  have hcap := hf.max
  have hlen := hf.len
  unfold maxLen at hcap
  clear hf
  go_enter Tryz.func69, Tryz.ntmps69
  go_wp2_with fail
  refine wp_scope_ghost 0 (alikeRel a cap l b w) rfl ?_ ?_
  · intro H hb'
    have HBK := Lib.hid hb'
    clear hb'
    go_wp2_with fail
    go_step3
    rename_i hK
    refine hK _ _ (HBK.out l.length _ _ ⟨0, b.wt, w, ?_⟩)
    repeat apply Exists.intro
    exact ⟨rfl, by omega, by omega, fun j h => by omega, Below.refl _ _, rfl⟩
  · rintro m a' w' ⟨i, v, w1, u6, u7, u8, u9, u10, u11, u12, u13, u14, u15, u16, u17, u18, u19, u20, u21, u22, u23, u24, rfl, rfl, hi, hno, hb1, rfl⟩ H hH
    have HH := Lib.hid hH
    have HNO := Lib.hid hno
    have HB1 := Lib.hid hb1
    have HF1 := Lib.hid (HF.out.below hb1)
    clear hH hno hb1
    by_cases hlt : i < l.length
    · have hlti : (i : Int) < (l.length : Int) := by omega
      have h0i : (0 : Int) ≤ (i : Int) := by omega
      have hne : ((i : Int) == (l.length : Int)) = false := by simp; omega
      have c4 : IntKind.i64.wrap ((i : Int) + 1) = (i : Int) + 1 := IntWalk.i64_in _ (by omega)
      have hb0 : Below w1.heap.size w1 (w1.alloc (.cells #[.string ⟨b.ex.toArray⟩, .string ⟨b.q.toArray⟩, .string ⟨b.key.toArray⟩, .int .i64 v] 92)) := (Below.refl _ _).alloc (Nat.le_refl _) _
      have hb1 : Below w1.heap.size w1 (w1.alloc (.cells #[.string ⟨b.ex.toArray⟩, .string ⟨b.q.toArray⟩, .string ⟨b.key.toArray⟩, .int .i64 l[i].wt] 92)) := (Below.refl _ _).alloc (Nat.le_refl _) _
      have HB2 := Lib.hid (HB1.out.trans (hb1.mono HB1.out.size))
      obtain ⟨lb, lo, rfl, c0, c1, c2, c3⟩ := BsAt.get (HF1.out.below hb1) i hlt
      obtain ⟨lb', lo', he, c0', c1', c2', c3'⟩ := BsAt.get (HF1.out.below hb0) i hlt
      injection he with he
      injection he with e1 e2
      subst e1 e2
      clear hb0 hb1 c0' c1' c2'
      by_cases hy : lk b l[i] = true
      · have HY := Lib.hid hy
        have hq : ∀ wx, (binOp .neq 92 (.agg #[.string ⟨l[i].ex.toArray⟩, .string ⟨l[i].q.toArray⟩, .string ⟨l[i].key.toArray⟩, .int .i64 l[i].wt]) (.agg #[.string ⟨b.ex.toArray⟩, .string ⟨b.q.toArray⟩, .string ⟨b.key.toArray⟩, .int .i64 l[i].wt])).run Tryz.prog wx = .ok (.bool false) wx :=
          bd_neq l[i] ⟨b.ex, b.q, b.key, l[i].wt⟩ true (by rw [lk_eq]; exact hy)
        clear hy
        go_wp2_with fail
        go_quiet (fail)
        go_wp2_with fail
        simp only [Exit.jump]
        go_ret
        refine ⟨?_, Below.drewN HB2.out _⟩
        rw [show alk b l = some i from find_first hlt HY.out (fun j hj => HNO.out j hj (by omega))]
        rfl
      · have hy : lk b l[i] = false := by simpa using hy
        have HY := Lib.hid hy
        have hq : ∀ wx, (binOp .neq 92 (.agg #[.string ⟨l[i].ex.toArray⟩, .string ⟨l[i].q.toArray⟩, .string ⟨l[i].key.toArray⟩, .int .i64 l[i].wt]) (.agg #[.string ⟨b.ex.toArray⟩, .string ⟨b.q.toArray⟩, .string ⟨b.key.toArray⟩, .int .i64 l[i].wt])).run Tryz.prog wx = .ok (.bool true) wx :=
          bd_neq l[i] ⟨b.ex, b.q, b.key, l[i].wt⟩ false (by rw [lk_eq]; exact hy)
        clear hy
        go_wp2_with fail
        go_quiet (fail)
        go_wp2_with fail
        go_step3
        refine ⟨rfl, HH.out (l.length - (i + 1)) _ _ (by omega) ⟨i + 1, l[i].wt, w1.drewN nq, ?_⟩⟩
        repeat apply Exists.intro
        refine ⟨rfl, rfl, by omega, fun j h h' => ?_, Below.drewN HB1.out _, rfl⟩
        by_cases hji : j = i
        · subst hji; exact HY.out
        · exact HNO.out j (by omega) h'
    · obtain rfl : i = l.length := by omega
      have hne : ((l.length : Int) == (l.length : Int)) = true := by simp
      go_wp2_with fail
      simp only [Exit.jump]
      go_ret
      refine ⟨?_, (HB1.out.alloc HB1.out.size _)⟩
      rw [show alk b l = none from find_not (fun j hj => HNO.out j hj hj)]
      rfl

end Go.Proofs.YtiobcgolcoocnaaGreatDoor.Rt

namespace Go.Proofs.YtiobcgolcoocnaaGreatDoor.Rt
open Go.RowKit Top
set_option linter.unusedVariables false

def mayXRel (w : World) (l : List Ex) (m : Nat) (v : Value) (wr : World) : Prop :=
  ∃ i : Nat, i ≤ l.length ∧ (∀ (j : Nat) (h : j < i) (h' : j < l.length), MayE l j l[j]) ∧ v = .int .i64 i ∧ m = l.length - i ∧ Below w.heap.size w wr

theorem not_mayX {l : List Ex} (i : Nat) (hi : i < l.length) (h : ¬ MayE l i l[i]) : decide (MayX l) = false := by
  rw [decide_eq_false_iff_not]
  exact fun hm => h (hm.2 i hi)

set_option maxRecDepth 100000 in
set_option maxHeartbeats 1000000 in
theorem mayX_any (a : Option Addr) (cap : Nat) (l : List Ex) (w : World) (hf : XsAt w a cap l) :
    Calls Tryz.prog 81 #[.slice a l.length cap] w fun e w' => e = .returned (.bool (decide (MayX l))) ∧ Below w.heap.size w w' := by
  by_cases h16 : l.length ≤ 16
  case neg =>
    have hgt : (16 : Int) < (l.length : Int) := by omega
    go_enter Tryz.func81, Tryz.ntmps81
    go_wp2_with fail
    go_ret
    refine ⟨?_, Below.refl _ _⟩
    rw [show decide (MayX l) = false by rw [decide_eq_false_iff_not]; exact fun hm => h16 hm.1]
    rfl
  have HF := Lib.hid hf
  have hcap := hf.max
  have hlen := hf.len
  have hle : ¬ (16 : Int) < (l.length : Int) := by omega
  unfold maxLen at hcap
  clear hf
  go_enter Tryz.func81, Tryz.ntmps81
  go_wp2_with fail
  go_loopg [10] l.length (mayXRel w l)
  case atStart => exact ⟨0, Nat.zero_le _, fun j h => by omega, rfl, rfl, Below.refl _ _⟩
  case round =>
    obtain ⟨i, hi, hno, rfl, rfl, hb⟩ := hrel
    have HB := Lib.hid hb
    have HNO := Lib.hid hno
    clear hb hno
    by_cases hlt : i < l.length
    · have hlti : (i : Int) < (l.length : Int) := by omega
      have h0i : (0 : Int) ≤ (i : Int) := by omega
      obtain ⟨b, o, rfl, c0, c1⟩ := XsAt.get (HF.out.below HB.out) i hlt
      have HW := Lib.hid (show ∀ w2, Below wr.heap.size wr w2 → Below w.heap.size w w2 from fun w2 h => HB.out.trans (h.mono HB.out.size))
      have ha0 : Below wr.heap.size wr (wr.alloc (.cells #[.string ⟨l[i].name.toArray⟩, .int .i64 l[i].kind] 78)) := (Below.refl _ _).alloc (Nat.le_refl _) _
      have HA0 := Lib.hid ha0
      have HFIND := Lib.hid (find_any (some ⟨b, o, none⟩) cap l l[i].name _ ((HF.out.below HB.out).below ha0))
      clear ha0
      by_cases h1 : MayNm l[i].name
      case neg =>
        have hn := name_any l[i].name
        rw [decide_eq_false h1] at hn
        go_wp2_with (go_at_call 91; refine (hn _).mono ?_; rintro e w2 ⟨rfl, rfl⟩)
        go_ret
        refine ⟨?_, HW.out _ HA0.out⟩
        rw [not_mayX i hlt fun h => h1 h.1]
        rfl
      have hn := name_any l[i].name
      rw [decide_eq_true h1] at hn
      by_cases h2 : l[i].kind < 1
      · go_wp2_with (go_at_call 91; refine (hn _).mono ?_; rintro e w2 ⟨rfl, rfl⟩)
        go_ret
        refine ⟨?_, HW.out _ HA0.out⟩
        rw [not_mayX i hlt fun h => by have := h.2.1; omega]
        rfl
      by_cases h3 : 4 < l[i].kind
      · go_wp2_with (go_at_call 91; refine (hn _).mono ?_; rintro e w2 ⟨rfl, rfl⟩)
        go_ret
        refine ⟨?_, HW.out _ HA0.out⟩
        rw [not_mayX i hlt fun h => by have := h.2.2.1; omega]
        rfl
      by_cases h4 : fnd l[i].name l = some i
      · rw [h4] at HFIND
        have hpl : pl (some i) = (i : Int) := rfl
        rw [hpl] at HFIND
        have hok : MayE l i l[i] := ⟨h1, by omega, by omega, h4⟩
        have HOK := Lib.hid hok
        clear hok h1 h4
        go_wp2_with (first | (go_at_call 91; refine (hn _).mono ?_; rintro e w2 ⟨rfl, rfl⟩) | (go_at_call 43; refine HFIND.out.mono ?_; rintro e w2 ⟨rfl, hb2⟩; have HB2 := Lib.hid (HW.out _ (HA0.out.trans (hb2.mono HA0.out.size))); clear hb2))
        go_roundg (l.length - (i + 1))
        case measure => omega
        case rel =>
          refine ⟨i + 1, by omega, fun j h h' => ?_, by simp, rfl, HB2.out⟩
          by_cases hji : j = i
          · subst hji; exact HOK.out
          · exact HNO.out j (by omega) h'
      · have hne : (pl (fnd l[i].name l) == (i : Int)) = false := by
          simp only [beq_eq_false_iff_ne, ne_eq, pl_some]
          exact h4
        have hne2 : (pl (fnd l[i].name l) != (i : Int)) = true := by rw [bne, hne]; rfl
        have H4 := Lib.hid h4
        generalize pl (fnd l[i].name l) = k at hne hne2 HFIND
        clear h1 h4
        go_wp2_with (first | (go_at_call 91; refine (hn _).mono ?_; rintro e w2 ⟨rfl, rfl⟩) | (go_at_call 43; refine HFIND.out.mono ?_; rintro e w2 ⟨rfl, hb2⟩; have HB2 := Lib.hid (HW.out _ (HA0.out.trans (hb2.mono HA0.out.size))); clear hb2))
        go_ret
        refine ⟨?_, HB2.out⟩
        rw [not_mayX i hlt fun h => H4.out h.2.2.2]
        rfl
    · obtain rfl : i = l.length := by omega
      go_wp2_with fail
      go_ret
      refine ⟨?_, HB.out⟩
      rw [show decide (MayX l) = true by rw [decide_eq_true_iff]; exact ⟨h16, fun j hj => HNO.out j hj hj⟩]
      rfl

end Go.Proofs.YtiobcgolcoocnaaGreatDoor.Rt

namespace Go.Proofs.YtiobcgolcoocnaaGreatDoor.Rt
open Go.RowKit Top
set_option linter.unusedVariables false

/-- a binding, an exchange in a block of its own. -/
structure BoxB (w : World) (g : Nat) (b : Bd) : Prop where
  c0 : w.cell? ⟨g, 0, none⟩ = some (.string ⟨b.ex.toArray⟩)
  c1 : w.cell? ⟨g, 1, none⟩ = some (.string ⟨b.q.toArray⟩)
  c2 : w.cell? ⟨g, 2, none⟩ = some (.string ⟨b.key.toArray⟩)
  c3 : w.cell? ⟨g, 3, none⟩ = some (.int .i64 b.wt)
structure BoxX (w : World) (g : Nat) (e : Ex) : Prop where
  c0 : w.cell? ⟨g, 0, none⟩ = some (.string ⟨e.name.toArray⟩)
  c1 : w.cell? ⟨g, 1, none⟩ = some (.int .i64 e.kind)
theorem boxB (w : World) (b : Bd) : BoxB (w.alloc (.cells #[.string ⟨b.ex.toArray⟩, .string ⟨b.q.toArray⟩, .string ⟨b.key.toArray⟩, .int .i64 b.wt] 92)) w.heap.size b := by
  constructor
  all_goals (rw [cell_of_row _ _ _ _ _ _ (heap_alloc_new w _)]; rfl)
theorem boxX (w : World) (e : Ex) : BoxX (w.alloc (.cells #[.string ⟨e.name.toArray⟩, .int .i64 e.kind] 78)) w.heap.size e := by
  constructor
  all_goals (rw [cell_of_row _ _ _ _ _ _ (heap_alloc_new w _)]; rfl)
theorem BoxB.below {w w' : World} {g : Nat} {b : Bd} (h : BoxB w g b) (hb : Below w.heap.size w w') : BoxB w' g b :=
  ⟨(hb.cell (lt_of_cell h.c0)).trans h.c0, (hb.cell (lt_of_cell h.c1)).trans h.c1, (hb.cell (lt_of_cell h.c2)).trans h.c2, (hb.cell (lt_of_cell h.c3)).trans h.c3⟩
theorem BoxX.below {w w' : World} {g : Nat} {b : Ex} (h : BoxX w g b) (hb : Below w.heap.size w w') : BoxX w' g b :=
  ⟨(hb.cell (lt_of_cell h.c0)).trans h.c0, (hb.cell (lt_of_cell h.c1)).trans h.c1⟩

theorem not_mayBd {x : List Ex} {b : Bd} (h : ∀ i, fnd b.ex x = some i → MayNm b.q → b.key.length ≤ 255 → ¬ WtOk (kindAt x i) b.wt b.key) : decide (MayBd x b) = false := by
  rw [decide_eq_false_iff_not]
  rintro ⟨i, h1, h2, h3, h4⟩
  exact h i h1 h2 h3 h4
theorem yes_mayBd {x : List Ex} {b : Bd} (i : Nat) (h1 : fnd b.ex x = some i) (h2 : MayNm b.q) (h3 : b.key.length ≤ 255) (h4 : WtOk (kindAt x i) b.wt b.key) : decide (MayBd x b) = true := by
  rw [decide_eq_true_iff]
  exact ⟨i, h1, h2, h3, h4⟩
theorem kind_at {x : List Ex} {i : Nat} (h : i < x.length) : kindAt x i = x[i].kind := by
  unfold kindAt
  rw [List.getElem?_eq_getElem h]
  rfl

set_option maxRecDepth 100000 in
set_option maxHeartbeats 1000000 in
theorem mayB1_any (a : Option Addr) (cap : Nat) (x : List Ex) (b : Bd) (w : World) (hf : XsAt w a cap x) :
    Calls Tryz.prog 92 #[.slice a x.length cap, .agg #[.string ⟨b.ex.toArray⟩, .string ⟨b.q.toArray⟩, .string ⟨b.key.toArray⟩, .int .i64 b.wt]] w fun e w' => e = .returned (.bool (decide (MayBd x b))) ∧ Below w.heap.size w w' := by
  have ha0 : Below w.heap.size w (w.alloc (.cells #[.string ⟨b.ex.toArray⟩, .string ⟨b.q.toArray⟩, .string ⟨b.key.toArray⟩, .int .i64 b.wt] 92)) := (Below.refl _ _).alloc (Nat.le_refl _) _
  have HA0 := Lib.hid ha0
  have HFIND := Lib.hid (find_any a cap x b.ex _ (hf.below ha0))
  have HF := Lib.hid (hf.below ha0)
  have HBOX := Lib.hid (boxB w b)
  have hcap := hf.max
  have hlen := hf.len
  unfold maxLen at hcap
  clear ha0 hf
  cases hi : fnd b.ex x with
  | none =>
    rw [hi] at HFIND
    have hpl : pl none = -1 := rfl
    rw [hpl] at HFIND
    go_enter Tryz.func92, Tryz.ntmps92
    go_wp2_with (go_at_call 43; refine HFIND.out.mono ?_; rintro e w2 ⟨rfl, hb2⟩; have HB2 := Lib.hid (HA0.out.trans (hb2.mono HA0.out.size)); clear hb2)
    go_ret
    refine ⟨?_, HB2.out⟩
    rw [not_mayBd fun j hj => by rw [hi] at hj; cases hj]
    rfl
  | some i =>
    rw [hi] at HFIND
    have hpl : pl (some i) = (i : Int) := rfl
    rw [hpl] at HFIND
    have HI := Lib.hid hi
    have hlt := fnd_lt hi
    have hlti : (i : Int) < (x.length : Int) := by omega
    have h0i : (0 : Int) ≤ (i : Int) := by omega
    have hno : ((i : Int) < 0) = False := by simp
    clear hi hpl
    have hkind := kind_at hlt
    have HK := Lib.hid hkind
    clear hkind
    have wFIND := Lib.hid (show ∀ Q : Ending → World → Prop, (∀ w2 xb xo, a = some ⟨xb, xo, none⟩ → Below w.heap.size w w2 → BoxB w2 w.heap.size b → w2.cell? ⟨xb, xo + i * 2 + 1, none⟩ = some (.int .i64 x[i].kind) → Q (.returned (.int .i64 i)) w2) → Calls Tryz.prog 43 #[.slice a x.length cap, .string ⟨b.ex.toArray⟩] (w.alloc (.cells #[.string ⟨b.ex.toArray⟩, .string ⟨b.q.toArray⟩, .string ⟨b.key.toArray⟩, .int .i64 b.wt] 92)) Q from fun Q hQ => by
      refine HFIND.out.mono ?_
      rintro e w2 ⟨rfl, hb2⟩
      obtain ⟨xb, xo, ha, x0, x1⟩ := XsAt.get (HF.out.below hb2) i hlt
      exact hQ w2 xb xo ha (HA0.out.trans (hb2.mono HA0.out.size)) (HBOX.out.below hb2) x1)
    clear HFIND HF HBOX HA0
    by_cases h1 : MayNm b.q
    case neg =>
      have hn := name_any b.q
      rw [decide_eq_false h1] at hn
      go_enter Tryz.func92, Tryz.ntmps92
      go_wp2_with (first | (go_at_call 43; refine wFIND.out _ ?_; rintro w2 xb xo rfl hb2 ⟨k0, k1, k2, k3⟩ x1; have HB2 := Lib.hid hb2; clear hb2) | (go_at_call 91; refine (hn _).mono ?_; rintro e w2 ⟨rfl, rfl⟩))
      go_ret
      refine ⟨?_, HB2.out⟩
      rw [not_mayBd fun j _ hj => absurd hj h1]
      rfl
    have hn := name_any b.q
    rw [decide_eq_true h1] at hn
    by_cases h2 : b.key.length ≤ 255
    case neg =>
      have h2' : (255 : Int) < (b.key.length : Int) := by omega
      go_enter Tryz.func92, Tryz.ntmps92
      go_wp2_with (first | (go_at_call 43; refine wFIND.out _ ?_; rintro w2 xb xo rfl hb2 ⟨k0, k1, k2, k3⟩ x1; have HB2 := Lib.hid hb2; clear hb2) | (go_at_call 91; refine (hn _).mono ?_; rintro e w2 ⟨rfl, rfl⟩))
      go_ret
      refine ⟨?_, HB2.out⟩
      rw [not_mayBd fun j _ _ hj => absurd hj h2]
      rfl
    have h2' : ((255 : Int) < (b.key.length : Int)) = False := by simp; omega
    have HR := Lib.hid (show ∀ r : Bool, (r = true ↔ WtOk x[i].kind b.wt b.key) → decide (MayBd x b) = r from fun r hr => by
      rw [← HK.out] at hr
      cases r
      · exact not_mayBd fun j hj _ _ hw => by rw [HI.out] at hj; injection hj with hj; subst hj; exact absurd (hr.2 hw) (by simp)
      · exact yes_mayBd i HI.out h1 h2 (hr.1 rfl))
    clear h1 HI HK
    generalize x[i].kind = k at wFIND HR
    by_cases hk4 : k = 4
    · subst hk4
      by_cases hw1 : 1 ≤ b.wt
      · go_enter Tryz.func92, Tryz.ntmps92
        go_wp2_with (first | (go_at_call 43; refine wFIND.out _ ?_; rintro w2 xb xo rfl hb2 ⟨k0, k1, k2, k3⟩ x1; have HB2 := Lib.hid hb2; clear hb2) | (go_at_call 91; refine (hn _).mono ?_; rintro e w2 ⟨rfl, rfl⟩))
        go_ret
        refine ⟨?_, HB2.out⟩
        rw [HR.out (decide (b.wt ≤ 4)) (by rw [decide_eq_true_iff]; unfold WtOk; omega)]
        rfl
      · go_enter Tryz.func92, Tryz.ntmps92
        go_wp2_with (first | (go_at_call 43; refine wFIND.out _ ?_; rintro w2 xb xo rfl hb2 ⟨k0, k1, k2, k3⟩ x1; have HB2 := Lib.hid hb2; clear hb2) | (go_at_call 91; refine (hn _).mono ?_; rintro e w2 ⟨rfl, rfl⟩))
        go_ret
        refine ⟨?_, HB2.out⟩
        rw [HR.out false (by simp only [WtOk]; simp; omega)]
        rfl
    have b4 : (k == 4) = false := by simpa using hk4
    by_cases hk3 : k = 3
    · subst hk3
      by_cases hw0 : b.wt = 0
      · have hm := Lib.hid (may_any b.key (by omega))
        have w0 : (b.wt == 0) = true := by simpa using hw0
        have HW0 := Lib.hid hw0
        clear hw0
        go_enter Tryz.func92, Tryz.ntmps92
        go_wp2_with (first | (go_at_call 43; refine wFIND.out _ ?_; rintro w2 xb xo rfl hb2 ⟨k0, k1, k2, k3⟩ x1; have HB2 := Lib.hid hb2; clear hb2) | (go_at_call 91; refine (hn _).mono ?_; rintro e w2 ⟨rfl, rfl⟩) | (go_at_call 86; refine (hm.out _).mono ?_; rintro e w3 ⟨rfl, hb3⟩; have HB3 := Lib.hid (HB2.out.trans (hb3.mono HB2.out.size)); clear hb3))
        go_ret
        refine ⟨?_, HB3.out⟩
        rw [HR.out (mayB b.key) (by simp [WtOk, HW0.out])]
        rfl
      · have w0 : (b.wt == 0) = false := by simpa using hw0
        go_enter Tryz.func92, Tryz.ntmps92
        go_wp2_with (first | (go_at_call 43; refine wFIND.out _ ?_; rintro w2 xb xo rfl hb2 ⟨k0, k1, k2, k3⟩ x1; have HB2 := Lib.hid hb2; clear hb2) | (go_at_call 91; refine (hn _).mono ?_; rintro e w2 ⟨rfl, rfl⟩))
        go_ret
        refine ⟨?_, HB2.out⟩
        rw [HR.out false (by simp [WtOk, hw0])]
        rfl
    have b3 : (k == 3) = false := by simpa using hk3
    go_enter Tryz.func92, Tryz.ntmps92
    go_wp2_with (first | (go_at_call 43; refine wFIND.out _ ?_; rintro w2 xb xo rfl hb2 ⟨k0, k1, k2, k3⟩ x1; have HB2 := Lib.hid hb2; clear hb2) | (go_at_call 91; refine (hn _).mono ?_; rintro e w2 ⟨rfl, rfl⟩))
    go_ret
    refine ⟨?_, HB2.out⟩
    rw [HR.out (b.wt == 0) (by simp [WtOk, hk3, hk4])]
    rfl

def mayLRel (a c : Option Addr) (ac cc : Nat) (x : List Ex) (l : List Bd) (w : World) (m : Nat) (a' : Act) (w' : World) : Prop :=
  ∃ (i : Nat) (u6 u7 u8 u9 u10 u11 u12 u13 u14 u15 u16 u17 u18 u19 u20 u21 u22 u23 u24 u25 u26 u27 u28 u29 u30 : Value), a' = { tmps := #[.slice a x.length ac, .slice c l.length cc, undef, undef, .bool false, .int .i64 i, u6, u7, u8, u9, u10, u11, u12, u13, u14, u15, u16, u17, u18, u19, u20, u21, u22, u23, u24, u25, u26, u27, u28, u29, u30], defers := [] } ∧
    m = l.length - i ∧ i ≤ l.length ∧ (∀ (j : Nat) (h : j < i) (h' : j < l.length), MayBd x l[j] ∧ alk l[j] l = some j) ∧ l.length ≤ 64 ∧ Below w.heap.size w w'

theorem not_mayL {x : List Ex} {l : List Bd} (i : Nat) (hi : i < l.length) (h : ¬ (MayBd x l[i] ∧ alk l[i] l = some i)) : decide (MayL x l) = false := by
  rw [decide_eq_false_iff_not]
  exact fun hm => h (hm.2 i hi)

set_option maxRecDepth 100000 in
set_option maxHeartbeats 1000000 in
theorem mayL_any (a : Option Addr) (ac : Nat) (x : List Ex) (c : Option Addr) (cc : Nat) (l : List Bd) (w : World) (hx : XsAt w a ac x) (hl : BsAt w c cc l) :
    Calls Tryz.prog 82 #[.slice a x.length ac, .slice c l.length cc] w fun e w' => e = .returned (.bool (decide (MayL x l))) ∧ Below w.heap.size w w' := by
  have HX := Lib.hid hx
  have HL := Lib.hid hl
  clear hx hl
  go_enter Tryz.func82, Tryz.ntmps82
  go_wp2_with fail
  refine wp_scope_ghost 0 (mayLRel a c ac cc x l w) rfl ?_ ?_
  · intro H hb'
    have HBK := Lib.hid hb'
    clear hb'
    by_cases h64 : l.length ≤ 64
    · have hle : ¬ (64 : Int) < (l.length : Int) := by omega
      go_wp2_with fail
      go_step3
      rename_i hK
      refine hK _ _ (HBK.out l.length _ _ ⟨0, ?_⟩)
      repeat apply Exists.intro
      exact ⟨rfl, by omega, by omega, fun j h => by omega, h64, Below.refl _ _⟩
    · have hgt : (64 : Int) < (l.length : Int) := by omega
      go_wp2_with fail
      simp only [Exit.jump]
      go_ret
      refine ⟨?_, Below.refl _ _⟩
      rw [show decide (MayL x l) = false by rw [decide_eq_false_iff_not]; exact fun hm => h64 hm.1]
      rfl
  · rintro m a' w' ⟨i, u6, u7, u8, u9, u10, u11, u12, u13, u14, u15, u16, u17, u18, u19, u20, u21, u22, u23, u24, u25, u26, u27, u28, u29, u30, rfl, rfl, hi, hno, h64, hb1⟩ H hH
    have HH := Lib.hid hH
    have HNO := Lib.hid hno
    have HB1 := Lib.hid hb1
    have hx1 := HX.out.below hb1
    have hl1 := HL.out.below hb1
    clear hH hno hb1
    by_cases hlt : i < l.length
    · have hlti : (i : Int) < (l.length : Int) := by omega
      have h0i : (0 : Int) ≤ (i : Int) := by omega
      have hne : ((i : Int) == (l.length : Int)) = false := by simp; omega
      have c4 : IntKind.i64.wrap ((i : Int) + 1) = (i : Int) + 1 := IntWalk.i64_in _ (by omega)
      have HMAY := Lib.hid (mayB1_any a ac x l[i] w' hx1)
      have HALK := Lib.hid (fun w2 (h : Below w'.heap.size w' w2) => alike_any c cc l l[i] w2 (hl1.below h))
      have HLB := Lib.hid (fun w2 (h : Below w'.heap.size w' w2) => BsAt.get (hl1.below h) i hlt)
      have HW := Lib.hid (show ∀ w2, Below w'.heap.size w' w2 → Below w.heap.size w w2 from fun w2 h => HB1.out.trans (h.mono HB1.out.size))
      obtain ⟨b, o, rfl, c0, c1, c2, c3⟩ := BsAt.get hl1 i hlt
      clear hx1 hl1
      by_cases h1 : MayBd x l[i]
      case neg =>
        rw [decide_eq_false h1] at HMAY
        have H1 := Lib.hid h1
        clear h1
        go_wp2_with (go_at_call 92; refine HMAY.out.mono ?_; rintro e w2 ⟨rfl, hb2⟩; have HB2 := Lib.hid (HW.out _ hb2); clear hb2)
        simp only [Exit.jump]
        go_ret
        refine ⟨?_, HB2.out⟩
        rw [not_mayL i hlt fun h => H1.out h.1]
        rfl
      rw [decide_eq_true h1] at HMAY
      have H1 := Lib.hid h1
      clear h1
      by_cases h2 : alk l[i] l = some i
      · have hpl : ((pl (alk l[i] l)) == (i : Int)) = true := by rw [h2]; simp [pl]
        have H2 := Lib.hid h2
        generalize pl (alk l[i] l) = k at HALK hpl
        clear h2
        go_wp2_with (first | (go_at_call 92; refine HMAY.out.mono ?_; rintro e w2 ⟨rfl, hb2⟩; have HB2 := Lib.hid hb2; obtain ⟨b', o', he, d0, d1, d2, d3⟩ := HLB.out w2 hb2; injection he with he; injection he with e1 e2; subst e1 e2; clear hb2) | (go_at_call 69; refine (HALK.out _ HB2.out).mono ?_; rintro e w3 ⟨rfl, hb3⟩; have HB3 := Lib.hid (HW.out _ (HB2.out.trans (hb3.mono HB2.out.size))); clear hb3))
        go_step3
        refine ⟨rfl, HH.out (l.length - (i + 1)) _ _ (by omega) ⟨i + 1, ?_⟩⟩
        repeat apply Exists.intro
        refine ⟨rfl, rfl, by omega, fun j h h' => ?_, h64, HB3.out⟩
        by_cases hji : j = i
        · subst hji; exact ⟨H1.out, H2.out⟩
        · exact HNO.out j (by omega) h'
      · have hpl : ((pl (alk l[i] l)) == (i : Int)) = false := by
          simp only [beq_eq_false_iff_ne, ne_eq, pl_some]
          exact h2
        have H2 := Lib.hid h2
        generalize pl (alk l[i] l) = k at HALK hpl
        clear h2
        go_wp2_with (first | (go_at_call 92; refine HMAY.out.mono ?_; rintro e w2 ⟨rfl, hb2⟩; have HB2 := Lib.hid hb2; obtain ⟨b', o', he, d0, d1, d2, d3⟩ := HLB.out w2 hb2; injection he with he; injection he with e1 e2; subst e1 e2; clear hb2) | (go_at_call 69; refine (HALK.out _ HB2.out).mono ?_; rintro e w3 ⟨rfl, hb3⟩; have HB3 := Lib.hid (HW.out _ (HB2.out.trans (hb3.mono HB2.out.size))); clear hb3))
        simp only [Exit.jump]
        go_ret
        refine ⟨?_, HB3.out⟩
        rw [not_mayL i hlt fun h => H2.out h.2]
        rfl
    · obtain rfl : i = l.length := by omega
      have hne : ((l.length : Int) == (l.length : Int)) = true := by simp
      go_wp2_with fail
      simp only [Exit.jump]
      go_ret
      refine ⟨?_, HB1.out⟩
      rw [show decide (MayL x l) = true by rw [decide_eq_true_iff]; exact ⟨h64, fun j hj => HNO.out j hj hj⟩]
      rfl

set_option maxHeartbeats 400000 in
theorem mayR_any (a : Option Addr) (ac : Nat) (x : List Ex) (c : Option Addr) (cc : Nat) (l : List Bd) (w : World) (hx : XsAt w a ac x) (hl : BsAt w c cc l) :
    Calls Tryz.prog 67 #[.slice a x.length ac, .slice c l.length cc] w fun e w' => e = .returned (.bool (decide (MayR x l))) ∧ Below w.heap.size w w' := by
  have HX := Lib.hid (mayX_any a ac x w hx)
  have HL := Lib.hid (fun w2 (h : Below w.heap.size w w2) => mayL_any a ac x c cc l w2 (hx.below h) (hl.below h))
  clear hx hl
  by_cases h1 : MayX x
  case neg =>
    rw [decide_eq_false h1] at HX
    have H1 := Lib.hid h1
    clear h1
    go_enter Tryz.func67, Tryz.ntmps67
    go_wp2_with (go_at_call 81; refine HX.out.mono ?_; rintro e w2 ⟨rfl, hb2⟩; have HB2 := Lib.hid hb2; clear hb2)
    go_ret
    refine ⟨?_, HB2.out⟩
    rw [show decide (MayR x l) = false by rw [decide_eq_false_iff_not]; exact fun hm => H1.out hm.1]
    rfl
  rw [decide_eq_true h1] at HX
  rw [show decide (MayR x l) = decide (MayL x l) by rw [decide_eq_decide]; exact ⟨fun h => h.2, fun h => ⟨h1, h⟩⟩]
  clear h1
  generalize decide (MayL x l) = r at HL ⊢
  go_enter Tryz.func67, Tryz.ntmps67
  go_wp2_with (first | (go_at_call 81; refine HX.out.mono ?_; rintro e w2 ⟨rfl, hb2⟩; have HB2 := Lib.hid hb2; clear hb2) | (go_at_call 82; refine (HL.out _ HB2.out).mono ?_; rintro e w3 ⟨rfl, hb3⟩; have HB3 := Lib.hid (HB2.out.trans (hb3.mono HB2.out.size)); clear hb3))
  go_ret
  exact ⟨rfl, HB3.out⟩

end Go.Proofs.YtiobcgolcoocnaaGreatDoor.Rt
