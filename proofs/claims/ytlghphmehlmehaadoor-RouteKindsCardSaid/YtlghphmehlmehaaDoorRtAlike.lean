/-
  Two bindings, two exchanges compared; route.alike, walked.
-/
import Derived.Test.YtlghphmehlmehaaDoorRtFind
import Derived.Test.YtlghphmehlmehaaDoorTCut
import Derived.Laws.StructEq
import Derived.BigQuiet
namespace Go.Proofs.YtlghphmehlmehaaDoor.Rt
open Go.RowKit Top
set_option linter.unusedVariables false

theorem bd_fields : (Tryd.prog.fieldsOf 28).toList.map (fun f => (f.name, f.type, f.offset)) = [("Ex", 9, 0), ("Queue", 9, 1), ("Key", 9, 2), ("Weight", 3, 3)] := by kernel_rfl
theorem ex_fields : (Tryd.prog.fieldsOf 25).toList.map (fun f => (f.name, f.type, f.offset)) = [("Name", 9, 0), ("Kind", 3, 1)] := by kernel_rfl
theorem part_str (w : World) (xs : Array Value) (o : Nat) (s : Value) (h : xs[o]? = some s) : (part 9 xs o).run Tryd.prog w = .ok s w := by
  have hz : ∀ w, (Go.sizeOf 9).run Tryd.prog w = .ok 1 w := fun w => by kernel_rfl
  simp [part, hz, h]
theorem part_int (w : World) (xs : Array Value) (o : Nat) (s : Value) (h : xs[o]? = some s) : (part 3 xs o).run Tryd.prog w = .ok s w := by
  have hz : ∀ w, (Go.sizeOf 3).run Tryd.prog w = .ok 1 w := fun w => by kernel_rfl
  simp [part, hz, h]
theorem field_str (w : World) (d : Nat) (xs ys : Array Value) (o : Nat) (s t : List UInt8) (nm : String) (hnm : nm ≠ "_") (hx : xs[o]? = some (.string ⟨s.toArray⟩)) (hy : ys[o]? = some (.string ⟨t.toArray⟩)) (f : Field) (fs : List Field) (hf : (f.name, f.type, f.offset) = (nm, 9, o)) (r : Bool)
    (h : (Op.eqFields (d + 1) xs ys fs).run Tryd.prog w = .ok r w) : (Op.eqFields (d + 1) xs ys (f :: fs)).run Tryd.prog w = .ok (decide (s = t) && r) w := by
  simp only [Prod.mk.injEq] at hf
  obtain ⟨h1, h2, h3⟩ := hf
  simp only [Op.eqFields, h1, h2, h3, if_pos hnm, Sem.run_bind, part_str w xs o _ hx, part_str w ys o _ hy, Result.andThen_ok, run_equalIn_string w d _ _ _ Tryd.underlying9]
  by_cases hst : s = t
  · subst hst; simp [h]
  · simp [hst]
theorem field_int (w : World) (d : Nat) (xs ys : Array Value) (o : Nat) (s t : Int) (nm : String) (hnm : nm ≠ "_") (hx : xs[o]? = some (.int .i64 s)) (hy : ys[o]? = some (.int .i64 t)) (f : Field) (fs : List Field) (hf : (f.name, f.type, f.offset) = (nm, 3, o)) (r : Bool)
    (h : (Op.eqFields (d + 1) xs ys fs).run Tryd.prog w = .ok r w) : (Op.eqFields (d + 1) xs ys (f :: fs)).run Tryd.prog w = .ok (decide (s = t) && r) w := by
  simp only [Prod.mk.injEq] at hf
  obtain ⟨h1, h2, h3⟩ := hf
  simp only [Op.eqFields, h1, h2, h3, if_pos hnm, Sem.run_bind, part_int w xs o _ hx, part_int w ys o _ hy, Result.andThen_ok, run_equalIn_int w d _ _ _ _ _ Tryd.underlying3]
  by_cases hst : s = t
  · subst hst; simp [h]
  · simp [hst]
theorem four {α : Type} {l : List α} (h : l.length = 4) : ∃ a b c d, l = [a, b, c, d] := by
  match l, h with
  | [a, b, c, d], _ => exact ⟨a, b, c, d, rfl⟩
theorem two {α : Type} {l : List α} (h : l.length = 2) : ∃ a b, l = [a, b] := by
  match l, h with
  | [a, b], _ => exact ⟨a, b, rfl⟩
theorem bd_equal (a b : Bd) (w : World) : (Op.equalIn 10000 28 (.agg #[.string ⟨a.ex.toArray⟩, .string ⟨a.q.toArray⟩, .string ⟨a.key.toArray⟩, .int .i64 a.wt]) (.agg #[.string ⟨b.ex.toArray⟩, .string ⟨b.q.toArray⟩, .string ⟨b.key.toArray⟩, .int .i64 b.wt])).run Tryd.prog w = .ok (decide (a = b)) w := by
  have hfs := bd_fields
  rw [run_equalIn_struct w 9999 _ _ _ (by kernel_rfl) (by kernel_rfl)]
  generalize (Tryd.prog.fieldsOf 28).toList = L at hfs
  obtain ⟨f0, f1, f2, f3, rfl⟩ := four (by simpa using congrArg List.length hfs)
  · simp only [List.map_cons, List.map_nil, List.cons.injEq, and_true] at hfs
    obtain ⟨h0, h1, h2, h3⟩ := hfs
    rw [field_str w 9998 _ _ 0 a.ex b.ex "Ex" (by decide) rfl rfl f0 _ h0 _ (field_str w 9998 _ _ 1 a.q b.q "Queue" (by decide) rfl rfl f1 _ h1 _ (field_str w 9998 _ _ 2 a.key b.key "Key" (by decide) rfl rfl f2 _ h2 _ (field_int w 9998 _ _ 3 a.wt b.wt "Weight" (by decide) rfl rfl f3 _ h3 true rfl)))]
    congr 1
    by_cases h : a = b
    · subst h; simp
    · rw [decide_eq_false h]
      cases a; cases b
      simpa using h
theorem ex_equal (a b : Ex) (w : World) : (Op.equalIn 10000 25 (.agg #[.string ⟨a.name.toArray⟩, .int .i64 a.kind]) (.agg #[.string ⟨b.name.toArray⟩, .int .i64 b.kind])).run Tryd.prog w = .ok (decide (a = b)) w := by
  have hfs := ex_fields
  rw [run_equalIn_struct w 9999 _ _ _ (by kernel_rfl) (by kernel_rfl)]
  generalize (Tryd.prog.fieldsOf 25).toList = L at hfs
  obtain ⟨f0, f1, rfl⟩ := two (by simpa using congrArg List.length hfs)
  · simp only [List.map_cons, List.map_nil, List.cons.injEq, and_true] at hfs
    obtain ⟨h0, h1⟩ := hfs
    rw [field_str w 9998 _ _ 0 a.name b.name "Name" (by decide) rfl rfl f0 _ h0 _ (field_int w 9998 _ _ 1 a.kind b.kind "Kind" (by decide) rfl rfl f1 _ h1 true rfl)]
    congr 1
    by_cases h : a = b
    · subst h; simp
    · rw [decide_eq_false h]
      cases a; cases b
      simpa using h
theorem bd_neq (a b : Bd) (r : Bool) (hr : decide (a = b) = r) (w : World) : (binOp .neq 28 (.agg #[.string ⟨a.ex.toArray⟩, .string ⟨a.q.toArray⟩, .string ⟨a.key.toArray⟩, .int .i64 a.wt]) (.agg #[.string ⟨b.ex.toArray⟩, .string ⟨b.q.toArray⟩, .string ⟨b.key.toArray⟩, .int .i64 b.wt])).run Tryd.prog w = .ok (.bool (!r)) w := by
  rw [run_neq_struct, bd_equal, hr]; rfl
theorem bd_eql (a b : Bd) (r : Bool) (hr : decide (a = b) = r) (w : World) : (binOp .eql 28 (.agg #[.string ⟨a.ex.toArray⟩, .string ⟨a.q.toArray⟩, .string ⟨a.key.toArray⟩, .int .i64 a.wt]) (.agg #[.string ⟨b.ex.toArray⟩, .string ⟨b.q.toArray⟩, .string ⟨b.key.toArray⟩, .int .i64 b.wt])).run Tryd.prog w = .ok (.bool r) w := by
  rw [run_eql_struct, bd_equal, hr]; rfl
theorem ex_eql (a b : Ex) (r : Bool) (hr : decide (a = b) = r) (w : World) : (binOp .eql 25 (.agg #[.string ⟨a.name.toArray⟩, .int .i64 a.kind]) (.agg #[.string ⟨b.name.toArray⟩, .int .i64 b.kind])).run Tryd.prog w = .ok (.bool r) w := by
  rw [run_eql_struct, ex_equal, hr]; rfl

theorem lk_eq (b c : Bd) : decide (c = ⟨b.ex, b.q, b.key, c.wt⟩) = lk b c := by
  unfold lk
  rw [decide_eq_decide]
  cases c
  simp
def alikeRel (a : Option Addr) (cap : Nat) (l : List Bd) (b : Bd) (w : World) (m : Nat) (a' : Act) (w' : World) : Prop :=
  ∃ (i : Nat) (v : Int) (w1 : World) (u6 u7 u8 u9 u10 u11 u12 u13 u14 u15 u16 u17 u18 u19 u20 u21 u22 u23 u24 : Value), a' = { tmps := #[.slice a l.length cap, .agg #[.string ⟨b.ex.toArray⟩, .string ⟨b.q.toArray⟩, .string ⟨b.key.toArray⟩, .int .i64 b.wt], undef, .pointer (some ⟨w1.heap.size, 0, none⟩), .int .i64 0, .int .i64 i, u6, u7, u8, u9, u10, u11, u12, u13, u14, u15, u16, u17, u18, u19, u20, u21, u22, u23, u24], defers := [] } ∧
    m = l.length - i ∧ i ≤ l.length ∧ (∀ (j : Nat) (h : j < i) (h' : j < l.length), lk b l[j] = false) ∧ Below w.heap.size w w1 ∧ w' = w1.alloc (.cells #[.string ⟨b.ex.toArray⟩, .string ⟨b.q.toArray⟩, .string ⟨b.key.toArray⟩, .int .i64 v] 28)

set_option maxRecDepth 100000 in
set_option maxHeartbeats 1000000 in
theorem alike_any (a : Option Addr) (cap : Nat) (l : List Bd) (b : Bd) (w : World) (hf : BsAt w a cap l) :
    Calls Tryd.prog 24 #[.slice a l.length cap, .agg #[.string ⟨b.ex.toArray⟩, .string ⟨b.q.toArray⟩, .string ⟨b.key.toArray⟩, .int .i64 b.wt]] w fun e w' => e = .returned (.int .i64 (pl (alk b l))) ∧ Below w.heap.size w w' := by
  have HF := Lib.hid hf
  have hcap := hf.max
  have hlen := hf.len
  unfold maxLen at hcap
  clear hf
  go_enter Tryd.func24, Tryd.ntmps24
  go_wp2_with fail
  refine wp_scope_ghost 0 (alikeRel a cap l b w) rfl ?_ ?_
  · intro H hb'
    have HBK := Lib.hid hb'
    clear hb'
    go_wp2_with fail
    go_step3
    rename_i hK
    refine hK _ _ (HBK.out l.length _ _ ⟨0, b.wt, w, ?_⟩)
    repeat apply Exists.intro
    exact ⟨rfl, by omega, by omega, fun j h => by omega, Below.refl _ _, rfl⟩
  · rintro m a' w' ⟨i, v, w1, u6, u7, u8, u9, u10, u11, u12, u13, u14, u15, u16, u17, u18, u19, u20, u21, u22, u23, u24, rfl, rfl, hi, hno, hb1, rfl⟩ H hH
    have HH := Lib.hid hH
    have HNO := Lib.hid hno
    have HB1 := Lib.hid hb1
    have HF1 := Lib.hid (HF.out.below hb1)
    clear hH hno hb1
    by_cases hlt : i < l.length
    · have hlti : (i : Int) < (l.length : Int) := by omega
      have h0i : (0 : Int) ≤ (i : Int) := by omega
      have hne : ((i : Int) == (l.length : Int)) = false := by simp; omega
      have c4 : IntKind.i64.wrap ((i : Int) + 1) = (i : Int) + 1 := IntWalk.i64_in _ (by omega)
      have hb0 : Below w1.heap.size w1 (w1.alloc (.cells #[.string ⟨b.ex.toArray⟩, .string ⟨b.q.toArray⟩, .string ⟨b.key.toArray⟩, .int .i64 v] 28)) := (Below.refl _ _).alloc (Nat.le_refl _) _
      have hb1 : Below w1.heap.size w1 (w1.alloc (.cells #[.string ⟨b.ex.toArray⟩, .string ⟨b.q.toArray⟩, .string ⟨b.key.toArray⟩, .int .i64 l[i].wt] 28)) := (Below.refl _ _).alloc (Nat.le_refl _) _
      have HB2 := Lib.hid (HB1.out.trans (hb1.mono HB1.out.size))
      obtain ⟨lb, lo, rfl, c0, c1, c2, c3⟩ := BsAt.get (HF1.out.below hb1) i hlt
      obtain ⟨lb', lo', he, c0', c1', c2', c3'⟩ := BsAt.get (HF1.out.below hb0) i hlt
      injection he with he
      injection he with e1 e2
      subst e1 e2
      clear hb0 hb1 c0' c1' c2'
      by_cases hy : lk b l[i] = true
      · have HY := Lib.hid hy
        have hq : ∀ wx, (binOp .neq 28 (.agg #[.string ⟨l[i].ex.toArray⟩, .string ⟨l[i].q.toArray⟩, .string ⟨l[i].key.toArray⟩, .int .i64 l[i].wt]) (.agg #[.string ⟨b.ex.toArray⟩, .string ⟨b.q.toArray⟩, .string ⟨b.key.toArray⟩, .int .i64 l[i].wt])).run Tryd.prog wx = .ok (.bool false) wx :=
          bd_neq l[i] ⟨b.ex, b.q, b.key, l[i].wt⟩ true (by rw [lk_eq]; exact hy)
        clear hy
        go_wp2_with fail
        go_quiet (fail)
        go_wp2_with fail
        simp only [Exit.jump]
        go_ret
        refine ⟨?_, Below.drewN HB2.out _⟩
        rw [show alk b l = some i from find_first hlt HY.out (fun j hj => HNO.out j hj (by omega))]
        rfl
      · have hy : lk b l[i] = false := by simpa using hy
        have HY := Lib.hid hy
        have hq : ∀ wx, (binOp .neq 28 (.agg #[.string ⟨l[i].ex.toArray⟩, .string ⟨l[i].q.toArray⟩, .string ⟨l[i].key.toArray⟩, .int .i64 l[i].wt]) (.agg #[.string ⟨b.ex.toArray⟩, .string ⟨b.q.toArray⟩, .string ⟨b.key.toArray⟩, .int .i64 l[i].wt])).run Tryd.prog wx = .ok (.bool true) wx :=
          bd_neq l[i] ⟨b.ex, b.q, b.key, l[i].wt⟩ false (by rw [lk_eq]; exact hy)
        clear hy
        go_wp2_with fail
        go_quiet (fail)
        go_wp2_with fail
        go_step3
        refine ⟨rfl, HH.out (l.length - (i + 1)) _ _ (by omega) ⟨i + 1, l[i].wt, w1.drewN nq, ?_⟩⟩
        repeat apply Exists.intro
        refine ⟨rfl, rfl, by omega, fun j h h' => ?_, Below.drewN HB1.out _, rfl⟩
        by_cases hji : j = i
        · subst hji; exact HY.out
        · exact HNO.out j (by omega) h'
    · obtain rfl : i = l.length := by omega
      have hne : ((l.length : Int) == (l.length : Int)) = true := by simp
      go_wp2_with fail
      simp only [Exit.jump]
      go_ret
      refine ⟨?_, (HB1.out.alloc HB1.out.size _)⟩
      rw [show alk b l = none from find_not (fun j hj => HNO.out j hj hj)]
      rfl

end Go.Proofs.YtlghphmehlmehaaDoor.Rt
