/-
  Messages, held ones, marks compared.
-/
import Derived.Test.YthohjcfpobeplaaShMem
import Derived.Laws.StructEq
namespace Go.Proofs.Ythohjcfpobeplaa.Sh
open Go.RowKit Rg
set_option linter.unusedVariables false
set_option linter.unusedSimpArgs false

theorem mg_fields : (Try.prog.fieldsOf 35).toList.map (fun f => (f.name, f.type, f.offset)) = [("Pub", 3, 0), ("Seq", 3, 1), ("Key", 9, 2), ("Body", 9, 3), ("Again", 4, 4)] := by kernel_rfl
theorem hd_fields : (Try.prog.fieldsOf 37).toList.map (fun f => (f.name, f.type, f.offset)) = [("Tag", 3, 0), ("M", 35, 1)] := by kernel_rfl
theorem mk_fields : (Try.prog.fieldsOf 93).toList.map (fun f => (f.name, f.type, f.offset)) = [("Pub", 3, 0), ("Key", 9, 1), ("Seq", 3, 2)] := by kernel_rfl
theorem part_str (w : World) (xs : Array Value) (o : Nat) (s : Value) (h : xs[o]? = some s) : (part 9 xs o).run Try.prog w = .ok s w := by
  have hz : ∀ w, (Go.sizeOf 9).run Try.prog w = .ok 1 w := fun w => by kernel_rfl
  simp [part, hz, h]
theorem part_int (w : World) (xs : Array Value) (o : Nat) (s : Value) (h : xs[o]? = some s) : (part 3 xs o).run Try.prog w = .ok s w := by
  have hz : ∀ w, (Go.sizeOf 3).run Try.prog w = .ok 1 w := fun w => by kernel_rfl
  simp [part, hz, h]
theorem part_bool (w : World) (xs : Array Value) (o : Nat) (s : Value) (h : xs[o]? = some s) : (part 4 xs o).run Try.prog w = .ok s w := by
  have hz : ∀ w, (Go.sizeOf 4).run Try.prog w = .ok 1 w := fun w => by kernel_rfl
  simp [part, hz, h]
theorem field_str (w : World) (d : Nat) (xs ys : Array Value) (o : Nat) (s t : List UInt8) (nm : String) (hnm : nm ≠ "_") (hx : xs[o]? = some (.string ⟨s.toArray⟩)) (hy : ys[o]? = some (.string ⟨t.toArray⟩)) (f : Field) (fs : List Field) (hf : (f.name, f.type, f.offset) = (nm, 9, o)) (r : Bool)
    (h : (Op.eqFields (d + 1) xs ys fs).run Try.prog w = .ok r w) : (Op.eqFields (d + 1) xs ys (f :: fs)).run Try.prog w = .ok (decide (s = t) && r) w := by
  simp only [Prod.mk.injEq] at hf
  obtain ⟨h1, h2, h3⟩ := hf
  simp only [Op.eqFields, h1, h2, h3, if_pos hnm, Sem.run_bind, part_str w xs o _ hx, part_str w ys o _ hy, Result.andThen_ok, run_equalIn_string w d _ _ _ Try.underlying9]
  by_cases hst : s = t
  · subst hst; simp [h]
  · simp [hst]
theorem field_int (w : World) (d : Nat) (xs ys : Array Value) (o : Nat) (s t : Int) (nm : String) (hnm : nm ≠ "_") (hx : xs[o]? = some (.int .i64 s)) (hy : ys[o]? = some (.int .i64 t)) (f : Field) (fs : List Field) (hf : (f.name, f.type, f.offset) = (nm, 3, o)) (r : Bool)
    (h : (Op.eqFields (d + 1) xs ys fs).run Try.prog w = .ok r w) : (Op.eqFields (d + 1) xs ys (f :: fs)).run Try.prog w = .ok (decide (s = t) && r) w := by
  simp only [Prod.mk.injEq] at hf
  obtain ⟨h1, h2, h3⟩ := hf
  simp only [Op.eqFields, h1, h2, h3, if_pos hnm, Sem.run_bind, part_int w xs o _ hx, part_int w ys o _ hy, Result.andThen_ok, run_equalIn_int w d _ _ _ _ _ Try.underlying3]
  by_cases hst : s = t
  · subst hst; simp [h]
  · simp [hst]
theorem field_bool (w : World) (d : Nat) (xs ys : Array Value) (o : Nat) (s t : Bool) (nm : String) (hnm : nm ≠ "_") (hx : xs[o]? = some (.bool s)) (hy : ys[o]? = some (.bool t)) (f : Field) (fs : List Field) (hf : (f.name, f.type, f.offset) = (nm, 4, o)) (r : Bool)
    (h : (Op.eqFields (d + 1) xs ys fs).run Try.prog w = .ok r w) : (Op.eqFields (d + 1) xs ys (f :: fs)).run Try.prog w = .ok (decide (s = t) && r) w := by
  simp only [Prod.mk.injEq] at hf
  obtain ⟨h1, h2, h3⟩ := hf
  simp only [Op.eqFields, h1, h2, h3, if_pos hnm, Sem.run_bind, part_bool w xs o _ hx, part_bool w ys o _ hy, Result.andThen_ok, run_equalIn_bool' w d _ _ _ Try.underlying4]
  by_cases hst : s = t
  · subst hst; simp [h]
  · simp [hst]
theorem five {α : Type} {l : List α} (h : l.length = 5) : ∃ a b c d e, l = [a, b, c, d, e] := by
  match l, h with
  | [a, b, c, d, e], _ => exact ⟨a, b, c, d, e, rfl⟩
theorem two {α : Type} {l : List α} (h : l.length = 2) : ∃ a b, l = [a, b] := by
  match l, h with
  | [a, b], _ => exact ⟨a, b, rfl⟩
theorem three {α : Type} {l : List α} (h : l.length = 3) : ∃ a b c, l = [a, b, c] := by
  match l, h with
  | [a, b, c], _ => exact ⟨a, b, c, rfl⟩
theorem mg_equal (d : Nat) (a b : Mg) (w : World) : (Op.equalIn (d + 2) 35 (.agg #[.int .i64 a.pub, .int .i64 a.seq, .string ⟨a.key.toArray⟩, .string ⟨a.body.toArray⟩, .bool a.again]) (.agg #[.int .i64 b.pub, .int .i64 b.seq, .string ⟨b.key.toArray⟩, .string ⟨b.body.toArray⟩, .bool b.again])).run Try.prog w = .ok (decide (a = b)) w := by
  have hfs := mg_fields
  rw [run_equalIn_struct w (d + 1) _ _ _ (by kernel_rfl) (by kernel_rfl)]
  generalize (Try.prog.fieldsOf 35).toList = L at hfs
  obtain ⟨f0, f1, f2, f3, f4, rfl⟩ := five (by simpa using congrArg List.length hfs)
  simp only [List.map_cons, List.map_nil, List.cons.injEq, and_true] at hfs
  obtain ⟨h0, h1, h2, h3, h4⟩ := hfs
  rw [field_int w d _ _ 0 a.pub b.pub "Pub" (by decide) rfl rfl f0 _ h0 _ (field_int w d _ _ 1 a.seq b.seq "Seq" (by decide) rfl rfl f1 _ h1 _ (field_str w d _ _ 2 a.key b.key "Key" (by decide) rfl rfl f2 _ h2 _ (field_str w d _ _ 3 a.body b.body "Body" (by decide) rfl rfl f3 _ h3 _ (field_bool w d _ _ 4 a.again b.again "Again" (by decide) rfl rfl f4 _ h4 true rfl))))]
  congr 1
  by_cases h : a = b
  · subst h; simp
  · rw [decide_eq_false h]
    cases a; cases b
    simpa using h
theorem mg_eql (a b : Mg) (r : Bool) (hr : decide (a = b) = r) (w : World) : (binOp .eql 35 (.agg #[.int .i64 a.pub, .int .i64 a.seq, .string ⟨a.key.toArray⟩, .string ⟨a.body.toArray⟩, .bool a.again]) (.agg #[.int .i64 b.pub, .int .i64 b.seq, .string ⟨b.key.toArray⟩, .string ⟨b.body.toArray⟩, .bool b.again])).run Try.prog w = .ok (.bool r) w := by
  rw [run_eql_struct, mg_equal 9998, hr]; rfl
theorem mg_neq (a b : Mg) (r : Bool) (hr : decide (a = b) = r) (w : World) : (binOp .neq 35 (.agg #[.int .i64 a.pub, .int .i64 a.seq, .string ⟨a.key.toArray⟩, .string ⟨a.body.toArray⟩, .bool a.again]) (.agg #[.int .i64 b.pub, .int .i64 b.seq, .string ⟨b.key.toArray⟩, .string ⟨b.body.toArray⟩, .bool b.again])).run Try.prog w = .ok (.bool (!r)) w := by
  rw [run_neq_struct, mg_equal 9998, hr]; rfl
theorem mk_equal (a b : Mk) (w : World) : (Op.equalIn 10000 93 (.agg #[.int .i64 a.pub, .string ⟨a.key.toArray⟩, .int .i64 a.seq]) (.agg #[.int .i64 b.pub, .string ⟨b.key.toArray⟩, .int .i64 b.seq])).run Try.prog w = .ok (decide (a = b)) w := by
  have hfs := mk_fields
  rw [run_equalIn_struct w 9999 _ _ _ (by kernel_rfl) (by kernel_rfl)]
  generalize (Try.prog.fieldsOf 93).toList = L at hfs
  obtain ⟨f0, f1, f2, rfl⟩ := three (by simpa using congrArg List.length hfs)
  simp only [List.map_cons, List.map_nil, List.cons.injEq, and_true] at hfs
  obtain ⟨h0, h1, h2⟩ := hfs
  rw [field_int w 9998 _ _ 0 a.pub b.pub "Pub" (by decide) rfl rfl f0 _ h0 _ (field_str w 9998 _ _ 1 a.key b.key "Key" (by decide) rfl rfl f1 _ h1 _ (field_int w 9998 _ _ 2 a.seq b.seq "Seq" (by decide) rfl rfl f2 _ h2 true rfl))]
  congr 1
  by_cases h : a = b
  · subst h; simp
  · rw [decide_eq_false h]
    cases a; cases b
    simpa using h
theorem mk_neq (a b : Mk) (r : Bool) (hr : decide (a = b) = r) (w : World) : (binOp .neq 93 (.agg #[.int .i64 a.pub, .string ⟨a.key.toArray⟩, .int .i64 a.seq]) (.agg #[.int .i64 b.pub, .string ⟨b.key.toArray⟩, .int .i64 b.seq])).run Try.prog w = .ok (.bool (!r)) w := by
  rw [run_neq_struct, mk_equal, hr]; rfl
theorem hd_equal (a b : Hd) (w : World) : (Op.equalIn 10000 37 (.agg #[.int .i64 a.tag, .int .i64 a.m.pub, .int .i64 a.m.seq, .string ⟨a.m.key.toArray⟩, .string ⟨a.m.body.toArray⟩, .bool a.m.again]) (.agg #[.int .i64 b.tag, .int .i64 b.m.pub, .int .i64 b.m.seq, .string ⟨b.m.key.toArray⟩, .string ⟨b.m.body.toArray⟩, .bool b.m.again])).run Try.prog w = .ok (decide (a = b)) w := by
  have hfs := hd_fields
  rw [run_equalIn_struct w 9999 _ _ _ (by kernel_rfl) (by kernel_rfl)]
  generalize (Try.prog.fieldsOf 37).toList = L at hfs
  obtain ⟨f0, f1, rfl⟩ := two (by simpa using congrArg List.length hfs)
  simp only [List.map_cons, List.map_nil, List.cons.injEq, and_true] at hfs
  obtain ⟨h0, h1⟩ := hfs
  have hm : (Op.eqFields 9999 #[.int .i64 a.tag, .int .i64 a.m.pub, .int .i64 a.m.seq, .string ⟨a.m.key.toArray⟩, .string ⟨a.m.body.toArray⟩, .bool a.m.again] #[.int .i64 b.tag, .int .i64 b.m.pub, .int .i64 b.m.seq, .string ⟨b.m.key.toArray⟩, .string ⟨b.m.body.toArray⟩, .bool b.m.again] [f1]).run Try.prog w = .ok (decide (a.m = b.m) && true) w := by
    simp only [Prod.mk.injEq] at h1
    obtain ⟨e1, e2, e3⟩ := h1
    have hp : ∀ x : Hd, (part 35 #[.int .i64 x.tag, .int .i64 x.m.pub, .int .i64 x.m.seq, .string ⟨x.m.key.toArray⟩, .string ⟨x.m.body.toArray⟩, .bool x.m.again] 1).run Try.prog w = .ok (.agg #[.int .i64 x.m.pub, .int .i64 x.m.seq, .string ⟨x.m.key.toArray⟩, .string ⟨x.m.body.toArray⟩, .bool x.m.again]) w := fun x => by
      have hz : ∀ w, (Go.sizeOf 35).run Try.prog w = .ok 5 w := mgE.siz
      have ha : ∀ w, (isAgg 35).run Try.prog w = .ok true w := fun w => by kernel_rfl
      simp [part, hz, ha]
    simp only [Op.eqFields, e1, e2, e3, if_pos (show ("M" : String) ≠ "_" by decide), Sem.run_bind, hp, Result.andThen_ok, mg_equal 9997]
    by_cases hst : a.m = b.m
    · rw [decide_eq_true hst]; rfl
    · rw [decide_eq_false hst]; rfl
  rw [field_int w 9998 _ _ 0 a.tag b.tag "Tag" (by decide) rfl rfl f0 _ h0 _ hm]
  congr 1
  by_cases h : a = b
  · subst h; simp
  · rw [decide_eq_false h]
    cases a; cases b
    simp only [Hd.mk.injEq, not_and] at h
    simpa using h
theorem hd_neq (a b : Hd) (r : Bool) (hr : decide (a = b) = r) (w : World) : (binOp .neq 37 (.agg #[.int .i64 a.tag, .int .i64 a.m.pub, .int .i64 a.m.seq, .string ⟨a.m.key.toArray⟩, .string ⟨a.m.body.toArray⟩, .bool a.m.again]) (.agg #[.int .i64 b.tag, .int .i64 b.m.pub, .int .i64 b.m.seq, .string ⟨b.m.key.toArray⟩, .string ⟨b.m.body.toArray⟩, .bool b.m.again])).run Try.prog w = .ok (.bool (!r)) w := by
  rw [run_neq_struct, hd_equal, hr]; rfl

end Go.Proofs.Ythohjcfpobeplaa.Sh
