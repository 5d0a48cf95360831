/-
  Arcs compared: slices.Equal, ring.Same, the document's SameArcs, walked.
-/
import Derived.Test.YtkcccfllkgjdiaaDoorRgMay
import Derived.Laws.StructEq
import Derived.Deep.LoopGhost
namespace Go.Proofs.YtkcccfllkgjdiaaDoor.Rg
open Go.RowKit
set_option linter.unusedVariables false

theorem ar_fields : (Tryd.prog.fieldsOf 52).toList.map (fun f => (f.name, f.type, f.offset)) = [("From", 50, 0), ("Shard", 3, 1)] := by kernel_rfl
theorem part_int (w : World) (xs : Array Value) (o : Nat) (s : Value) (h : xs[o]? = some s) : (part 3 xs o).run Tryd.prog w = .ok s w := by
  have hz : ∀ w, (Go.sizeOf 3).run Tryd.prog w = .ok 1 w := fun w => by kernel_rfl
  simp [part, hz, h]
theorem part_u32 (w : World) (xs : Array Value) (o : Nat) (s : Value) (h : xs[o]? = some s) : (part 50 xs o).run Tryd.prog w = .ok s w := by
  have hz : ∀ w, (Go.sizeOf 50).run Tryd.prog w = .ok 1 w := fun w => by kernel_rfl
  simp [part, hz, h]
theorem field_int (w : World) (d : Nat) (xs ys : Array Value) (o : Nat) (s t : Int) (nm : String) (hnm : nm ≠ "_") (hx : xs[o]? = some (.int .i64 s)) (hy : ys[o]? = some (.int .i64 t)) (f : Field) (fs : List Field) (hf : (f.name, f.type, f.offset) = (nm, 3, o)) (r : Bool)
    (h : (Op.eqFields (d + 1) xs ys fs).run Tryd.prog w = .ok r w) : (Op.eqFields (d + 1) xs ys (f :: fs)).run Tryd.prog w = .ok (decide (s = t) && r) w := by
  simp only [Prod.mk.injEq] at hf
  obtain ⟨h1, h2, h3⟩ := hf
  simp only [Op.eqFields, h1, h2, h3, if_pos hnm, Sem.run_bind, part_int w xs o _ hx, part_int w ys o _ hy, Result.andThen_ok, run_equalIn_int w d _ _ _ _ _ Tryd.underlying3]
  by_cases hst : s = t
  · subst hst; simp [h]
  · simp [hst]
theorem field_u32 (w : World) (d : Nat) (xs ys : Array Value) (o : Nat) (s t : Int) (nm : String) (hnm : nm ≠ "_") (hx : xs[o]? = some (.int .u32 s)) (hy : ys[o]? = some (.int .u32 t)) (f : Field) (fs : List Field) (hf : (f.name, f.type, f.offset) = (nm, 50, o)) (r : Bool)
    (h : (Op.eqFields (d + 1) xs ys fs).run Tryd.prog w = .ok r w) : (Op.eqFields (d + 1) xs ys (f :: fs)).run Tryd.prog w = .ok (decide (s = t) && r) w := by
  simp only [Prod.mk.injEq] at hf
  obtain ⟨h1, h2, h3⟩ := hf
  simp only [Op.eqFields, h1, h2, h3, if_pos hnm, Sem.run_bind, part_u32 w xs o _ hx, part_u32 w ys o _ hy, Result.andThen_ok, run_equalIn_int w d _ _ _ _ _ Tryd.underlying50]
  by_cases hst : s = t
  · subst hst; simp [h]
  · simp [hst]
theorem two {α : Type} {l : List α} (h : l.length = 2) : ∃ a b, l = [a, b] := by
  match l, h with
  | [a, b], _ => exact ⟨a, b, rfl⟩
theorem ar_equal (a b : Ar) (w : World) : (Op.equalIn 10000 52 (.agg #[.int .u32 a.f, .int .i64 a.s]) (.agg #[.int .u32 b.f, .int .i64 b.s])).run Tryd.prog w = .ok (decide (a = b)) w := by
  have hfs := ar_fields
  rw [run_equalIn_struct w 9999 _ _ _ (by kernel_rfl) (by kernel_rfl)]
  generalize (Tryd.prog.fieldsOf 52).toList = L at hfs
  obtain ⟨f0, f1, rfl⟩ := two (by simpa using congrArg List.length hfs)
  · simp only [List.map_cons, List.map_nil, List.cons.injEq, and_true] at hfs
    obtain ⟨h0, h1⟩ := hfs
    rw [field_u32 w 9998 _ _ 0 a.f b.f "From" (by decide) rfl rfl f0 _ h0 _ (field_int w 9998 _ _ 1 a.s b.s "Shard" (by decide) rfl rfl f1 _ h1 true rfl)]
    congr 1
    by_cases h : a = b
    · subst h; simp
    · rw [decide_eq_false h]
      cases a; cases b
      simpa using h
theorem ar_neq (a b : Ar) (r : Bool) (hr : decide (a = b) = r) (w : World) : (binOp .neq 52 (.agg #[.int .u32 a.f, .int .i64 a.s]) (.agg #[.int .u32 b.f, .int .i64 b.s])).run Tryd.prog w = .ok (.bool (!r)) w := by
  rw [run_neq_struct, ar_equal, hr]; rfl

def sameRel (w : World) (l m : List Ar) (n : Nat) (v : Value) (wr : World) : Prop :=
  ∃ i : Nat, i ≤ l.length ∧ l.take i = m.take i ∧ v = .int .i64 i ∧ n = l.length - i ∧ Drew w wr
theorem take_more {l m : List Ar} {i : Nat} (h : l.take i = m.take i) (hi : i < l.length) (hj : i < m.length) (he : l[i] = m[i]) : l.take (i + 1) = m.take (i + 1) := by
  rw [List.take_succ_eq_append_getElem hi, List.take_succ_eq_append_getElem hj, h, he]
theorem not_same {l m : List Ar} {i : Nat} (hi : i < l.length) (hj : i < m.length) (he : ¬ l[i] = m[i]) : decide (l = m) = false := by
  rw [decide_eq_false_iff_not]
  intro h
  subst h
  exact he rfl
theorem all_same {l m : List Ar} (hlen : l.length = m.length) (h : l.take l.length = m.take l.length) : decide (l = m) = true := by
  rw [decide_eq_true_eq]
  rw [List.take_length, hlen, List.take_length] at h
  exact h

set_option maxHeartbeats 1000000 in
theorem same_any (a b : Option Addr) (ca cb : Nat) (l m : List Ar) (w : World) (hl : AsAt w a ca l) (hm : AsAt w b cb m) :
    Calls Tryd.prog 22 #[.slice a l.length ca, .slice b m.length cb] w fun e w' => e = .returned (.bool (decide (l = m))) ∧ Drew w w' := by
  have hcap := hl.max
  have hlen := hl.len
  unfold maxLen at hcap
  by_cases he : l.length = m.length
  case neg =>
    have HR : Hid (decide (l = m) = false) := Lib.hid (by rw [decide_eq_false_iff_not]; intro h; subst h; exact he rfl)
    have e1 : ((l.length : Int) != (m.length : Int)) = true := by rw [bne_iff_ne]; omega
    clear hl hm he
    go_enter Tryd.func22, Tryd.ntmps22
    go_wp2_with fail
    go_ret
    exact ⟨by rw [HR.out]; rfl, Drew.refl _⟩
  have e1 : ((l.length : Int) != (m.length : Int)) = false := by rw [bne_eq_false_iff_eq]; omega
  have HL := Lib.hid hl
  have HM := Lib.hid hm
  have HE := Lib.hid he
  clear hl hm he
  go_enter Tryd.func22, Tryd.ntmps22
  go_wp2_with fail
  go_loopg [5] l.length (sameRel w l m)
  case atStart => exact ⟨0, Nat.zero_le _, rfl, rfl, rfl, Drew.refl _⟩
  case round =>
    obtain ⟨i, hi, ht, rfl, rfl, hd⟩ := hrel
    have HT := Lib.hid ht
    have HD := Lib.hid hd
    have HL1 := Lib.hid (HL.out.below hd.below)
    have HM1 := Lib.hid (HM.out.below hd.below)
    clear ht hd
    by_cases hlt : i < l.length
    · have hltm : i < m.length := by have := HE.out; omega
      have hlti : (i : Int) < (l.length : Int) := by omega
      have hltj : (i : Int) < (m.length : Int) := by omega
      have h0i : (0 : Int) ≤ (i : Int) := by omega
      obtain ⟨b1, o1, rfl, c0, c1⟩ := AsAt.get HL1.out i hlt
      obtain ⟨b2, o2, rfl, d0, d1⟩ := AsAt.get HM1.out i hltm
      by_cases hq : l[i] = m[i]
      · have hn := fun wx => ar_neq l[i] m[i] true (decide_eq_true hq) wx
        have HT2 := Lib.hid (take_more HT.out hlt hltm hq)
        clear hq
        go_wp2_with fail
        go_quiet (fail)
        go_wp2_with fail
        go_roundg (l.length - (i + 1))
        case measure => omega
        case rel => exact ⟨i + 1, by omega, HT2.out, by go_num, by simp, HD.out.more _⟩
      · have hn := fun wx => ar_neq l[i] m[i] false (decide_eq_false hq) wx
        have HR := Lib.hid (not_same hlt hltm hq)
        clear hq
        go_wp2_with fail
        go_quiet (fail)
        go_wp2_with fail
        go_ret
        exact ⟨by rw [HR.out]; rfl, HD.out.more _⟩
    · obtain rfl : i = l.length := by omega
      have HR := Lib.hid (all_same HE.out HT.out)
      go_wp2_with fail
      go_ret
      exact ⟨by rw [HR.out]; rfl, HD.out⟩

set_option maxHeartbeats 1000000 in
theorem equal_any (a b : Option Addr) (ca cb : Nat) (l m : List Ar) (w : World) (hl : AsAt w a ca l) (hm : AsAt w b cb m) :
    Calls Tryd.prog 42 #[.slice a l.length ca, .slice b m.length cb] w fun e w' => e = .returned (.bool (decide (l = m))) ∧ Drew w w' := by
  have hcap := hl.max
  have hlen := hl.len
  unfold maxLen at hcap
  by_cases he : l.length = m.length
  case neg =>
    have HR : Hid (decide (l = m) = false) := Lib.hid (by rw [decide_eq_false_iff_not]; intro h; subst h; exact he rfl)
    have e1 : ((l.length : Int) != (m.length : Int)) = true := by rw [bne_iff_ne]; omega
    clear hl hm he
    go_enter Tryd.func42, Tryd.ntmps42
    go_wp2_with fail
    go_ret
    exact ⟨by rw [HR.out]; rfl, Drew.refl _⟩
  have e1 : ((l.length : Int) != (m.length : Int)) = false := by rw [bne_eq_false_iff_eq]; omega
  have HL := Lib.hid hl
  have HM := Lib.hid hm
  have HE := Lib.hid he
  clear hl hm he
  go_enter Tryd.func42, Tryd.ntmps42
  go_wp2_with fail
  go_loopg [13] l.length (sameRel w l m)
  case atStart => exact ⟨0, Nat.zero_le _, rfl, rfl, rfl, Drew.refl _⟩
  case round =>
    obtain ⟨i, hi, ht, rfl, rfl, hd⟩ := hrel
    have HT := Lib.hid ht
    have HD := Lib.hid hd
    have HL1 := Lib.hid (HL.out.below hd.below)
    have HM1 := Lib.hid (HM.out.below hd.below)
    clear ht hd
    by_cases hlt : i < l.length
    · have hltm : i < m.length := by have := HE.out; omega
      have hlti : (i : Int) < (l.length : Int) := by omega
      have hltj : (i : Int) < (m.length : Int) := by omega
      have h0i : (0 : Int) ≤ (i : Int) := by omega
      obtain ⟨b1, o1, rfl, c0, c1⟩ := AsAt.get HL1.out i hlt
      obtain ⟨b2, o2, rfl, d0, d1⟩ := AsAt.get HM1.out i hltm
      by_cases hq : l[i] = m[i]
      · have hn := fun wx => ar_neq l[i] m[i] true (decide_eq_true hq) wx
        have HT2 := Lib.hid (take_more HT.out hlt hltm hq)
        clear hq
        go_wp2_with fail
        go_quiet (fail)
        go_wp2_with fail
        go_roundg (l.length - (i + 1))
        case measure => omega
        case rel => exact ⟨i + 1, by omega, HT2.out, by go_num, by simp, HD.out.more _⟩
      · have hn := fun wx => ar_neq l[i] m[i] false (decide_eq_false hq) wx
        have HR := Lib.hid (not_same hlt hltm hq)
        clear hq
        go_wp2_with fail
        go_quiet (fail)
        go_wp2_with fail
        go_ret
        exact ⟨by rw [HR.out]; rfl, HD.out.more _⟩
    · obtain rfl : i = l.length := by omega
      have HR := Lib.hid (all_same HE.out HT.out)
      go_wp2_with fail
      go_ret
      exact ⟨by rw [HR.out]; rfl, HD.out⟩

set_option maxHeartbeats 400000 in
theorem psame_any (a b : Option Addr) (ca cb : Nat) (l m : List Ar) (w : World) (hl : AsAt w a ca l) (hm : AsAt w b cb m) :
    Calls Tryd.prog 26 #[.slice a l.length ca, .slice b m.length cb] w fun e w' => e = .returned (.bool (decide (l = m))) ∧ Drew w w' := by
  have h := equal_any a b ca cb l m w hl hm
  generalize decide (l = m) = q at h ⊢
  clear hl hm
  go_enter Tryd.func26, Tryd.ntmps26
  go_wp2_with (go_at_call 42; refine h.mono ?_; rintro e w1 ⟨rfl, hd⟩; have HD := Lib.hid hd; clear hd)
  go_ret
  exact ⟨rfl, HD.out⟩

end Go.Proofs.YtkcccfllkgjdiaaDoor.Rg
