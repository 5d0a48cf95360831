/-
  Maps whose keys are two places: what a look-up, and a store, do.
-/
import Derived.Test.YtjnnpgmgjdhfjaaQGetTxeecd
import Derived.LaidEql
import Derived.Laws.StructEq
import Derived.ChangeKeysEq
import Derived.MapKept
namespace Go.Proofs.Ytjnnpgmgjdhfjaa
open Go.RowKit
set_option linter.unusedVariables false

/-- nil, or the address of a cell that is there and not frozen. -/
def PtrOk (w : World) (p : Option Addr) : Prop := p = none ∨ ∃ b o v, p = some ⟨b, o, none⟩ ∧ w.cell? ⟨b, o, none⟩ = some v ∧ w.frozen? ⟨b, o, none⟩ = false
/-- .. in a block in which nothing is frozen. -/
def PtrPlain (w : World) (p : Option Addr) : Prop := ∀ a, p = some a → ∃ c t, w.heap[a.block]? = some (.cells c t (0, 0))

theorem run_same {P : Program} {w : World} {a b : Addr} (ha : PtrOk w (some a)) (hb : PtrOk w (some b)) :
    ∃ (r : Bool) (n : Nat), (sameAddr a b).run P w = .ok r (w.drewN n) ∧ (r = true → PtrPlain w (some a) → a = b) := by
  rcases ha with h | ⟨ba, oa, va, h, ca, fa⟩
  · cases h
  cases h
  rcases hb with h | ⟨bb, ob, vb, h, cb, fb⟩
  · cases h
  cases h
  by_cases hbl : ba = bb
  · subst hbl
    refine ⟨((⟨ba, oa, none⟩ : Addr) == ⟨ba, ob, none⟩), 0, ?_, ?_⟩
    · simp [sameAddr]; rfl
    · intro h _; simpa using h
  · obtain ⟨ca', ta, fra, hha⟩ : ∃ c t f, w.heap[ba]? = some (.cells c t f) := by
      unfold World.cell? at ca
      split at ca
      · exact ⟨_, _, _, by assumption⟩
      · cases ca
    obtain ⟨cb', tb, frb, hhb⟩ : ∃ c t f, w.heap[bb]? = some (.cells c t f) := by
      unfold World.cell? at cb
      split at cb
      · exact ⟨_, _, _, by assumption⟩
      · cases cb
    have hsza : 0 < ca'.size := by
      rw [cell_of_row w _ _ _ _ _ hha] at ca
      have := (Array.getElem?_eq_some_iff.1 ca).1
      omega
    have hszb : 0 < cb'.size := by
      rw [cell_of_row w _ _ _ _ _ hhb] at cb
      have := (Array.getElem?_eq_some_iff.1 cb).1
      omega
    have ea : ca'.size ≠ 0 := by omega
    have eb : cb'.size ≠ 0 := by omega
    have sha : w.shape? ba = some (ta, ca'.size) := by simp [World.shape?, hha]
    have shb : w.shape? bb = some (tb, cb'.size) := by simp [World.shape?, hhb]
    by_cases hsa : w.frozen? ⟨ba, ca'.size, none⟩ = true
    · by_cases hsb : w.frozen? ⟨bb, cb'.size, none⟩ = true
      · refine ⟨(Question.cut (.extern "sameAddr.stringBytes" 2) (w.tape w.drawn (.extern "sameAddr.stringBytes" 2)) == 1), 1, ?_, fun _ hp => ?_⟩
        · simp [sameAddr, hbl, fa, fb, noView, viewAt, sha, shb, mayBeOne, stringish, hsa, hsb, Question.forced]
          rfl
        · exfalso
          obtain ⟨c, t, h⟩ := hp _ rfl
          rw [World.frozen?, h] at hsa
          simp at hsa
      · refine ⟨false, 0, ?_, fun h => by cases h⟩
        simp [sameAddr, hbl, fa, fb, noView, viewAt, sha, shb, mayBeOne, stringish, hsa, hsb, ea, eb]
        rfl
    · refine ⟨false, 0, ?_, fun h => by cases h⟩
      by_cases hsb : w.frozen? ⟨bb, cb'.size, none⟩ = true
      · simp [sameAddr, hbl, fa, fb, noView, viewAt, sha, shb, mayBeOne, stringish, hsa, hsb, eb]
        rfl
      · simp [sameAddr, hbl, fa, fb, noView, viewAt, sha, shb, mayBeOne, stringish, hsa, hsb, eb]
        rfl

theorem PtrOk.drewN {w : World} {p : Option Addr} (h : PtrOk w p) (n : Nat) : PtrOk (w.drewN n) p := h
theorem PtrPlain.drewN {w : World} {p : Option Addr} (h : PtrPlain w p) (n : Nat) : PtrPlain (w.drewN n) p := h

theorem run_ptr {w : World} (d : Nat) {p q : Option Addr} (hp : PtrOk w p) (hq : PtrOk w q) :
    ∃ (r : Bool) (n : Nat), (Op.equalIn (d + 1) 122 (.pointer p) (.pointer q)).run Try.prog w = .ok r (w.drewN n) ∧ (r = true → PtrPlain w p → p = q) := by
  have hu := Try.underlying122
  cases p with
  | none =>
    refine ⟨q.isNone, 0, ?_, ?_⟩
    · cases q <;> simp [Op.equalIn, run_underlying hu] <;> rfl
    · intro h _; cases q with
      | none => rfl
      | some a => cases h
  | some a =>
    cases q with
    | none => exact ⟨false, 0, by simp [Op.equalIn, run_underlying hu]; rfl, fun h => by cases h⟩
    | some b =>
      obtain ⟨r, n, hr, hs⟩ := run_same (P := Try.prog) hp hq
      refine ⟨r, n, ?_, fun h1 h2 => by rw [hs h1 h2]⟩
      obtain ⟨i, hi⟩ := info_of_underlying Try.underlying74
      simp [Op.equalIn, run_underlying hu, run_sizeOf w hi, cells_item, hr]

/-- the four cells of a key: two places. -/
def key4 (pa : Option Addr) (na : Int) (pb : Option Addr) (nb : Int) : Value := .agg #[.pointer pa, .int .i64 na, .pointer pb, .int .i64 nb]
theorem fields_place : Try.prog.underlying 124 = some (.struct (Try.prog.fieldsOf 124)) := by simp [Program.fieldsOf, Try.underlying124]
theorem fields_couple : Try.prog.underlying 126 = some (.struct (Try.prog.fieldsOf 126)) := by simp [Program.fieldsOf, Try.underlying126]
theorem held_place : Try.prog.stoodInHeld 124 = false := by kernel_rfl
theorem held_couple : Try.prog.stoodInHeld 126 = false := by kernel_rfl
theorem cells_place : Try.prog.cellsOf 124 = 2 := by kernel_rfl

theorem run_place {w : World} (d : Nat) {p q : Option Addr} (m n : Int) (hp : PtrOk w p) (hq : PtrOk w q) :
    ∃ (r : Bool) (k : Nat), (Op.equalIn (d + 2) 124 (.agg #[.pointer p, .int .i64 m]) (.agg #[.pointer q, .int .i64 n])).run Try.prog w = .ok r (w.drewN k) ∧ (r = true → PtrPlain w p → p = q ∧ m = n) := by
  obtain ⟨r, k, hr, hs⟩ := run_ptr d hp hq
  refine ⟨r && (m == n), k, ?_, fun h h2 => ?_⟩
  · rw [run_equalIn_struct w (d + 1) _ _ _ fields_place held_place]
    have pa : ∀ w, (part 122 #[.pointer p, .int .i64 m] 0).run Try.prog w = .ok (.pointer p) w := fun w => by simp [part, isAgg, run_underlying Try.underlying122]
    have pb : ∀ w, (part 122 #[.pointer q, .int .i64 n] 0).run Try.prog w = .ok (.pointer q) w := fun w => by simp [part, isAgg, run_underlying Try.underlying122]
    have pc : ∀ w, (part 3 #[.pointer p, .int .i64 m] 1).run Try.prog w = .ok (.int .i64 m) w := fun w => by simp [part, isAgg, run_underlying Try.underlying3]
    have pd : ∀ w, (part 3 #[.pointer q, .int .i64 n] 1).run Try.prog w = .ok (.int .i64 n) w := fun w => by simp [part, isAgg, run_underlying Try.underlying3]
    have pe : ∀ w, (Op.equalIn (d + 1) 3 (.int .i64 m) (.int .i64 n)).run Try.prog w = .ok (m == n) w := fun w => run_equalIn_int w d _ _ _ _ _ Try.underlying3
    simp only [Program.fieldsOf, Try.underlying124]
    simp [Op.eqFields, pa, pb, pc, pd, pe, hr]
    cases r <;> simp
    by_cases hmn : m = n <;> simp [hmn]
  · simp only [Bool.and_eq_true, beq_iff_eq] at h
    exact ⟨hs h.1 h2, h.2⟩


/-- a key: two places, each of a list that is there, or of none. -/
structure KeyOk (w : World) (k : Value) (pa : Option Addr) (na : Int) (pb : Option Addr) (nb : Int) : Prop where
  eq : k = key4 pa na pb nb
  a : PtrOk w pa
  b : PtrOk w pb
theorem KeyOk.drewN {w : World} {k : Value} {pa pb : Option Addr} {na nb : Int} (h : KeyOk w k pa na pb nb) (n : Nat) : KeyOk (w.drewN n) k pa na pb nb := ⟨h.eq, h.a, h.b⟩

theorem drewN_add (w : World) (m n : Nat) : (w.drewN m).drewN n = w.drewN (m + n) := by simp [World.drewN, Nat.add_assoc]

theorem run_couple {w : World} {k k' : Value} {pa pb qa qb : Option Addr} {na nb ma mb : Int} (h : KeyOk w k pa na pb nb) (h' : KeyOk w k' qa ma qb mb) :
    ∃ (r : Bool) (n : Nat), (Op.equal 126 k k').run Try.prog w = .ok r (w.drewN n) ∧ (r = true → PtrPlain w pa → pa = qa ∧ na = ma) := by
  obtain ⟨rfl, ha, hb⟩ := h
  obtain ⟨rfl, ha', hb'⟩ := h'
  obtain ⟨r1, n1, hr1, hs1⟩ := run_place 9997 na ma ha ha'
  obtain ⟨r2, n2, hr2, _⟩ := run_place (w := w.drewN n1) 9997 nb mb hb hb'
  rw [drewN_add] at hr2
  have q1 : ∀ w, (part 124 #[.pointer pa, .int .i64 na, .pointer pb, .int .i64 nb] 0).run Try.prog w = .ok (.agg #[.pointer pa, .int .i64 na]) w := fun w => by
    simp [part, isAgg, run_underlying Try.underlying124]
  have q2 : ∀ w, (part 124 #[.pointer pa, .int .i64 na, .pointer pb, .int .i64 nb] 2).run Try.prog w = .ok (.agg #[.pointer pb, .int .i64 nb]) w := fun w => by
    simp [part, isAgg, run_underlying Try.underlying124]
  have q3 : ∀ w, (part 124 #[.pointer qa, .int .i64 ma, .pointer qb, .int .i64 mb] 0).run Try.prog w = .ok (.agg #[.pointer qa, .int .i64 ma]) w := fun w => by
    simp [part, isAgg, run_underlying Try.underlying124]
  have q4 : ∀ w, (part 124 #[.pointer qa, .int .i64 ma, .pointer qb, .int .i64 mb] 2).run Try.prog w = .ok (.agg #[.pointer qb, .int .i64 mb]) w := fun w => by
    simp [part, isAgg, run_underlying Try.underlying124]
  unfold Op.equal Op.maxDepth key4
  rw [run_equalIn_struct w 9999 _ _ _ fields_couple held_couple]
  simp only [Program.fieldsOf, Try.underlying126]
  cases r1
  · exact ⟨false, n1, by simp [Op.eqFields, q1, q3, hr1], fun h => by cases h⟩
  · refine ⟨r2, n1 + n2, ?_, fun _ h2 => hs1 rfl h2⟩
    simp [Op.eqFields, q1, q2, q3, q4, hr1, hr2]
    cases r2 <;> simp

theorem run_check {w : World} {k : Value} {pa pb : Option Addr} {na nb : Int} (e : Bool) (h : KeyOk w k pa na pb nb) : (Instr.checkKey e 10000 126 k).run Try.prog w = .ok () w := by
  obtain ⟨rfl, _, _⟩ := h
  unfold key4
  have hp : ∀ (p : Option Addr) (n : Int) (d : Nat), (Instr.checkKey e (d + 2) 124 (.agg #[.pointer p, .int .i64 n])).run Try.prog w = .ok () w := fun p n d => by
    have c1 : (Instr.checkKey e (d + 1) 122 (.pointer p)).run Try.prog w = .ok () w := by
      simp [Instr.checkKey, run_underlying Try.underlying122]
    have c2 : (Instr.checkKey e (d + 1) 3 (.int .i64 n)).run Try.prog w = .ok () w := by
      simp [Instr.checkKey, run_underlying Try.underlying3]
    have pa : (part 122 #[.pointer p, .int .i64 n] 0).run Try.prog w = .ok (.pointer p) w := by simp [part, isAgg, run_underlying Try.underlying122]
    have pc : (part 3 #[.pointer p, .int .i64 n] 1).run Try.prog w = .ok (.int .i64 n) w := by simp [part, isAgg, run_underlying Try.underlying3]
    rw [Instr.checkKey]
    simp [run_underlying Try.underlying124, pa, pc, c1, c2]
  have q1 : (part 124 #[.pointer pa, .int .i64 na, .pointer pb, .int .i64 nb] 0).run Try.prog w = .ok (.agg #[.pointer pa, .int .i64 na]) w := by
    simp [part, isAgg, run_underlying Try.underlying124]
  have q2 : (part 124 #[.pointer pa, .int .i64 na, .pointer pb, .int .i64 nb] 2).run Try.prog w = .ok (.agg #[.pointer pb, .int .i64 nb]) w := by
    simp [part, isAgg, run_underlying Try.underlying124]
  rw [show (10000 : Nat) = 9999 + 1 from rfl, Instr.checkKey]
  simp [run_underlying Try.underlying126, q1, q2, hp pa na 9997, hp pb nb 9997]

theorem run_find {w : World} {k : Value} {pa pb : Option Addr} {na nb : Int} (hk : KeyOk w k pa na pb nb) : ∀ (es : List MapEntry) (i m : Nat) (_ : ∀ e ∈ es, ∃ qa ma qb mb, KeyOk w e.key qa ma qb mb),
    ∃ r n, (Instr.findAsking 126 k es i).run Try.prog (w.drewN m) = .ok r (w.drewN n) ∧
      ∀ j v, r = some (j, v) → ∃ e ∈ es, v = e.val ∧ ∃ qa ma qb mb, KeyOk w e.key qa ma qb mb ∧ (PtrPlain w pa → pa = qa)
  | [], i, m, _ => ⟨none, m, by simp [Instr.findAsking], fun j v h => by cases h⟩
  | e :: es, i, m, h => by
    obtain ⟨qa, ma, qb, mb, hq⟩ := h e (by simp)
    obtain ⟨r, n, hr, hs⟩ := run_couple (hk.drewN m) (hq.drewN m)
    rw [drewN_add] at hr
    cases r
    · obtain ⟨r', n', hr', hs'⟩ := run_find hk es (i + 1) (m + n) (fun x hx => h x (by simp [hx]))
      refine ⟨r', n', by simp [Instr.findAsking, hr, hr'], fun j v hjv => ?_⟩
      obtain ⟨x, hx, h1, h2⟩ := hs' j v hjv
      exact ⟨x, by simp [hx], h1, h2⟩
    · refine ⟨some (i, e.val), m + n, by simp [Instr.findAsking, hr], fun j v hjv => ?_⟩
      cases hjv
      exact ⟨e, by simp, rfl, qa, ma, qb, mb, hq, fun hp => (hs rfl (hp.drewN m)).1⟩

/-- the key's two addresses lie in blocks below B. -/
def KeyLow (B : Nat) (pa pb : Option Addr) : Prop := (∀ a, pa = some a → a.block < B) ∧ ∀ a, pb = some a → a.block < B
/-- block M is a map from couples' places to nothing; S: what is known of the first places. -/
def MapIs (w : World) (B M : Nat) (S : Option Addr → Prop) : Prop :=
  ∃ es clock, w.heap[M]? = some (.map es clock) ∧ ∀ e ∈ es.toList, e.val = .agg #[] ∧ ∃ pa na pb nb, KeyOk w e.key pa na pb nb ∧ S pa ∧ KeyLow B pa pb
theorem MapIs.made (w : World) (B : Nat) (S : Option Addr → Prop) : MapIs (w.alloc (.map #[] 0)) B w.heap.size S := ⟨#[], 0, heap_alloc_new w _, by simp⟩
theorem MapIs.lt {w : World} {B M : Nat} {S : Option Addr → Prop} (h : MapIs w B M S) : M < w.heap.size := by
  obtain ⟨es, clock, h, _⟩ := h
  exact (Array.getElem?_eq_some_iff.1 h).1
theorem PtrOk.keep {w w' : World} {p : Option Addr} (h : PtrOk w p) (hk : ∀ a, p = some a → w'.heap[a.block]? = w.heap[a.block]?) : PtrOk w' p := by
  rcases h with h | ⟨b, o, v, rfl, h1, h2⟩
  · exact .inl h
  · have e := hk _ rfl
    exact .inr ⟨b, o, v, rfl, (World.cell?_of_block (w := w) (a := ⟨b, o, none⟩) e).trans h1, (World.frozen?_of_block (w := w) (a := ⟨b, o, none⟩) e).trans h2⟩

theorem MapIs.keep {w w' : World} {B M : Nat} {S : Option Addr → Prop} (h : MapIs w B M S) (hb : Below B w w') (hM : w'.heap[M]? = w.heap[M]?) : MapIs w' B M S := by
  obtain ⟨es, clock, h1, h2⟩ := h
  refine ⟨es, clock, hM.trans h1, fun e he => ?_⟩
  obtain ⟨hv, pa, na, pb, nb, hk, hs, hl⟩ := h2 e he
  exact ⟨hv, pa, na, pb, nb, ⟨hk.eq, hk.a.keep fun a ha => hb.block _ (hl.1 a ha), hk.b.keep fun a ha => hb.block _ (hl.2 a ha)⟩, hs, hl⟩
theorem PtrOk.other {w : World} {M : Nat} {es : Array MapEntry} {c : Nat} {p : Option Addr} (h : PtrOk w p) (hM : w.heap[M]? = some (.map es c)) (a : Addr) (ha : p = some a) : a.block ≠ M := by
  rcases h with h | ⟨b, o, v, rfl, h1, _⟩
  · rw [h] at ha; cases ha
  · cases ha
    intro e
    subst e
    simp [World.cell?, hM] at h1

theorem zero_unit (w : World) : (zeroValue 120).run Try.prog w = .ok (.agg #[]) w := by kernel_rfl

theorem run_lookup {w : World} {B M : Nat} {S : Option Addr → Prop} (h : MapIs w B M S) {k : Value} {pa pb : Option Addr} {na nb : Int} (hk : KeyOk w k pa na pb nb) :
    ∃ (ok : Bool) (n : Nat), (Instr.lookup 116 (.map (some M)) k true).run Try.prog w = .ok (.tuple #[.agg #[], .bool ok]) (w.drewN n) ∧ (ok = true → ∃ q, S q ∧ (PtrPlain w pa → pa = q)) := by
  obtain ⟨es, clock, hb, he⟩ := h
  obtain ⟨r, n, hr, hs⟩ := run_find hk es.toList 0 0 (fun e hx => by obtain ⟨_, a, b, c, d, h, _⟩ := he e hx; exact ⟨a, b, c, d, h⟩)
  have hf : (Instr.findKey 126 k es.toList).run Try.prog w = .ok r (w.drewN n) ∨ (es.toList = [] ∧ (Instr.findKey 126 k es.toList).run Try.prog w = .ok none w) := by
    cases hl : es.toList with
    | nil => exact .inr ⟨rfl, by simp [Instr.findKey, Instr.findNow, run_underlying Try.underlying126]⟩
    | cons e l =>
      rw [hl] at hr
      refine .inl ?_
      have hn : Instr.findNow (.struct #[{ name := "a", type := 124, offset := 0, embedded := false, tag := "", pkgPath := "carrefour/value", byteOffset := 0 }, { name := "b", type := 124, offset := 2, embedded := false, tag := "", pkgPath := "carrefour/value", byteOffset := 16 }]) k (e :: l) 0 = none := by
        simp [Instr.findNow, Instr.sameNow]
      simp only [Instr.findKey, Sem.run_bind, run_underlying Try.underlying126, Result.andThen_ok, hn]
      exact hr
  have hg : (getObj M).run Try.prog w = .ok (.map es clock) w := by simp [getObj, Sem.run, hb]
  have hc := run_check es.isEmpty hk
  rcases hf with hf | ⟨_, hf⟩
  · cases r with
    | none =>
      refine ⟨false, n, ?_, fun h => by cases h⟩
      simp [Instr.lookup, run_underlying Try.underlying116, hg, hc, hf]
    | some x =>
      obtain ⟨j, v⟩ := x
      obtain ⟨e, hx, rfl, qa, ma, qb, mb, hq, hpl⟩ := hs j v rfl
      obtain ⟨hv, a, b, c, d, h1, h2, _⟩ := he e hx
      refine ⟨true, n, ?_, fun _ => ?_⟩
      · simp [Instr.lookup, run_underlying Try.underlying116, hg, hc, hf, hv]
      · have : a = qa := by
          have := h1.eq.symm.trans hq.eq
          unfold key4 at this
          cases this
          rfl
        subst this
        exact ⟨a, h2, hpl⟩
  · refine ⟨false, 0, ?_, fun h => by cases h⟩
    simp [Instr.lookup, run_underlying Try.underlying116, hg, hc, hf]
    rfl

theorem find_run {w : World} {B : Nat} {S : Option Addr → Prop} {es : Array MapEntry} (he : ∀ e ∈ es.toList, e.val = .agg #[] ∧ ∃ pa na pb nb, KeyOk w e.key pa na pb nb ∧ S pa ∧ KeyLow B pa pb) {k : Value} {pa pb : Option Addr} {na nb : Int} (hk : KeyOk w k pa na pb nb) :
    ∃ r n, (Instr.findKey 126 k es.toList).run Try.prog w = .ok r (w.drewN n) := by
  obtain ⟨r, n, hr, hs⟩ := run_find hk es.toList 0 0 (fun e hx => by obtain ⟨_, a, b, c, d, h, _⟩ := he e hx; exact ⟨a, b, c, d, h⟩)
  cases hl : es.toList with
  | nil => exact ⟨none, 0, by simp [Instr.findKey, Instr.findNow, run_underlying Try.underlying126]; rfl⟩
  | cons e l =>
    rw [hl] at hr
    have hn : Instr.findNow (.struct #[{ name := "a", type := 124, offset := 0, embedded := false, tag := "", pkgPath := "carrefour/value", byteOffset := 0 }, { name := "b", type := 124, offset := 2, embedded := false, tag := "", pkgPath := "carrefour/value", byteOffset := 16 }]) k (e :: l) 0 = none := by
      simp [Instr.findNow, Instr.sameNow]
    refine ⟨r, n, ?_⟩
    simp only [Instr.findKey, Sem.run_bind, run_underlying Try.underlying126, Result.andThen_ok, hn]
    exact hr

theorem run_stays {w : World} (old new : Value) : ∃ (v : Value) (n : Nat), (Instr.keyThatStays old new).run Try.prog w = .ok v (w.drewN n) ∧ (v = old ∨ v = new) := by
  unfold Instr.keyThatStays
  by_cases h : Instr.sameBits 10000 old new = true
  · exact ⟨new, 0, by simp [h]; rfl, .inr rfl⟩
  · by_cases h2 : (Question.extern "map.whichKeyStays" 2).cut (w.tape w.drawn (.extern "map.whichKeyStays" 2)) = 0
    · exact ⟨new, 1, by simp [h, Question.forced, h2]; rfl, .inr rfl⟩
    · exact ⟨old, 1, by simp [h, Question.forced, h2]; rfl, .inl rfl⟩

theorem run_update {w : World} {B M : Nat} {S : Option Addr → Prop} (h : MapIs w B M S) {k : Value} {pa pb : Option Addr} {na nb : Int} (hk : KeyOk w k pa na pb nb) (hlow : KeyLow B pa pb) :
    ∃ w', (Instr.mapUpdate 116 (.map (some M)) k (.agg #[])).run Try.prog w = .ok () w' ∧ MapIs w' B M (fun p => S p ∨ p = pa) ∧ w.grownBy w' (some M) := by
  obtain ⟨es, clock, hb, he⟩ := h
  obtain ⟨r, n, hf⟩ := find_run he hk
  have hg : (getObj M).run Try.prog w = .ok (.map es clock) w := MapKept.run_getObj_map hb
  have hc := run_check false hk
  have hset : ∀ (m : Nat) (es' : Array MapEntry) (c' : Nat), (∀ e ∈ es'.toList, e.val = .agg #[] ∧ ∃ qa ma qb mb, KeyOk w e.key qa ma qb mb ∧ (S qa ∨ qa = pa) ∧ KeyLow B qa qb) →
      ∃ w', (setObj M (.map es' c')).run Try.prog (w.drewN m) = .ok () w' ∧ MapIs w' B M (fun p => S p ∨ p = pa) ∧ w.grownBy w' (some M) := by
    intro m es' c' h'
    refine ⟨_, MapKept.run_setObj_map _ (w := w.drewN m) hb, ⟨es', c', (MapKept.heap_set (w := w) hb).1, fun e hx => ?_⟩, ⟨rfl, rfl, rfl, by simp [World.drewN], fun i hi hne => (MapKept.heap_set (w := w) hb).2 i (fun e => hne (by rw [e]))⟩⟩
    obtain ⟨hv, qa, ma, qb, mb, hq, hs, hl⟩ := h' e hx
    exact ⟨hv, qa, ma, qb, mb, ⟨hq.eq, hq.a.keep fun a ha => (MapKept.heap_set (w := w) hb).2 _ (hq.a.other hb a ha), hq.b.keep fun a ha => (MapKept.heap_set (w := w) hb).2 _ (hq.b.other hb a ha)⟩, hs, hl⟩
  cases r with
  | none =>
    obtain ⟨w', hr, h1, h2⟩ := hset n (es.push { key := k, val := .agg #[], born := clock }) (clock + 1) (fun e hx => by
      rw [Array.toList_push] at hx
      rcases List.mem_append.1 hx with hx | hx
      · obtain ⟨hv, qa, ma, qb, mb, hq, hs, hl⟩ := he e hx
        exact ⟨hv, qa, ma, qb, mb, hq, .inl hs, hl⟩
      · simp only [List.mem_singleton] at hx
        subst hx
        exact ⟨rfl, pa, na, pb, nb, hk, .inr rfl, hlow⟩)
    exact ⟨w', by simp [Instr.mapUpdate, run_underlying Try.underlying116, hg, hc, hf, hr], h1, h2⟩
  | some x =>
    obtain ⟨i, v⟩ := x
    obtain ⟨k2, n2, hst, hor⟩ := run_stays (w := w.drewN n) (((es[i]?).map (·.key)).getD k) k
    obtain ⟨w', hr, h1, h2⟩ := hset (n + n2) (es.modify i fun e => { e with key := k2, val := .agg #[] }) clock (fun e hx => by
      rw [Array.mem_toList_iff] at hx
      obtain ⟨j, hj, rfl⟩ := Array.getElem_of_mem hx
      have hj' : j < es.size := by simpa using hj
      rw [Array.getElem_modify]
      split
      · rename_i hij
        subst hij
        rcases hor with h | h
        · obtain ⟨hv, qa, ma, qb, mb, hq, hs, hl⟩ := he es[i] (by simp)
          refine ⟨rfl, qa, ma, qb, mb, ?_, .inl hs, hl⟩
          show KeyOk w k2 qa ma qb mb
          rw [h, Array.getElem?_eq_getElem hj']
          exact hq
        · exact ⟨rfl, pa, na, pb, nb, by show KeyOk w k2 pa na pb nb; rw [h]; exact hk, .inr rfl, hlow⟩
      · obtain ⟨hv, qa, ma, qb, mb, hq, hs, hl⟩ := he es[j] (by simp)
        exact ⟨hv, qa, ma, qb, mb, hq, .inl hs, hl⟩)
    rw [drewN_add] at hst
    exact ⟨w', by simp [Instr.mapUpdate, run_underlying Try.underlying116, hg, hc, hf, hst, hr], h1, h2⟩

section
variable {P : Program} {w w1 : World} {ops : Array Oper} {rest : List Oper} {o : Oper} {a : Act} {Q : Exit → Act → World → Prop}
theorem wpList_lookup_run (hg : o.guard = none) (m x : Operand) (t : TypeId) (ok : Bool) (hop : o.op = Op.lookup t m x ok) {mv xv v : Value} (hm : a.eval m = mv) (hx : a.eval x = xv)
    (hr : (Instr.lookup t mv xv ok).run P w = .ok v w1) (hK : wpList P ops Q rest (a.put o.dst v) w1) : wpList P ops Q (o :: rest) a w := by
  refine wpList_plain hg fun K' hK' => ?_
  unfold Oper.wp
  simp [execOp, hop, hm, hx, hr, Result.andThen]
  exact hK' _ _ hK
theorem wpList_update_run (hg : o.guard = none) (m x v : Operand) (t : TypeId) (hop : o.op = Op.mapUpdate t m x v) {mv xv vv : Value} (hm : a.eval m = mv) (hx : a.eval x = xv) (hv : a.eval v = vv)
    (hr : (Instr.mapUpdate t mv xv vv).run P w = .ok () w1) (hK : wpList P ops Q rest (a.put o.dst undef) w1) : wpList P ops Q (o :: rest) a w := by
  refine wpList_plain hg fun K' hK' => ?_
  unfold Oper.wp
  simp [execOp, hop, hm, hx, hv, hr, Result.andThen]
  exact hK' _ _ hK
end

end Go.Proofs.Ytjnnpgmgjdhfjaa
