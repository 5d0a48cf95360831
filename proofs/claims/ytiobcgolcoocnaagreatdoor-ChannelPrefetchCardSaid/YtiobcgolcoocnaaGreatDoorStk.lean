/-
  alike.
  Maps whose keys are two places: what a look-up, and a store, do.
  placeOf, couple.place, alike.
  Same's couples: what is to be looked at, what is known of it, and a couple's children.
  Same's stack of couples, and its map, in memory.
-/
import Derived.Test.YtiobcgolcoocnaaGreatDoorMayT
import Derived.LaidEql
import Derived.Laws.StructEq
import Derived.ChangeKeysEq
import Derived.MapKept
import Derived.WalkSmall
import Derived.Lib.OwnKind

namespace Go.Proofs.YtiobcgolcoocnaaGreatDoor
open Go.RowKit
set_option linter.unusedVariables false

/-- two items are the same but for the items within. -/
def Alike (x y : It) : Prop := x.name = y.name ∧ x.kind = y.kind ∧ x.n = y.n ∧ x.s = y.s ∧ x.sub.length = y.sub.length

set_option maxRecDepth 100000 in
set_option maxHeartbeats 4000000 in
theorem alike_core (n1 n2 : ByteArray) (k1 k2 m1 m2 : Int) (s1 s2 : ByteArray) (p q : Nat) (hp : p ≤ maxLen) (hq : q ≤ maxLen) (a b : Option Addr) (cap cap' : Nat) (w : World) :
    Calls Tryz.prog 64 #[.agg #[.string n1, .int .i64 k1, .int .i64 m1, .string s1, .slice a p cap], .agg #[.string n2, .int .i64 k2, .int .i64 m2, .string s2, .slice b q cap']] w
      (SaysB (n1 = n2 ∧ k1 = k2 ∧ m1 = m2 ∧ s1 = s2 ∧ p = q) w) := by
  unfold maxLen at hp hq
  have hbel : ∀ o o' : Obj, Below w.heap.size w ((w.alloc o).alloc o') := fun o o' => ((Below.refl _ _).alloc (Nat.le_refl _) _).alloc (by simp) _
  have HB := Lib.hid hbel
  clear hbel
  by_cases h1 : n1 = n2
  · have hb1 := beq_str h1
    have H1 := Lib.hid h1
    clear h1
    by_cases h2 : k1 = k2
    · have hb2 : (k1 == k2) = true := by simpa using h2
      have H2 := Lib.hid h2
      clear h2
      by_cases h3 : m1 = m2
      · have hb3 : (m1 == m2) = true := by simpa using h3
        have H3 := Lib.hid h3
        clear h3
        by_cases h4 : s1 = s2
        · have hb4 := beq_str h4
          have H4 := Lib.hid h4
          clear h4
          by_cases h5 : p = q
          · subst h5
            go_enter Tryz.func64, Tryz.ntmps64
            go_wp2
            all_goals
              go_ret
              exact ⟨true, ⟨fun _ => ⟨H1.out, H2.out, H3.out, H4.out, by simp⟩, fun _ => rfl⟩, rfl, HB.out _ _⟩
          · have hb5 : ((p : Int) == (q : Int)) = false := by rw [beq_eq_false_iff_ne]; omega
            have H5 := Lib.hid h5
            clear h5
            go_enter Tryz.func64, Tryz.ntmps64
            go_wp2
            all_goals
              go_ret
              exact ⟨false, ⟨(fun h => by cases h), fun h => absurd h.2.2.2.2 H5.out⟩, rfl, HB.out _ _⟩
        · have hb4 := bne_str h4
          have H4 := Lib.hid h4
          clear h4
          go_enter Tryz.func64, Tryz.ntmps64
          go_wp2
          all_goals
            go_ret
            exact ⟨false, ⟨(fun h => by cases h), fun h => absurd h.2.2.2.1 H4.out⟩, rfl, HB.out _ _⟩
      · have hb3 : (m1 == m2) = false := by simpa using h3
        have H3 := Lib.hid h3
        clear h3
        go_enter Tryz.func64, Tryz.ntmps64
        go_wp2
        all_goals
          go_ret
          exact ⟨false, ⟨(fun h => by cases h), fun h => absurd h.2.2.1 H3.out⟩, rfl, HB.out _ _⟩
    · have hb2 : (k1 == k2) = false := by simpa using h2
      have H2 := Lib.hid h2
      clear h2
      go_enter Tryz.func64, Tryz.ntmps64
      go_wp2
      all_goals
        go_ret
        exact ⟨false, ⟨(fun h => by cases h), fun h => absurd h.2.1 H2.out⟩, rfl, HB.out _ _⟩
  · have hb1 := bne_str h1
    have H1 := Lib.hid h1
    clear h1
    go_enter Tryz.func64, Tryz.ntmps64
    go_wp2
    all_goals
      go_ret
      exact ⟨false, ⟨(fun h => by cases h), fun h => absurd h.1 H1.out⟩, rfl, HB.out _ _⟩

theorem alike_any (x y : It) (a b : Option Addr) (cap cap' : Nat) (w : World) (hx : x.sub.length ≤ maxLen) (hy : y.sub.length ≤ maxLen) :
    Calls Tryz.prog 64 #[.agg #[.string x.name, .int .i64 x.kind, .int .i64 x.n, .string x.s, .slice a x.sub.length cap], .agg #[.string y.name, .int .i64 y.kind, .int .i64 y.n, .string y.s, .slice b y.sub.length cap']] w (SaysB (Alike x y) w) :=
  alike_core _ _ _ _ _ _ _ _ _ _ hx hy a b cap cap' w

end Go.Proofs.YtiobcgolcoocnaaGreatDoor

namespace Go.Proofs.YtiobcgolcoocnaaGreatDoor
open Go.RowKit
set_option linter.unusedVariables false

/-- nil, or the address of a cell that is there and not frozen. -/
def PtrOk (w : World) (p : Option Addr) : Prop := p = none ∨ ∃ b o v, p = some ⟨b, o, none⟩ ∧ w.cell? ⟨b, o, none⟩ = some v ∧ w.frozen? ⟨b, o, none⟩ = false
/-- .. in a block in which nothing is frozen. -/
def PtrPlain (w : World) (p : Option Addr) : Prop := ∀ a, p = some a → ∃ c t, w.heap[a.block]? = some (.cells c t (0, 0))

theorem run_same {P : Program} {w : World} {a b : Addr} (ha : PtrOk w (some a)) (hb : PtrOk w (some b)) :
    ∃ (r : Bool) (n : Nat), (sameAddr a b).run P w = .ok r (w.drewN n) ∧ (r = true → PtrPlain w (some a) → a = b) := by
  rcases ha with h | ⟨ba, oa, va, h, ca, fa⟩
  · cases h
  cases h
  rcases hb with h | ⟨bb, ob, vb, h, cb, fb⟩
  · cases h
  cases h
  by_cases hbl : ba = bb
  · subst hbl
    refine ⟨((⟨ba, oa, none⟩ : Addr) == ⟨ba, ob, none⟩), 0, ?_, ?_⟩
    · simp [sameAddr]; rfl
    · intro h _; simpa using h
  · obtain ⟨ca', ta, fra, hha⟩ : ∃ c t f, w.heap[ba]? = some (.cells c t f) := by
      unfold World.cell? at ca
      split at ca
      · exact ⟨_, _, _, by assumption⟩
      · cases ca
    obtain ⟨cb', tb, frb, hhb⟩ : ∃ c t f, w.heap[bb]? = some (.cells c t f) := by
      unfold World.cell? at cb
      split at cb
      · exact ⟨_, _, _, by assumption⟩
      · cases cb
    have hsza : 0 < ca'.size := by
      rw [cell_of_row w _ _ _ _ _ hha] at ca
      have := (Array.getElem?_eq_some_iff.1 ca).1
      omega
    have hszb : 0 < cb'.size := by
      rw [cell_of_row w _ _ _ _ _ hhb] at cb
      have := (Array.getElem?_eq_some_iff.1 cb).1
      omega
    have ea : ca'.size ≠ 0 := by omega
    have eb : cb'.size ≠ 0 := by omega
    have sha : w.shape? ba = some (ta, ca'.size) := by simp [World.shape?, hha]
    have shb : w.shape? bb = some (tb, cb'.size) := by simp [World.shape?, hhb]
    by_cases hsa : w.frozen? ⟨ba, ca'.size, none⟩ = true
    · by_cases hsb : w.frozen? ⟨bb, cb'.size, none⟩ = true
      · refine ⟨(Question.cut (.extern "sameAddr.stringBytes" 2) (w.tape w.drawn (.extern "sameAddr.stringBytes" 2)) == 1), 1, ?_, fun _ hp => ?_⟩
        · simp [sameAddr, hbl, fa, fb, noView, viewAt, sha, shb, mayBeOne, stringish, hsa, hsb, Question.forced]
          rfl
        · exfalso
          obtain ⟨c, t, h⟩ := hp _ rfl
          rw [World.frozen?, h] at hsa
          simp at hsa
      · refine ⟨false, 0, ?_, fun h => by cases h⟩
        simp [sameAddr, hbl, fa, fb, noView, viewAt, sha, shb, mayBeOne, stringish, hsa, hsb, ea, eb]
        rfl
    · refine ⟨false, 0, ?_, fun h => by cases h⟩
      by_cases hsb : w.frozen? ⟨bb, cb'.size, none⟩ = true
      · simp [sameAddr, hbl, fa, fb, noView, viewAt, sha, shb, mayBeOne, stringish, hsa, hsb, eb]
        rfl
      · simp [sameAddr, hbl, fa, fb, noView, viewAt, sha, shb, mayBeOne, stringish, hsa, hsb, eb]
        rfl

theorem PtrOk.drewN {w : World} {p : Option Addr} (h : PtrOk w p) (n : Nat) : PtrOk (w.drewN n) p := h
theorem PtrPlain.drewN {w : World} {p : Option Addr} (h : PtrPlain w p) (n : Nat) : PtrPlain (w.drewN n) p := h

theorem run_ptr {w : World} (d : Nat) {p q : Option Addr} (hp : PtrOk w p) (hq : PtrOk w q) :
    ∃ (r : Bool) (n : Nat), (Op.equalIn (d + 1) 113 (.pointer p) (.pointer q)).run Tryz.prog w = .ok r (w.drewN n) ∧ (r = true → PtrPlain w p → p = q) := by
  have hu := Tryz.underlying113
  cases p with
  | none =>
    refine ⟨q.isNone, 0, ?_, ?_⟩
    · cases q <;> simp [Op.equalIn, run_underlying hu] <;> rfl
    · intro h _; cases q with
      | none => rfl
      | some a => cases h
  | some a =>
    cases q with
    | none => exact ⟨false, 0, by simp [Op.equalIn, run_underlying hu]; rfl, fun h => by cases h⟩
    | some b =>
      obtain ⟨r, n, hr, hs⟩ := run_same (P := Tryz.prog) hp hq
      refine ⟨r, n, ?_, fun h1 h2 => by rw [hs h1 h2]⟩
      obtain ⟨i, hi⟩ := info_of_underlying Tryz.underlying45
      simp [Op.equalIn, run_underlying hu, run_sizeOf w hi, cells_item, hr]

/-- the four cells of a key: two places. -/
def key4 (pa : Option Addr) (na : Int) (pb : Option Addr) (nb : Int) : Value := .agg #[.pointer pa, .int .i64 na, .pointer pb, .int .i64 nb]
theorem fields_place : Tryz.prog.underlying 115 = some (.struct (Tryz.prog.fieldsOf 115)) := by simp [Program.fieldsOf, Tryz.underlying115]
theorem fields_couple : Tryz.prog.underlying 117 = some (.struct (Tryz.prog.fieldsOf 117)) := by simp [Program.fieldsOf, Tryz.underlying117]
theorem held_place : Tryz.prog.stoodInHeld 115 = false := by kernel_rfl
theorem held_couple : Tryz.prog.stoodInHeld 117 = false := by kernel_rfl
theorem cells_place : Tryz.prog.cellsOf 115 = 2 := by kernel_rfl

theorem run_place {w : World} (d : Nat) {p q : Option Addr} (m n : Int) (hp : PtrOk w p) (hq : PtrOk w q) :
    ∃ (r : Bool) (k : Nat), (Op.equalIn (d + 2) 115 (.agg #[.pointer p, .int .i64 m]) (.agg #[.pointer q, .int .i64 n])).run Tryz.prog w = .ok r (w.drewN k) ∧ (r = true → PtrPlain w p → p = q ∧ m = n) := by
  obtain ⟨r, k, hr, hs⟩ := run_ptr d hp hq
  refine ⟨r && (m == n), k, ?_, fun h h2 => ?_⟩
  · rw [run_equalIn_struct w (d + 1) _ _ _ fields_place held_place]
    have pa : ∀ w, (part 113 #[.pointer p, .int .i64 m] 0).run Tryz.prog w = .ok (.pointer p) w := fun w => by simp [part, isAgg, run_underlying Tryz.underlying113]
    have pb : ∀ w, (part 113 #[.pointer q, .int .i64 n] 0).run Tryz.prog w = .ok (.pointer q) w := fun w => by simp [part, isAgg, run_underlying Tryz.underlying113]
    have pc : ∀ w, (part 3 #[.pointer p, .int .i64 m] 1).run Tryz.prog w = .ok (.int .i64 m) w := fun w => by simp [part, isAgg, run_underlying Tryz.underlying3]
    have pd : ∀ w, (part 3 #[.pointer q, .int .i64 n] 1).run Tryz.prog w = .ok (.int .i64 n) w := fun w => by simp [part, isAgg, run_underlying Tryz.underlying3]
    have pe : ∀ w, (Op.equalIn (d + 1) 3 (.int .i64 m) (.int .i64 n)).run Tryz.prog w = .ok (m == n) w := fun w => run_equalIn_int w d _ _ _ _ _ Tryz.underlying3
    simp only [Program.fieldsOf, Tryz.underlying115]
    simp [Op.eqFields, pa, pb, pc, pd, pe, hr]
    cases r <;> simp
    by_cases hmn : m = n <;> simp [hmn]
  · simp only [Bool.and_eq_true, beq_iff_eq] at h
    exact ⟨hs h.1 h2, h.2⟩


/-- a key: two places, each of a list that is there, or of none. -/
structure KeyOk (w : World) (k : Value) (pa : Option Addr) (na : Int) (pb : Option Addr) (nb : Int) : Prop where
  eq : k = key4 pa na pb nb
  a : PtrOk w pa
  b : PtrOk w pb
theorem KeyOk.drewN {w : World} {k : Value} {pa pb : Option Addr} {na nb : Int} (h : KeyOk w k pa na pb nb) (n : Nat) : KeyOk (w.drewN n) k pa na pb nb := ⟨h.eq, h.a, h.b⟩

theorem drewN_add (w : World) (m n : Nat) : (w.drewN m).drewN n = w.drewN (m + n) := by simp [World.drewN, Nat.add_assoc]

theorem run_couple {w : World} {k k' : Value} {pa pb qa qb : Option Addr} {na nb ma mb : Int} (h : KeyOk w k pa na pb nb) (h' : KeyOk w k' qa ma qb mb) :
    ∃ (r : Bool) (n : Nat), (Op.equal 117 k k').run Tryz.prog w = .ok r (w.drewN n) ∧ (r = true → PtrPlain w pa → pa = qa ∧ na = ma) := by
  obtain ⟨rfl, ha, hb⟩ := h
  obtain ⟨rfl, ha', hb'⟩ := h'
  obtain ⟨r1, n1, hr1, hs1⟩ := run_place 9997 na ma ha ha'
  obtain ⟨r2, n2, hr2, _⟩ := run_place (w := w.drewN n1) 9997 nb mb hb hb'
  rw [drewN_add] at hr2
  have q1 : ∀ w, (part 115 #[.pointer pa, .int .i64 na, .pointer pb, .int .i64 nb] 0).run Tryz.prog w = .ok (.agg #[.pointer pa, .int .i64 na]) w := fun w => by
    simp [part, isAgg, run_underlying Tryz.underlying115]
  have q2 : ∀ w, (part 115 #[.pointer pa, .int .i64 na, .pointer pb, .int .i64 nb] 2).run Tryz.prog w = .ok (.agg #[.pointer pb, .int .i64 nb]) w := fun w => by
    simp [part, isAgg, run_underlying Tryz.underlying115]
  have q3 : ∀ w, (part 115 #[.pointer qa, .int .i64 ma, .pointer qb, .int .i64 mb] 0).run Tryz.prog w = .ok (.agg #[.pointer qa, .int .i64 ma]) w := fun w => by
    simp [part, isAgg, run_underlying Tryz.underlying115]
  have q4 : ∀ w, (part 115 #[.pointer qa, .int .i64 ma, .pointer qb, .int .i64 mb] 2).run Tryz.prog w = .ok (.agg #[.pointer qb, .int .i64 mb]) w := fun w => by
    simp [part, isAgg, run_underlying Tryz.underlying115]
  unfold Op.equal Op.maxDepth key4
  rw [run_equalIn_struct w 9999 _ _ _ fields_couple held_couple]
  simp only [Program.fieldsOf, Tryz.underlying117]
  cases r1
  · exact ⟨false, n1, by simp [Op.eqFields, q1, q3, hr1], fun h => by cases h⟩
  · refine ⟨r2, n1 + n2, ?_, fun _ h2 => hs1 rfl h2⟩
    simp [Op.eqFields, q1, q2, q3, q4, hr1, hr2]
    cases r2 <;> simp

theorem run_check {w : World} {k : Value} {pa pb : Option Addr} {na nb : Int} (e : Bool) (h : KeyOk w k pa na pb nb) : (Instr.checkKey e 10000 117 k).run Tryz.prog w = .ok () w := by
  obtain ⟨rfl, _, _⟩ := h
  unfold key4
  have hp : ∀ (p : Option Addr) (n : Int) (d : Nat), (Instr.checkKey e (d + 2) 115 (.agg #[.pointer p, .int .i64 n])).run Tryz.prog w = .ok () w := fun p n d => by
    have c1 : (Instr.checkKey e (d + 1) 113 (.pointer p)).run Tryz.prog w = .ok () w := by
      simp [Instr.checkKey, run_underlying Tryz.underlying113]
    have c2 : (Instr.checkKey e (d + 1) 3 (.int .i64 n)).run Tryz.prog w = .ok () w := by
      simp [Instr.checkKey, run_underlying Tryz.underlying3]
    have pa : (part 113 #[.pointer p, .int .i64 n] 0).run Tryz.prog w = .ok (.pointer p) w := by simp [part, isAgg, run_underlying Tryz.underlying113]
    have pc : (part 3 #[.pointer p, .int .i64 n] 1).run Tryz.prog w = .ok (.int .i64 n) w := by simp [part, isAgg, run_underlying Tryz.underlying3]
    rw [Instr.checkKey]
    simp [run_underlying Tryz.underlying115, pa, pc, c1, c2]
  have q1 : (part 115 #[.pointer pa, .int .i64 na, .pointer pb, .int .i64 nb] 0).run Tryz.prog w = .ok (.agg #[.pointer pa, .int .i64 na]) w := by
    simp [part, isAgg, run_underlying Tryz.underlying115]
  have q2 : (part 115 #[.pointer pa, .int .i64 na, .pointer pb, .int .i64 nb] 2).run Tryz.prog w = .ok (.agg #[.pointer pb, .int .i64 nb]) w := by
    simp [part, isAgg, run_underlying Tryz.underlying115]
  rw [show (10000 : Nat) = 9999 + 1 from rfl, Instr.checkKey]
  simp [run_underlying Tryz.underlying117, q1, q2, hp pa na 9997, hp pb nb 9997]

theorem run_find {w : World} {k : Value} {pa pb : Option Addr} {na nb : Int} (hk : KeyOk w k pa na pb nb) : ∀ (es : List MapEntry) (i m : Nat) (_ : ∀ e ∈ es, ∃ qa ma qb mb, KeyOk w e.key qa ma qb mb),
    ∃ r n, (Instr.findAsking 117 k es i).run Tryz.prog (w.drewN m) = .ok r (w.drewN n) ∧
      ∀ j v, r = some (j, v) → ∃ e ∈ es, v = e.val ∧ ∃ qa ma qb mb, KeyOk w e.key qa ma qb mb ∧ (PtrPlain w pa → pa = qa)
  | [], i, m, _ => ⟨none, m, by simp [Instr.findAsking], fun j v h => by cases h⟩
  | e :: es, i, m, h => by
    obtain ⟨qa, ma, qb, mb, hq⟩ := h e (by simp)
    obtain ⟨r, n, hr, hs⟩ := run_couple (hk.drewN m) (hq.drewN m)
    rw [drewN_add] at hr
    cases r
    · obtain ⟨r', n', hr', hs'⟩ := run_find hk es (i + 1) (m + n) (fun x hx => h x (by simp [hx]))
      refine ⟨r', n', by simp [Instr.findAsking, hr, hr'], fun j v hjv => ?_⟩
      obtain ⟨x, hx, h1, h2⟩ := hs' j v hjv
      exact ⟨x, by simp [hx], h1, h2⟩
    · refine ⟨some (i, e.val), m + n, by simp [Instr.findAsking, hr], fun j v hjv => ?_⟩
      cases hjv
      exact ⟨e, by simp, rfl, qa, ma, qb, mb, hq, fun hp => (hs rfl (hp.drewN m)).1⟩

/-- the key's two addresses lie in blocks below B. -/
def KeyLow (B : Nat) (pa pb : Option Addr) : Prop := (∀ a, pa = some a → a.block < B) ∧ ∀ a, pb = some a → a.block < B
/-- block M is a map from couples' places to nothing; S: what is known of the first places. -/
def MapIs (w : World) (B M : Nat) (S : Option Addr → Prop) : Prop :=
  ∃ es clock, w.heap[M]? = some (.map es clock) ∧ ∀ e ∈ es.toList, e.val = .agg #[] ∧ ∃ pa na pb nb, KeyOk w e.key pa na pb nb ∧ S pa ∧ KeyLow B pa pb
theorem MapIs.made (w : World) (B : Nat) (S : Option Addr → Prop) : MapIs (w.alloc (.map #[] 0)) B w.heap.size S := ⟨#[], 0, heap_alloc_new w _, by simp⟩
theorem MapIs.lt {w : World} {B M : Nat} {S : Option Addr → Prop} (h : MapIs w B M S) : M < w.heap.size := by
  obtain ⟨es, clock, h, _⟩ := h
  exact (Array.getElem?_eq_some_iff.1 h).1
theorem PtrOk.keep {w w' : World} {p : Option Addr} (h : PtrOk w p) (hk : ∀ a, p = some a → w'.heap[a.block]? = w.heap[a.block]?) : PtrOk w' p := by
  rcases h with h | ⟨b, o, v, rfl, h1, h2⟩
  · exact .inl h
  · have e := hk _ rfl
    exact .inr ⟨b, o, v, rfl, (World.cell?_of_block (w := w) (a := ⟨b, o, none⟩) e).trans h1, (World.frozen?_of_block (w := w) (a := ⟨b, o, none⟩) e).trans h2⟩

theorem MapIs.keep {w w' : World} {B M : Nat} {S : Option Addr → Prop} (h : MapIs w B M S) (hb : Below B w w') (hM : w'.heap[M]? = w.heap[M]?) : MapIs w' B M S := by
  obtain ⟨es, clock, h1, h2⟩ := h
  refine ⟨es, clock, hM.trans h1, fun e he => ?_⟩
  obtain ⟨hv, pa, na, pb, nb, hk, hs, hl⟩ := h2 e he
  exact ⟨hv, pa, na, pb, nb, ⟨hk.eq, hk.a.keep fun a ha => hb.block _ (hl.1 a ha), hk.b.keep fun a ha => hb.block _ (hl.2 a ha)⟩, hs, hl⟩
theorem PtrOk.other {w : World} {M : Nat} {es : Array MapEntry} {c : Nat} {p : Option Addr} (h : PtrOk w p) (hM : w.heap[M]? = some (.map es c)) (a : Addr) (ha : p = some a) : a.block ≠ M := by
  rcases h with h | ⟨b, o, v, rfl, h1, _⟩
  · rw [h] at ha; cases ha
  · cases ha
    intro e
    subst e
    simp [World.cell?, hM] at h1

theorem zero_unit (w : World) : (zeroValue 105).run Tryz.prog w = .ok (.agg #[]) w := by kernel_rfl

theorem run_lookup {w : World} {B M : Nat} {S : Option Addr → Prop} (h : MapIs w B M S) {k : Value} {pa pb : Option Addr} {na nb : Int} (hk : KeyOk w k pa na pb nb) :
    ∃ (ok : Bool) (n : Nat), (Instr.lookup 109 (.map (some M)) k true).run Tryz.prog w = .ok (.tuple #[.agg #[], .bool ok]) (w.drewN n) ∧ (ok = true → ∃ q, S q ∧ (PtrPlain w pa → pa = q)) := by
  obtain ⟨es, clock, hb, he⟩ := h
  obtain ⟨r, n, hr, hs⟩ := run_find hk es.toList 0 0 (fun e hx => by obtain ⟨_, a, b, c, d, h, _⟩ := he e hx; exact ⟨a, b, c, d, h⟩)
  have hf : (Instr.findKey 117 k es.toList).run Tryz.prog w = .ok r (w.drewN n) ∨ (es.toList = [] ∧ (Instr.findKey 117 k es.toList).run Tryz.prog w = .ok none w) := by
    cases hl : es.toList with
    | nil => exact .inr ⟨rfl, by simp [Instr.findKey, Instr.findNow, run_underlying Tryz.underlying117]⟩
    | cons e l =>
      rw [hl] at hr
      refine .inl ?_
      have hn : Instr.findNow (.struct #[{ name := "a", type := 115, offset := 0, embedded := false, tag := "", pkgPath := "carrefour/value", byteOffset := 0 }, { name := "b", type := 115, offset := 2, embedded := false, tag := "", pkgPath := "carrefour/value", byteOffset := 16 }]) k (e :: l) 0 = none := by
        simp [Instr.findNow, Instr.sameNow]
      simp only [Instr.findKey, Sem.run_bind, run_underlying Tryz.underlying117, Result.andThen_ok, hn]
      exact hr
  have hg : (getObj M).run Tryz.prog w = .ok (.map es clock) w := by simp [getObj, Sem.run, hb]
  have hc := run_check es.isEmpty hk
  rcases hf with hf | ⟨_, hf⟩
  · cases r with
    | none =>
      refine ⟨false, n, ?_, fun h => by cases h⟩
      simp [Instr.lookup, run_underlying Tryz.underlying109, hg, hc, hf]
    | some x =>
      obtain ⟨j, v⟩ := x
      obtain ⟨e, hx, rfl, qa, ma, qb, mb, hq, hpl⟩ := hs j v rfl
      obtain ⟨hv, a, b, c, d, h1, h2, _⟩ := he e hx
      refine ⟨true, n, ?_, fun _ => ?_⟩
      · simp [Instr.lookup, run_underlying Tryz.underlying109, hg, hc, hf, hv]
      · have : a = qa := by
          have := h1.eq.symm.trans hq.eq
          unfold key4 at this
          cases this
          rfl
        subst this
        exact ⟨a, h2, hpl⟩
  · refine ⟨false, 0, ?_, fun h => by cases h⟩
    simp [Instr.lookup, run_underlying Tryz.underlying109, hg, hc, hf]
    rfl

theorem find_run {w : World} {B : Nat} {S : Option Addr → Prop} {es : Array MapEntry} (he : ∀ e ∈ es.toList, e.val = .agg #[] ∧ ∃ pa na pb nb, KeyOk w e.key pa na pb nb ∧ S pa ∧ KeyLow B pa pb) {k : Value} {pa pb : Option Addr} {na nb : Int} (hk : KeyOk w k pa na pb nb) :
    ∃ r n, (Instr.findKey 117 k es.toList).run Tryz.prog w = .ok r (w.drewN n) := by
  obtain ⟨r, n, hr, hs⟩ := run_find hk es.toList 0 0 (fun e hx => by obtain ⟨_, a, b, c, d, h, _⟩ := he e hx; exact ⟨a, b, c, d, h⟩)
  cases hl : es.toList with
  | nil => exact ⟨none, 0, by simp [Instr.findKey, Instr.findNow, run_underlying Tryz.underlying117]; rfl⟩
  | cons e l =>
    rw [hl] at hr
    have hn : Instr.findNow (.struct #[{ name := "a", type := 115, offset := 0, embedded := false, tag := "", pkgPath := "carrefour/value", byteOffset := 0 }, { name := "b", type := 115, offset := 2, embedded := false, tag := "", pkgPath := "carrefour/value", byteOffset := 16 }]) k (e :: l) 0 = none := by
      simp [Instr.findNow, Instr.sameNow]
    refine ⟨r, n, ?_⟩
    simp only [Instr.findKey, Sem.run_bind, run_underlying Tryz.underlying117, Result.andThen_ok, hn]
    exact hr

theorem run_stays {w : World} (old new : Value) : ∃ (v : Value) (n : Nat), (Instr.keyThatStays old new).run Tryz.prog w = .ok v (w.drewN n) ∧ (v = old ∨ v = new) := by
  unfold Instr.keyThatStays
  by_cases h : Instr.sameBits 10000 old new = true
  · exact ⟨new, 0, by simp [h]; rfl, .inr rfl⟩
  · by_cases h2 : (Question.extern "map.whichKeyStays" 2).cut (w.tape w.drawn (.extern "map.whichKeyStays" 2)) = 0
    · exact ⟨new, 1, by simp [h, Question.forced, h2]; rfl, .inr rfl⟩
    · exact ⟨old, 1, by simp [h, Question.forced, h2]; rfl, .inl rfl⟩

theorem run_update {w : World} {B M : Nat} {S : Option Addr → Prop} (h : MapIs w B M S) {k : Value} {pa pb : Option Addr} {na nb : Int} (hk : KeyOk w k pa na pb nb) (hlow : KeyLow B pa pb) :
    ∃ w', (Instr.mapUpdate 109 (.map (some M)) k (.agg #[])).run Tryz.prog w = .ok () w' ∧ MapIs w' B M (fun p => S p ∨ p = pa) ∧ w.grownBy w' (some M) := by
  obtain ⟨es, clock, hb, he⟩ := h
  obtain ⟨r, n, hf⟩ := find_run he hk
  have hg : (getObj M).run Tryz.prog w = .ok (.map es clock) w := MapKept.run_getObj_map hb
  have hc := run_check false hk
  have hset : ∀ (m : Nat) (es' : Array MapEntry) (c' : Nat), (∀ e ∈ es'.toList, e.val = .agg #[] ∧ ∃ qa ma qb mb, KeyOk w e.key qa ma qb mb ∧ (S qa ∨ qa = pa) ∧ KeyLow B qa qb) →
      ∃ w', (setObj M (.map es' c')).run Tryz.prog (w.drewN m) = .ok () w' ∧ MapIs w' B M (fun p => S p ∨ p = pa) ∧ w.grownBy w' (some M) := by
    intro m es' c' h'
    refine ⟨_, MapKept.run_setObj_map _ (w := w.drewN m) hb, ⟨es', c', (MapKept.heap_set (w := w) hb).1, fun e hx => ?_⟩, ⟨rfl, rfl, rfl, by simp [World.drewN], fun i hi hne => (MapKept.heap_set (w := w) hb).2 i (fun e => hne (by rw [e]))⟩⟩
    obtain ⟨hv, qa, ma, qb, mb, hq, hs, hl⟩ := h' e hx
    exact ⟨hv, qa, ma, qb, mb, ⟨hq.eq, hq.a.keep fun a ha => (MapKept.heap_set (w := w) hb).2 _ (hq.a.other hb a ha), hq.b.keep fun a ha => (MapKept.heap_set (w := w) hb).2 _ (hq.b.other hb a ha)⟩, hs, hl⟩
  cases r with
  | none =>
    obtain ⟨w', hr, h1, h2⟩ := hset n (es.push { key := k, val := .agg #[], born := clock }) (clock + 1) (fun e hx => by
      rw [Array.toList_push] at hx
      rcases List.mem_append.1 hx with hx | hx
      · obtain ⟨hv, qa, ma, qb, mb, hq, hs, hl⟩ := he e hx
        exact ⟨hv, qa, ma, qb, mb, hq, .inl hs, hl⟩
      · simp only [List.mem_singleton] at hx
        subst hx
        exact ⟨rfl, pa, na, pb, nb, hk, .inr rfl, hlow⟩)
    exact ⟨w', by simp [Instr.mapUpdate, run_underlying Tryz.underlying109, hg, hc, hf, hr], h1, h2⟩
  | some x =>
    obtain ⟨i, v⟩ := x
    obtain ⟨k2, n2, hst, hor⟩ := run_stays (w := w.drewN n) (((es[i]?).map (·.key)).getD k) k
    obtain ⟨w', hr, h1, h2⟩ := hset (n + n2) (es.modify i fun e => { e with key := k2, val := .agg #[] }) clock (fun e hx => by
      rw [Array.mem_toList_iff] at hx
      obtain ⟨j, hj, rfl⟩ := Array.getElem_of_mem hx
      have hj' : j < es.size := by simpa using hj
      rw [Array.getElem_modify]
      split
      · rename_i hij
        subst hij
        rcases hor with h | h
        · obtain ⟨hv, qa, ma, qb, mb, hq, hs, hl⟩ := he es[i] (by simp)
          refine ⟨rfl, qa, ma, qb, mb, ?_, .inl hs, hl⟩
          show KeyOk w k2 qa ma qb mb
          rw [h, Array.getElem?_eq_getElem hj']
          exact hq
        · exact ⟨rfl, pa, na, pb, nb, by show KeyOk w k2 pa na pb nb; rw [h]; exact hk, .inr rfl, hlow⟩
      · obtain ⟨hv, qa, ma, qb, mb, hq, hs, hl⟩ := he es[j] (by simp)
        exact ⟨hv, qa, ma, qb, mb, hq, .inl hs, hl⟩)
    rw [drewN_add] at hst
    exact ⟨w', by simp [Instr.mapUpdate, run_underlying Tryz.underlying109, hg, hc, hf, hst, hr], h1, h2⟩

section
variable {P : Program} {w w1 : World} {ops : Array Oper} {rest : List Oper} {o : Oper} {a : Act} {Q : Exit → Act → World → Prop}
theorem wpList_lookup_run (hg : o.guard = none) (m x : Operand) (t : TypeId) (ok : Bool) (hop : o.op = Op.lookup t m x ok) {mv xv v : Value} (hm : a.eval m = mv) (hx : a.eval x = xv)
    (hr : (Instr.lookup t mv xv ok).run P w = .ok v w1) (hK : wpList P ops Q rest (a.put o.dst v) w1) : wpList P ops Q (o :: rest) a w := by
  refine wpList_plain hg fun K' hK' => ?_
  unfold Oper.wp
  simp [execOp, hop, hm, hx, hr, Result.andThen]
  exact hK' _ _ hK
theorem wpList_update_run (hg : o.guard = none) (m x v : Operand) (t : TypeId) (hop : o.op = Op.mapUpdate t m x v) {mv xv vv : Value} (hm : a.eval m = mv) (hx : a.eval x = xv) (hv : a.eval v = vv)
    (hr : (Instr.mapUpdate t mv xv vv).run P w = .ok () w1) (hK : wpList P ops Q rest (a.put o.dst undef) w1) : wpList P ops Q (o :: rest) a w := by
  refine wpList_plain hg fun K' hK' => ?_
  unfold Oper.wp
  simp [execOp, hop, hm, hx, hv, hr, Result.andThen]
  exact hK' _ _ hK
end

end Go.Proofs.YtiobcgolcoocnaaGreatDoor

namespace Go.Proofs.YtiobcgolcoocnaaGreatDoor
open Go.RowKit
set_option linter.unusedVariables false

/-- a list's place: its first item, or none. -/
def pl (a : Option Addr) (l : List It) : Option Addr := if l.length = 0 then none else a

theorem pl_ok {w : World} {a : Option Addr} {cap : Nat} {l : List It} (h : Tb w a cap l) : PtrOk w (pl a l) := by
  unfold pl
  split
  · exact .inl rfl
  · obtain ⟨b, o, a', cap', rfl, hf, hi, _⟩ := h.get (i := 0) (by omega)
    exact .inr ⟨b, o, _, rfl, by simpa using hi.c0, hf⟩
theorem pl_low {w : World} {B : Nat} {a : Option Addr} {cap : Nat} {l : List It} (h : TbU w B a cap l) : ∀ x, pl a l = some x → x.block < B := by
  unfold pl
  intro x hx
  split at hx
  · cases hx
  · obtain ⟨b, o, a', cap', rfl, hb, _⟩ := h.get (i := 0) (by omega)
    cases hx
    exact hb

set_option maxRecDepth 100000 in
theorem placeOf_any {a : Option Addr} {cap : Nat} {l : List It} (w : World) (hl : Tb w a cap l) :
    Calls Tryz.prog 80 #[.slice a l.length cap] w fun e w' => e = .returned (.agg #[.pointer (pl a l), .int .i64 l.length]) ∧ Below w.heap.size w w' := by
  have hlen := hl.len
  unfold maxLen at hlen
  unfold pl
  cases l with
  | nil =>
    go_enter Tryz.func80, Tryz.ntmps80
    go_wp2
    refine bodyPost_ret (v := .agg #[.pointer none, .int .i64 0]) (by simp [results, Tryz.results80, go_sem, *]) rfl ?_
    exact ⟨rfl, (Below.refl _ _).alloc (Nat.le_refl _) _⟩
  | cons x r =>
    obtain ⟨b, o, a', cap', rfl, hf, hi, _⟩ := hl.get (i := 0) (by simp)
    have hc0 : w.cell? ⟨b, o, none⟩ = some (.string x.name) := by simpa using hi.c0
    go_enter Tryz.func80, Tryz.ntmps80
    go_wp2
    refine bodyPost_ret (v := .agg #[.pointer (some ⟨b, o, none⟩), .int .i64 ((x :: r).length : Int)]) (by simp [results, Tryz.results80, go_sem, *]) rfl ?_
    exact ⟨rfl, (Below.refl _ _).alloc (Nat.le_refl _) _⟩


/-- what the region of couple.place finds. -/
def CpS (w0 : World) (va vb : Value) (wx : World) : Prop :=
  wx.cell? ⟨w0.heap.size, 0, none⟩ = some va ∧ wx.cell? ⟨w0.heap.size, 1, none⟩ = some vb ∧
  (∃ c0 c1 c2 c3, wx.heap[w0.heap.size + 1]? = some (.cells #[c0, c1, c2, c3] 117 (0, 0))) ∧ Below w0.heap.size w0 wx
theorem CpS.below {w0 wx wy : World} {va vb : Value} (h : CpS w0 va vb wx) (hb : Below wx.heap.size wx wy) : CpS w0 va vb wy := by
  obtain ⟨h1, h2, ⟨c0, c1, c2, c3, h3⟩, h4⟩ := h
  have l1 := World.block_lt_of_cell? wx _ h1
  have l2 := World.block_lt_of_cell? wx _ h2
  have l3 : w0.heap.size + 1 < wx.heap.size := (Array.getElem?_eq_some_iff.1 h3).1
  exact ⟨(hb.cell l1).trans h1, (hb.cell l2).trans h2, ⟨c0, c1, c2, c3, (hb.block _ l3).trans h3⟩, h4.trans (hb.mono h4.size)⟩
theorem CpS.row {w0 wx : World} {va vb : Value} (h : CpS w0 va vb wx) (v0 v1 v2 v3 : Value) : ((((wx.setCell ⟨w0.heap.size + 1, 0, none⟩ v0).setCell ⟨w0.heap.size + 1, 1, none⟩ v1).setCell ⟨w0.heap.size + 1, 2, none⟩ v2).setCell ⟨w0.heap.size + 1, 3, none⟩ v3).heap[w0.heap.size + 1]? = some (.cells #[v0, v1, v2, v3] 117 (0, 0)) := by
  obtain ⟨h1, h2, ⟨c0, c1, c2, c3, h3⟩, h4⟩ := h
  have := set_heap (set_heap (set_heap (set_heap h3 0 v0) 1 v1) 2 v2) 3 v3
  simpa using this
theorem CpS.set {w0 wx : World} {va vb : Value} (h : CpS w0 va vb wx) (v0 v1 v2 v3 : Value) : CpS w0 va vb ((((wx.setCell ⟨w0.heap.size + 1, 0, none⟩ v0).setCell ⟨w0.heap.size + 1, 1, none⟩ v1).setCell ⟨w0.heap.size + 1, 2, none⟩ v2).setCell ⟨w0.heap.size + 1, 3, none⟩ v3) := by
  obtain ⟨h1, h2, ⟨c0, c1, c2, c3, h3⟩, h4⟩ := h
  have hk : ∀ k, k ≠ w0.heap.size + 1 → ((((wx.setCell ⟨w0.heap.size + 1, 0, none⟩ v0).setCell ⟨w0.heap.size + 1, 1, none⟩ v1).setCell ⟨w0.heap.size + 1, 2, none⟩ v2).setCell ⟨w0.heap.size + 1, 3, none⟩ v3).heap[k]? = wx.heap[k]? := fun k hk => by
    repeat rw [Below.heap_setCell _ _ _ _ hk]
  have e : w0.heap.size ≠ w0.heap.size + 1 := by omega
  refine ⟨(World.cell?_of_block (w := wx) (a := ⟨w0.heap.size, 0, none⟩) (hk _ e)).trans h1, (World.cell?_of_block (w := wx) (a := ⟨w0.heap.size, 1, none⟩) (hk _ e)).trans h2, ⟨v0, v1, v2, v3, ?_⟩, ?_⟩
  · have := set_heap (set_heap (set_heap (set_heap h3 0 v0) 1 v1) 2 v2) 3 v3
    simpa using this
  · exact (((h4.setCell (by simp) _).setCell (by simp) _).setCell (by simp) _).setCell (by simp) _
/-- a cell's value, where there is one. -/
def cellD (w : World) (g i : Nat) : Value := (w.cell? ⟨g, i, none⟩).getD undef
/-- .. as the walk wants it. -/
def CpF (w0 : World) (va vb : Value) (wx : World) : Prop :=
  wx.cell? ⟨w0.heap.size, 0, none⟩ = some va ∧ wx.cell? ⟨w0.heap.size, 1, none⟩ = some vb ∧
      (wx.cell? ⟨w0.heap.size + 1, 0, none⟩ = some (cellD wx (w0.heap.size + 1) 0) ∧ wx.cell? ⟨w0.heap.size + 1, 1, none⟩ = some (cellD wx (w0.heap.size + 1) 1) ∧ wx.cell? ⟨w0.heap.size + 1, 2, none⟩ = some (cellD wx (w0.heap.size + 1) 2) ∧ wx.cell? ⟨w0.heap.size + 1, 3, none⟩ = some (cellD wx (w0.heap.size + 1) 3)) ∧
      (wx.frozen? ⟨w0.heap.size + 1, 0, none⟩ = false ∧ wx.frozen? ⟨w0.heap.size + 1, 1, none⟩ = false ∧ wx.frozen? ⟨w0.heap.size + 1, 2, none⟩ = false ∧ wx.frozen? ⟨w0.heap.size + 1, 3, none⟩ = false) ∧ CpS w0 va vb wx
theorem CpS.full {w0 wx : World} {va vb : Value} (h : CpS w0 va vb wx) : CpF w0 va vb wx := by
  have hh := h
  obtain ⟨h1, h2, ⟨c0, c1, c2, c3, h3⟩, h4⟩ := h
  obtain ⟨⟨a0, a1, a2, a3⟩, f0, f1, f2, f3⟩ := cells4 h3
  exact ⟨h1, h2, ⟨by simp [cellD, a0], by simp [cellD, a1], by simp [cellD, a2], by simp [cellD, a3]⟩, ⟨f0, f1, f2, f3⟩, hh⟩

/-- a slice's place and length, from its value. -/
def plv : Value → Option Addr
  | .slice a n _ => if n = 0 then none else a
  | _ => none
def lenv : Value → Nat
  | .slice _ n _ => n
  | _ => 0
theorem place_two {w0 wx : World} {va vb : Value} (h : ∀ wx, CpS w0 va vb wx → ∀ v, v = va ∨ v = vb → ∃ a cap l, v = .slice a l.length cap ∧ Tb wx a cap l) (v : Value) (hv : v = va ∨ v = vb) (hw : CpS w0 va vb wx) :
    Calls Tryz.prog 80 #[v] wx fun e w' => e = .returned (.agg #[.pointer (plv v), .int .i64 (lenv v)]) ∧ CpS w0 va vb w' := by
  obtain ⟨a, cap, l, rfl, ht⟩ := h wx hw v hv
  refine (placeOf_any wx ht).mono ?_
  rintro e w2 ⟨rfl, hb⟩
  exact ⟨rfl, hw.below hb⟩

set_option maxRecDepth 100000 in
set_option maxHeartbeats 4000000 in
theorem couple_any {a b : Option Addr} {cap cap' : Nat} {l m : List It} (w : World) (hl : Tb w a cap l) (hm : Tb w b cap' m) :
    Calls Tryz.prog 63 #[.agg #[.slice a l.length cap, .slice b m.length cap']] w fun e w' => e = .returned (key4 (pl a l) l.length (pl b m) m.length) ∧ Below w.heap.size w w' := by
  go_enter Tryz.func63, Tryz.ntmps63
  go_wp2_with fail
  have HS : CpS w (.slice a l.length cap) (.slice b m.length cap') ((w.alloc (.cells #[.slice a l.length cap, .slice b m.length cap'] 111)).alloc (.cells #[.pointer none, .int .i64 0, .pointer none, .int .i64 0] 117)) := by
    refine ⟨by simp [go_sem], by simp [go_sem], ⟨.pointer none, .int .i64 0, .pointer none, .int .i64 0, ?_⟩, ((Below.refl _ _).alloc (Nat.le_refl _) _).alloc (by simp) _⟩
    have := heap_alloc_new (w.alloc (.cells #[.slice a l.length cap, .slice b m.length cap'] 111)) (.cells #[.pointer none, .int .i64 0, .pointer none, .int .i64 0] 117)
    have e : (w.alloc (.cells #[.slice a l.length cap, .slice b m.length cap'] 111)).heap.size = w.heap.size + 1 := by simp
    rw [e] at this
    exact this
  generalize ((w.alloc (.cells #[.slice a l.length cap, .slice b m.length cap'] 111)).alloc (.cells #[.pointer none, .int .i64 0, .pointer none, .int .i64 0] 117)) = w1 at HS ⊢
  have HT : ∀ wx, CpS w (.slice a l.length cap) (.slice b m.length cap') wx → ∀ v, v = (.slice a l.length cap : Value) ∨ v = .slice b m.length cap' → ∃ a cap l, v = .slice a l.length cap ∧ Tb wx a cap l := by
    rintro wx h v (rfl | rfl)
    · exact ⟨_, _, _, rfl, hl.below h.2.2.2⟩
    · exact ⟨_, _, _, rfl, hm.below h.2.2.2⟩
  have HTT := Lib.hid HT
  clear hl hm HT
  have HS1 := Lib.hid HS
  clear HS
  go_region_held3 (fun wx => wx.cell? ⟨w.heap.size, 0, none⟩ = some (.slice a l.length cap) ∧ wx.cell? ⟨w.heap.size, 1, none⟩ = some (.slice b m.length cap') ∧
      (wx.cell? ⟨w.heap.size + 1, 0, none⟩ = some (cellD wx (w.heap.size + 1) 0) ∧ wx.cell? ⟨w.heap.size + 1, 1, none⟩ = some (cellD wx (w.heap.size + 1) 1) ∧ wx.cell? ⟨w.heap.size + 1, 2, none⟩ = some (cellD wx (w.heap.size + 1) 2) ∧ wx.cell? ⟨w.heap.size + 1, 3, none⟩ = some (cellD wx (w.heap.size + 1) 3)) ∧
      (wx.frozen? ⟨w.heap.size + 1, 0, none⟩ = false ∧ wx.frozen? ⟨w.heap.size + 1, 1, none⟩ = false ∧ wx.frozen? ⟨w.heap.size + 1, 2, none⟩ = false ∧ wx.frozen? ⟨w.heap.size + 1, 3, none⟩ = false) ∧ CpS w (.slice a l.length cap) (.slice b m.length cap') wx)
    (first | exact (HS1.out.below (Below.refl _ _).drew).full | exact HS1.out.full | exact CpS.full (by assumption) | exact (CpS.set (by assumption) _ _ _ _).full)
    ((go_at_call 80; have hcp := (by assumption : _ ∧ _ ∧ _ ∧ _ ∧ CpS _ _ _ _).2.2.2.2; refine (place_two HTT.out _ (by first | exact .inl rfl | exact .inr rfl) hcp).mono ?_; clear hcp; rintro e w2 ⟨rfl, hcq⟩))
  rename_i hHeld
  clear hHeld
  have hrow := hcq.row (.pointer (plv (.slice a l.length cap))) (.int .i64 (lenv (.slice a l.length cap))) (.pointer (plv (.slice b m.length cap'))) (.int .i64 (lenv (.slice b m.length cap')))
  have hbel := (hcq.set (.pointer (plv (.slice a l.length cap))) (.int .i64 (lenv (.slice a l.length cap))) (.pointer (plv (.slice b m.length cap'))) (.int .i64 (lenv (.slice b m.length cap')))).2.2.2
  obtain ⟨⟨a0, a1, a2, a3⟩, f0, f1, f2, f3⟩ := cells4 hrow
  have HB := Lib.hid hbel
  clear hbel hrow hcq
  generalize ((((_ : World).setCell ⟨w.heap.size + 1, 0, none⟩ (.pointer (plv (.slice a l.length cap)))).setCell ⟨w.heap.size + 1, 1, none⟩ (.int .i64 (lenv (.slice a l.length cap)))).setCell ⟨w.heap.size + 1, 2, none⟩ (.pointer (plv (.slice b m.length cap')))).setCell ⟨w.heap.size + 1, 3, none⟩ (.int .i64 (lenv (.slice b m.length cap'))) = wz at *
  clear HS1 HTT
  go_wp2_with fail
  refine bodyPost_ret (v := key4 (plv (.slice a l.length cap)) (lenv (.slice a l.length cap)) (plv (.slice b m.length cap')) (lenv (.slice b m.length cap'))) (by simp [results, key4, Tryz.results63, go_sem, *]) rfl ?_
  exact ⟨rfl, HB.out⟩

end Go.Proofs.YtiobcgolcoocnaaGreatDoor

namespace Go.Proofs.YtiobcgolcoocnaaGreatDoor
open Go.RowKit
set_option linter.unusedVariables false

/-- a couple that is still to be looked at; bs: the blocks of its first list, and of the lists within. -/
structure Cp where
  a : Option Addr
  ca : Nat
  la : List It
  b : Option Addr
  cb : Nat
  lb : List It
  bs : List Nat
/-- its two cells. -/
def cc (c : Cp) : List Value := [.slice c.a c.la.length c.ca, .slice c.b c.lb.length c.cb]
def AlikeT (l m : List It) : Prop := l.length = m.length ∧ ∀ i (h : i < l.length) (h' : i < m.length), Alike l[i] m[i]
def Whole (cs : List Cp) : Prop := ∀ c ∈ cs, c.la = c.lb
def wsum : List Cp → Nat
  | [] => 0
  | c :: r => weigh c.la + wsum r
theorem wsum_append : ∀ r d : List Cp, wsum (r ++ d) = wsum r + wsum d
  | [], d => by simp [wsum]
  | c :: r, d => by simp [wsum, wsum_append r d]; omega
theorem len_wsum : ∀ cs : List Cp, cs.length ≤ wsum cs
  | [] => by simp [wsum]
  | c :: r => by have := weigh_pos c.la; have := len_wsum r; simp [wsum]; omega
theorem weigh_append : ∀ (l : List It) (x : It), weigh (l ++ [x]) = weigh l + weigh x.sub
  | [], x => by simp [weigh, weigh_cons]; omega
  | y :: l, x => by rw [List.cons_append, weigh_cons, weigh_cons, weigh_append l x]; omega

theorem weigh_take : ∀ (l : List It) (k : Nat), weigh (l.take k) ≤ weigh l
  | [], k => by simp
  | x :: l, 0 => by have := weigh_pos (x :: l); simp [weigh]; omega
  | x :: l, k + 1 => by have := weigh_take l k; rw [List.take_succ_cons, weigh_cons, weigh_cons]; omega

structure CpOk (w : World) (B : Nat) (c : Cp) : Prop where
  ta : SlAt w c.bs c.a c.ca c.la
  low : ∀ x ∈ c.bs, x < B
  tb : TbU w B c.b c.cb c.lb
  len : c.la.length = c.lb.length
theorem CpOk.below {w w' : World} {B : Nat} {c : Cp} (h : CpOk w B c) (hb : Below B w w') : CpOk w' B c := ⟨h.ta.under hb h.low, h.low, h.tb.below hb, h.len⟩
theorem CpOk.up {w : World} {B : Nat} {c : Cp} (h : CpOk w B c) : TbU w B c.a c.ca c.la := ⟨_, h.ta, h.low⟩

/-- the first list's blocks are nobody else's, and none was met. -/
structure Sep (w : World) (cs : List Cp) (S : Option Addr → Prop) : Prop where
  nodup : (cs.flatMap Cp.bs).Nodup
  plain : ∀ x ∈ cs.flatMap Cp.bs, ∃ c t, w.heap[x]? = some (.cells c t (0, 0))
  shun : ∀ q, S q → ∀ x, q = some x → x.block ∉ cs.flatMap Cp.bs

/-- what is known at the label. -/
structure Met (B : Nat) (c0 : Cp) (fresh : Prop) (w : World) (cs : List Cp) (S : Option Addr → Prop) : Prop where
  ok : ∀ c ∈ cs, CpOk w B c
  eq : c0.la = c0.lb → Whole cs
  top : (AlikeT c0.la c0.lb ∧ ∀ c ∈ cs, 0 < c.la.length) ∨ ((∀ q, ¬ S q) ∧ cs = [c0])
  sep : fresh → Sep w cs S ∧ (Whole cs → c0.la = c0.lb)
theorem Met.below {B : Nat} {c0 : Cp} {fresh : Prop} {w w' : World} {cs : List Cp} {S : Option Addr → Prop} (h : Met B c0 fresh w cs S) (hb : Below B w w') : Met B c0 fresh w' cs S := by
  refine ⟨fun c hc => (h.ok c hc).below hb, h.eq, h.top, fun hf => ?_⟩
  obtain ⟨h1, h2⟩ := h.sep hf
  refine ⟨⟨h1.nodup, fun x hx => ?_, h1.shun⟩, h2⟩
  obtain ⟨c, hc, hx'⟩ := List.mem_flatMap.1 hx
  obtain ⟨k, t, e⟩ := h1.plain x hx
  exact ⟨k, t, (hb.block x ((h.ok c hc).low x hx')).trans e⟩

def it0 : It := .mk ByteArray.empty 0 0 ByteArray.empty []
/-- the couple of two items' lists. -/
def kid (vs vs' : Nat → Option Addr × Nat) (bss : Nat → List Nat) (la lb : List It) (k : Nat) : Cp := ⟨(vs k).1, (vs k).2, (la.getD k it0).sub, (vs' k).1, (vs' k).2, (lb.getD k it0).sub, bss k⟩
/-- .. of the first k items, but for empty ones. -/
def kids (vs vs' : Nat → Option Addr × Nat) (bss : Nat → List Nat) (la lb : List It) : Nat → List Cp
  | 0 => []
  | k + 1 => kids vs vs' bss la lb k ++ (if (la.getD k it0).sub.length = 0 then [] else [kid vs vs' bss la lb k])

section
variable {vs vs' : Nat → Option Addr × Nat} {bss : Nat → List Nat} {la lb : List It}
theorem kids_of : ∀ {k : Nat} {x : Cp}, x ∈ kids vs vs' bss la lb k → ∃ i, i < k ∧ 0 < (la.getD i it0).sub.length ∧ x = kid vs vs' bss la lb i
  | k + 1, x, h => by
    rw [kids, List.mem_append] at h
    rcases h with h | h
    · obtain ⟨i, hi, h1, h2⟩ := kids_of h
      exact ⟨i, by omega, h1, h2⟩
    · split at h
      · simp at h
      · simp only [List.mem_singleton] at h
        exact ⟨k, by omega, by omega, h⟩
  | 0, x, h => by simp [kids] at h
theorem of_kids : ∀ {k i : Nat}, i < k → 0 < (la.getD i it0).sub.length → kid vs vs' bss la lb i ∈ kids vs vs' bss la lb k
  | k + 1, i, h, hp => by
    rw [kids, List.mem_append]
    by_cases e : i = k
    · subst e
      right
      rw [if_neg (by omega)]
      simp
    · exact .inl (of_kids (by omega) hp)
theorem kids_sum : ∀ {k : Nat}, k ≤ la.length → wsum (kids vs vs' bss la lb k) + 1 ≤ weigh (la.take k)
  | 0, _ => by simp [kids, wsum, weigh]
  | k + 1, h => by
    have ih := kids_sum (k := k) (by omega)
    have e : la.getD k it0 = la[k] := by simp [List.getD, List.getElem?_eq_getElem (show k < la.length by omega)]
    rw [List.take_succ_eq_append_getElem (by omega), weigh_append, kids, wsum_append, e]
    split
    · simp [wsum]; omega
    · simp only [wsum, kid, e]; omega
theorem kids_bs : ∀ (k : Nat), ((kids vs vs' bss la lb k).flatMap Cp.bs).Sublist ((List.range k).flatMap bss)
  | 0 => by simp [kids]
  | k + 1 => by
    rw [kids, List.flatMap_append, List.range_succ, List.flatMap_append]
    refine (kids_bs k).append ?_
    split
    · simp
    · simp [kid]
end

/-- a couple's lists, item by item. -/
structure Opened (w : World) (B : Nat) (c : Cp) (ba oa bb ob : Nat) (vs vs' : Nat → Option Addr × Nat) (bss : Nat → List Nat) : Prop where
  bs : c.bs = (if c.la.length = 0 then [] else [ba]) ++ (List.range c.la.length).flatMap bss
  pa : 0 < c.la.length → c.a = some ⟨ba, oa, none⟩ ∧ w.frozen? ⟨ba, oa, none⟩ = false ∧ ba < B
  pb : 0 < c.la.length → c.b = some ⟨bb, ob, none⟩ ∧ bb < B
  ita : ∀ (i : Nat) (h : i < c.la.length), ItAt w ba (oa + i * 5) c.la[i] (.slice (vs i).1 c.la[i].sub.length (vs i).2)
  itb : ∀ (i : Nat) (h : i < c.lb.length), ItAt w bb (ob + i * 5) c.lb[i] (.slice (vs' i).1 c.lb[i].sub.length (vs' i).2)
  kid : ∀ (i : Nat) (h : i < c.la.length), Alike c.la[i] (c.lb.getD i it0) → CpOk w B (kid vs vs' bss c.la c.lb i)
  sla : ∀ (i : Nat) (h : i < c.la.length), c.la[i].sub.length ≤ maxLen
  slb : ∀ (i : Nat) (h : i < c.lb.length), c.lb[i].sub.length ≤ maxLen
  capa : c.la.length ≤ c.ca ∧ c.ca ≤ maxLen
  capb : c.lb.length ≤ c.cb ∧ c.cb ≤ maxLen

theorem CpOk.opened {w : World} {B : Nat} {c : Cp} (h : CpOk w B c) : ∃ ba oa bb ob vs vs' bss, Opened w B c ba oa bb ob vs vs' bss := by
  obtain ⟨a, ca, la, b, cb, lb, bs⟩ := c
  obtain ⟨ta, low, ⟨bs2, tb, low2⟩, len⟩ := h
  replace ta : SlAt w bs a ca la := ta
  replace tb : SlAt w bs2 b cb lb := tb
  cases ta with
  | intro ba oa vs bss hcap hmax ha hfr hc hs =>
    cases tb with
    | intro bb ob vs' bss2 hcap2 hmax2 hb hfr2 hc2 hs2 =>
      simp only at len low low2
      refine ⟨ba, oa, bb, ob, vs, vs', bss, rfl, fun h0 => ⟨ha h0, hfr h0, low ba ?_⟩, fun h0 => ⟨hb (by simp only at h0; omega), low2 bb ?_⟩, hc, hc2, fun i hi hal => ?_, fun i hi => ?_, fun i hi => ?_, ⟨hcap, hmax⟩, ⟨hcap2, hmax2⟩⟩
      · simp only at h0
        rw [if_neg (by omega)]; simp
      · simp only at h0
        rw [if_neg (by omega)]; simp
      · simp only at hi hal
        have e1 : la.getD i it0 = la[i] := by simp [List.getD, List.getElem?_eq_getElem hi]
        have e2 : lb.getD i it0 = lb[i]'(by omega) := by simp [List.getD, List.getElem?_eq_getElem (show i < lb.length by omega)]
        refine ⟨?_, ?_, ?_, ?_⟩
        · simp only [kid, e1]; exact hs i hi
        · simp only [kid]
          intro x hx
          exact low x (List.mem_append.2 (.inr (List.mem_flatMap.2 ⟨i, List.mem_range.2 hi, hx⟩)))
        · simp only [kid, e2]
          exact ⟨_, hs2 i (by omega), fun x hx => low2 x (List.mem_append.2 (.inr (List.mem_flatMap.2 ⟨i, List.mem_range.2 (by omega), hx⟩)))⟩
        · simp only [kid, e1]
          exact hal.2.2.2.2
      · have := (Tb.len ⟨_, hs i hi⟩); simp only; omega
      · have := (Tb.len ⟨_, hs2 i hi⟩); simp only; omega

theorem Opened.below {w w' : World} {B : Nat} {c : Cp} {ba oa bb ob : Nat} {vs vs' : Nat → Option Addr × Nat} {bss : Nat → List Nat} (h : Opened w B c ba oa bb ob vs vs' bss) (hle : c.la.length = c.lb.length) (hb : Below B w w') : Opened w' B c ba oa bb ob vs vs' bss := by
  refine ⟨h.bs, fun h0 => ?_, h.pb, fun i hi => (h.ita i hi).keep (hb.block _ (h.pa (by omega)).2.2), fun i hi => (h.itb i hi).keep (hb.block _ (h.pb (by omega)).2), fun i hi ha => (h.kid i hi ha).below hb, h.sla, h.slb, h.capa, h.capb⟩
  obtain ⟨h1, h2, h3⟩ := h.pa h0
  exact ⟨h1, (hb.frozen (p := ⟨ba, oa, none⟩) h3).trans h2, h3⟩

theorem ext_sub : ∀ {l m : List It}, AlikeT l m → (∀ i (h : i < l.length) (h' : i < m.length), l[i].sub = m[i].sub) → l = m := by
  intro l m h hs
  refine List.ext_getElem h.1 fun i h1 h2 => ?_
  have ha := h.2 i h1 h2
  have hb := hs i h1 h2
  revert ha hb
  generalize l[i] = x
  generalize m[i] = y
  obtain ⟨n1, k1, m1, s1, u1⟩ := x
  obtain ⟨n2, k2, m2, s2, u2⟩ := y
  rintro ⟨h1, h2, h3, h4, h5⟩ h6
  simp only [It.name_mk, It.kind_mk, It.n_mk, It.s_mk, It.sub_mk] at h1 h2 h3 h4 h5 h6
  subst h1; subst h2; subst h3; subst h4; subst h6
  rfl

/-- a couple was met ahead: it goes, and nothing else turns. -/
theorem Met.skip {B : Nat} {c0 : Cp} {fresh : Prop} {w : World} {r : List Cp} {c : Cp} {S : Option Addr → Prop} (h : Met B c0 fresh w (r ++ [c]) S)
    (hm : ∃ q, S q ∧ (PtrPlain w (pl c.a c.la) → pl c.a c.la = q)) : Met B c0 fresh w r S := by
  obtain ⟨q, hq, hpl⟩ := hm
  rcases h.top with ⟨ht, hp⟩ | ⟨hn, _⟩
  · have hc := h.ok c (by simp)
    have h0 := hp c (by simp)
    obtain ⟨ba, oa, bb, ob, vs, vs', bss, ho⟩ := hc.opened
    obtain ⟨e, _, _⟩ := ho.pa h0
    refine ⟨fun x hx => h.ok x (by simp [hx]), fun e x hx => h.eq e x (by simp [hx]), .inl ⟨ht, fun x hx => hp x (by simp [hx])⟩, fun hf => ?_⟩
    exfalso
    obtain ⟨hs, _⟩ := h.sep hf
    have hmem : ba ∈ (r ++ [c]).flatMap Cp.bs := by
      rw [List.flatMap_append, List.mem_append]
      right
      simp only [List.flatMap_cons, List.flatMap_nil, List.append_nil]
      rw [ho.bs, if_neg (by omega)]
      simp
    have hpe : pl c.a c.la = some ⟨ba, oa, none⟩ := by unfold pl; rw [if_neg (by omega), e]
    have := hpl (fun a ha => by
      rw [hpe] at ha
      cases ha
      exact hs.plain ba hmem)
    rw [hpe] at this
    exact hs.shun q hq _ this.symm hmem
  · exact absurd hq (hn q)

/-- a couple is gone through: its children stand in its place. -/
theorem Met.next {B : Nat} {c0 : Cp} {fresh : Prop} {w : World} {r : List Cp} {c : Cp} {S : Option Addr → Prop} (h : Met B c0 fresh w (r ++ [c]) S) {ba oa bb ob : Nat} {vs vs' : Nat → Option Addr × Nat} {bss : Nat → List Nat} (ho : Opened w B c ba oa bb ob vs vs' bss)
    (hal : ∀ i, i < c.la.length → Alike (c.la.getD i it0) (c.lb.getD i it0)) :
    Met B c0 fresh w (r ++ kids vs vs' bss c.la c.lb c.la.length) (fun p => S p ∨ p = pl c.a c.la) := by
  have hc := h.ok c (by simp)
  have hlen := hc.len
  have gd : ∀ (l : List It) (i : Nat) (hi : i < l.length), l.getD i it0 = l[i] := fun l i hi => by simp [List.getD, List.getElem?_eq_getElem hi]
  have hAT : AlikeT c.la c.lb := ⟨hlen, fun i h1 h2 => by
    have := hal i h1
    rwa [gd _ _ h1, gd _ _ h2] at this⟩
  have hkid : ∀ i, (hi : i < c.la.length) → CpOk w B (kid vs vs' bss c.la c.lb i) := fun i hi => ho.kid i hi (by
    have := hal i hi
    rwa [gd _ _ hi] at this)
  have heqk : c.la = c.lb ↔ Whole (kids vs vs' bss c.la c.lb c.la.length) := by
    constructor
    · intro e x hx
      obtain ⟨i, hi, h0, rfl⟩ := kids_of hx
      simp only [kid]
      rw [← e]
    · intro hW
      refine ext_sub hAT fun i h1 h2 => ?_
      by_cases h0 : 0 < c.la[i].sub.length
      · have := hW _ (of_kids (vs := vs) (vs' := vs') (bss := bss) (la := c.la) (lb := c.lb) h1 (by rw [gd _ _ h1]; exact h0))
        simp only [kid] at this
        rwa [gd _ _ h1, gd _ _ h2] at this
      · have := (hAT.2 i h1 h2).2.2.2.2
        rw [List.eq_nil_of_length_eq_zero (show c.la[i].sub.length = 0 by omega), List.eq_nil_of_length_eq_zero (show c.lb[i].sub.length = 0 by omega)]
  have htop : AlikeT c0.la c0.lb ∧ ∀ x ∈ r, 0 < x.la.length := by
    rcases h.top with ⟨ht, hp⟩ | ⟨hn, e⟩
    · exact ⟨ht, fun x hx => hp x (by simp [hx])⟩
    · have : r = [] ∧ c = c0 := by
        cases r with
        | nil => simpa using e
        | cons x r' => simp at e
      obtain ⟨rfl, rfl⟩ := this
      exact ⟨hAT, by simp⟩
  have hbs : ((r ++ kids vs vs' bss c.la c.lb c.la.length).flatMap Cp.bs).Sublist ((r ++ [c]).flatMap Cp.bs) := by
    rw [List.flatMap_append, List.flatMap_append]
    refine (List.Sublist.refl _).append ?_
    simp only [List.flatMap_cons, List.flatMap_nil, List.append_nil]
    rw [ho.bs]
    exact (kids_bs _).trans (List.sublist_append_right _ _)
  refine ⟨fun x hx => ?_, fun e => ?_, .inl ⟨htop.1, fun x hx => ?_⟩, fun hf => ⟨⟨?_, ?_, ?_⟩, fun hW => ?_⟩⟩
  · rcases List.mem_append.1 hx with hx | hx
    · exact h.ok x (by simp [hx])
    · obtain ⟨i, hi, h0, rfl⟩ := kids_of hx
      exact hkid i hi
  · have hW := h.eq e
    intro x hx
    rcases List.mem_append.1 hx with hx | hx
    · exact hW x (by simp [hx])
    · exact heqk.1 (hW c (by simp)) x hx
  · rcases List.mem_append.1 hx with hx | hx
    · exact htop.2 x hx
    · obtain ⟨i, hi, h0, rfl⟩ := kids_of hx
      exact h0
  · exact (h.sep hf).1.nodup.sublist hbs
  · exact fun x hx => (h.sep hf).1.plain x (hbs.subset hx)
  · intro q hq x hx hm
    rcases hq with hq | rfl
    · exact (h.sep hf).1.shun q hq x hx (hbs.subset hm)
    · have h0 : 0 < c.la.length := by
        unfold pl at hx
        split at hx
        · cases hx
        · omega
      have hpe : pl c.a c.la = some ⟨ba, oa, none⟩ := by unfold pl; rw [if_neg (by omega), (ho.pa h0).1]
      rw [hpe] at hx
      cases hx
      have hnd := (h.sep hf).1.nodup
      rw [List.flatMap_append, List.nodup_append] at hnd
      simp only [List.flatMap_cons, List.flatMap_nil, List.append_nil] at hnd
      obtain ⟨_, hn2, hn3⟩ := hnd
      rw [ho.bs, if_neg (by omega)] at hn2 hn3
      rw [List.flatMap_append, List.mem_append] at hm
      rcases hm with hm | hm
      · exact hn3 _ hm _ (by simp) rfl
      · have := (kids_bs (vs := vs) (vs' := vs') (bss := bss) (la := c.la) (lb := c.lb) c.la.length).subset hm
        rw [List.singleton_append, List.nodup_cons] at hn2
        exact hn2.1 this
  · refine (h.sep hf).2 fun x hx => ?_
    rcases List.mem_append.1 hx with hx | hx
    · exact hW x (by simp [hx])
    · simp only [List.mem_singleton] at hx
      subst hx
      exact heqk.2 fun y hy => hW y (by simp [hy])

end Go.Proofs.YtiobcgolcoocnaaGreatDoor

namespace Go.Proofs.YtiobcgolcoocnaaGreatDoor
open Go.RowKit
set_option linter.unusedVariables false

/-- the stack lies in block g, the map in block M. -/
structure Sst (B : Nat) (w0 w : World) (M g cap : Nat) (cs : List Cp) (S : Option Addr → Prop) : Prop where
  hB : B ≤ w0.heap.size
  bel : Below B w0 w
  hM : B ≤ M
  hg : B ≤ g
  row : w.ownsRow B 111 2 (.slice (some ⟨g, 0, none⟩) cs.length cap) cs.length (cs.flatMap cc)
  map : MapIs w B M S
section
variable {B M g cap : Nat} {w0 w w' : World} {cs r : List Cp} {c : Cp} {S : Option Addr → Prop}
theorem Sst.size (h : Sst B w0 w M g cap cs S) : B ≤ w.heap.size := Nat.le_trans h.hB h.bel.size
theorem Sst.below (h : Sst B w0 w M g cap cs S) (hb : Below w.heap.size w w') : Sst B w0 w' M g cap cs S :=
  ⟨h.hB, h.bel.trans (hb.mono h.size), h.hM, h.hg, h.row.kept (row := none) ⟨hb.os, hb.tape, hb.output, hb.size, fun i hi _ => hb.block i hi⟩ (.inr (by simp [Value.ownBlock])), h.map.keep (hb.mono h.size) (hb.block M h.map.lt)⟩
theorem Sst.ne (h : Sst B w0 w M g cap cs S) : g ≠ M := by
  intro e
  subst e
  obtain ⟨es, k, hm, _⟩ := h.map
  obtain ⟨k, t, hg⟩ := Lib.ownsRow_kind h.row g rfl
  rw [hm] at hg
  cases hg
theorem Sst.lt (h : Sst B w0 w M g cap cs S) : g < w.heap.size := (h.row.lt g rfl).2
theorem Sst.pop (h : Sst B w0 w M g cap (r ++ [c]) S) : Sst B w0 w M g cap r S := by
  refine ⟨h.hB, h.bel, h.hM, h.hg, ?_, h.map⟩
  have := h.row
  rw [List.length_append, List.flatMap_append] at this
  refine ownsRow_pop (last := cc c) ?_ (by simpa using this)
  clear this h
  induction r with
  | nil => simp
  | cons x r ih => simp [ih, cc]; omega
theorem flat_len : ∀ cs : List Cp, (cs.flatMap cc).length = cs.length * 2
  | [] => by simp
  | x :: r => by simp [flat_len r, cc]; omega
theorem Sst.cells (h : Sst B w0 w M g cap (r ++ [c]) S) :
    w.cell? ⟨g, r.length * 2, none⟩ = some (.slice c.a c.la.length c.ca) ∧ w.cell? ⟨g, r.length * 2 + 1, none⟩ = some (.slice c.b c.lb.length c.cb) ∧ w.frozen? ⟨g, 0, none⟩ = false := by
  have h1 := h.row.cellAt (r.length * 2) (by simp)
  have h2 := h.row.cellAt (r.length * 2 + 1) (by rw [List.length_append, List.length_singleton]; omega)
  rw [List.flatMap_append, List.getElem?_append_right (by rw [flat_len]; omega)] at h1 h2
  rw [flat_len] at h1 h2
  refine ⟨by rw [h1]; simp [cc], by rw [h2, show r.length * 2 + 1 - r.length * 2 = 1 by omega]; simp [cc], h.row.frozenAt 0⟩
theorem Sst.capOk (h : Sst B w0 w M g cap cs S) : cs.length ≤ cap ∧ cap ≤ maxLen := by
  rcases h.row.2 with ⟨e, _⟩ | ⟨g', cap', cur, hv, hg, hh, hn, hcap, hsz, htake⟩
  · cases e
  · cases hv
    exact ⟨hn, hcap⟩
theorem Sst.upd {S' : Option Addr → Prop} (h : Sst B w0 w M g cap cs S) (hg : w.grownBy w' (some M)) (hm : MapIs w' B M S') : Sst B w0 w' M g cap cs S' :=
  ⟨h.hB, h.bel.grown hg h.size (fun k e => by cases e; exact h.hM), h.hM, h.hg, h.row.kept hg (.inr (by simpa [Value.ownBlock] using h.ne)), hm⟩

theorem couple_info : (Tryz.prog.info? 111).map (fun i => (i.zero, i.size, i.bytes)) = some (some (.agg #[.slice none 0 0, .slice none 0 0]), 2, 48) := by kernel_rfl

/-- a couple more: its cells lie in the block made last. -/
theorem put_couple {ops : Array Oper} {rest : List Oper} {o : Oper} {a : Act} {Q : Exit → Act → World → Prop} {os : Array Value} (hgd : o.guard = none) (s x : Operand)
    (ho : o.op = .call { callee := .builtin .append, args := #[s, x], argTypes := #[112, 112] }) (c : Cp) (hb : Sst B w0 w M g cap cs S) (hl : cs.length ≤ 100000) (hcs : os = (cc c).toArray) (N : Nat) (hN : N = cs.length)
    (hs : a.eval s = .slice (some ⟨g, 0, none⟩) N cap) (H : Nat) (hH : w.heap.size = H) (hx : a.eval x = .slice (some ⟨H, 0, none⟩) 1 1)
    (h : ∀ g' cap' w', Sst B w0 w' M g' cap' (cs ++ [c]) S → w.grownBy w' (some g) → (g' = g ∨ w.heap.size ≤ g') →
      wpList Tryz.prog ops Q rest (a.put o.dst (.slice (some ⟨g', 0, none⟩) (N + 1) cap')) w') :
    wpList Tryz.prog ops Q (o :: rest) a (w.alloc (.cells os 111)) := by
  subst hcs
  subst hN
  subst hH
  obtain ⟨i0, hi, hz0, hz1, hz2⟩ := info_parts couple_info
  have hb' := World.ownsRow.alloc hb.row (.cells (cc c).toArray 111)
  have hone : ∀ u ∈ cc c, u.oneCell' = true := by
    intro u hu
    simp only [cc, List.mem_cons, List.not_mem_nil, or_false] at hu
    rcases hu with rfl | rfl <;> rfl
  refine wpList_append_lies _ hgd s x 112 ho B 111 i0 _ 2 48 Tryz.underlying112 hi hz0 hz1 hz2 rfl (by decide) _ cs.length (cs.flatMap cc) hs hb' ⟨w.heap.size, 0, none⟩ 1 1 (cc c) hx (by simp [cc]) (World.news_of_block (heap_alloc_new w _)) hone (by decide) (by unfold maxLen; omega) (by omega) (by simp; have := hb.size; omega) _ rfl ?_
  intro g' cap' w' hown hg hat hlt
  have hgb := alloc_before hg
  have hat' : g' = g ∨ w.heap.size ≤ g' := by
    rcases hat with h1 | h1
    · exact .inl (by simpa [Value.ownBlock] using h1.symm)
    · exact .inr (by simp at h1; omega)
  have hBel : Below B w w' := (Below.refl B w).grown hgb hb.size (fun k e => by cases e; exact hb.hg)
  refine h g' cap' w' ⟨hb.hB, hb.bel.trans hBel, hb.hM, ?_, ?_, hb.map.keep hBel (hgb.block M hb.map.lt (fun e => hb.ne (by simpa [Value.ownBlock] using e.symm)))⟩ hgb hat'
  · rcases hat' with rfl | h1
    · exact hb.hg
    · have := hb.size; omega
  · rw [List.length_append, List.flatMap_append]
    simpa using hown
end

end Go.Proofs.YtiobcgolcoocnaaGreatDoor
