/-
  A transaction as plain data: what each call makes of one; what a batch with acks makes of a shard.
  A transaction in memory: its box and its two rows; numbers in rows of the call's own.
  batch's small functions, walked: New, mayBe, Len, isElsewhere; the document's other; slices.Contains of numbers.
  batch's isElsewhere, the document's other, slices.Contains of numbers, walked.
  What Publish and Ack leave in memory.
-/
import Derived.Test.YthohjcfpobeplaaShDat
import Derived.Test.YthohjcfpobeplaaShMem
import Derived.Test.YthohjcfpobeplaaKeptW
import Derived.Test.YthohjcfpobeplaaShLeaf
import Derived.Deep.LoopGhost
import Derived.Test.YthohjcfpobeplaaShFull

namespace Go.Proofs.Ythohjcfpobeplaa.Bt
open Sh
set_option linter.unusedVariables false

structure Tx where
  pub : Int
  qu : Int
  key : List UInt8
  put : List Mg
  tags : List Int
  deriving DecidableEq
def tx0 (p : Int) : Tx := ⟨p, 0, [], [], []⟩
def Tx.len (t : Tx) : Nat := t.put.length + t.tags.length
def MayBe (q : Int) (k : List UInt8) : Prop := 0 ≤ q ∧ q < 4 ∧ 1 ≤ k.length ∧ k.length ≤ 20
instance (q : Int) (k : List UInt8) : Decidable (MayBe q k) := inferInstanceAs (Decidable (_ ∧ _ ∧ _ ∧ _))
def Els (t : Tx) (q : Int) (k : List UInt8) : Prop := 0 < t.len ∧ (¬ t.qu = q ∨ ¬ t.key = k)
instance (t : Tx) (q : Int) (k : List UInt8) : Decidable (Els t q k) := inferInstanceAs (Decidable (_ ∧ (_ ∨ _)))
def pubM (t : Tx) (k : List UInt8) (s : Int) (b : List UInt8) : Mg := ⟨t.pub, s, k, b, false⟩
def endT (t : Tx) : Mg := t.put.getLastD mg0
def pubC (t : Tx) (q : Int) (k : List UInt8) (s : Int) (b : List UInt8) : Int :=
  if ¬ (MayBe q k ∧ MayMg (pubM t k s b)) then 1
  else if Els t q k then 540
  else if t.put.length = 8 then 4
  else if 0 < t.put.length ∧ ¬ s = (endT t).seq + 1 then 1
  else 0
def pubT (t : Tx) (q : Int) (k : List UInt8) (s : Int) (b : List UInt8) : Tx :=
  if pubC t q k s b = 0 then { t with qu := q, key := k, put := t.put ++ [pubM t k s b] } else t
def ackC (t : Tx) (q : Int) (k : List UInt8) (n : Int) : Int :=
  if ¬ MayBe q k ∨ n < 1 ∨ n ∈ t.tags then 1
  else if Els t q k then 540
  else if t.tags.length = 8 then 4
  else 0
def ackT (t : Tx) (q : Int) (k : List UInt8) (n : Int) : Tx :=
  if ackC t q k n = 0 then { t with qu := q, key := k, tags := t.tags ++ [n] } else t
def takeQ (t : Tx) : Int := if t.len = 0 then -1 else t.qu
/-- what each transaction is. -/
def MayTx (t : Tx) : Prop := t.put.length ≤ 8 ∧ t.tags.length ≤ 8 ∧ (∀ m ∈ t.put, MayMg m) ∧ (t.len = 0 → t = tx0 t.pub)
theorem may_tx0 (p : Int) : MayTx (tx0 p) := ⟨by simp [tx0], by simp [tx0], by simp [tx0], fun _ => rfl⟩
theorem pub_bad {t : Tx} {q : Int} {k : List UInt8} {s : Int} {b : List UInt8} {c : Int} (h : pubC t q k s b = c) (hc : c ≠ 0) : pubC t q k s b = c ∧ pubT t q k s b = t := ⟨h, by unfold pubT; rw [if_neg (by rw [h]; exact hc)]⟩
theorem pub_good {t : Tx} {q : Int} {k : List UInt8} {s : Int} {b : List UInt8} (h : pubC t q k s b = 0) : pubC t q k s b = 0 ∧ pubT t q k s b = { t with qu := q, key := k, put := t.put ++ [pubM t k s b] } := ⟨h, by unfold pubT; rw [if_pos h]⟩
theorem ack_bad {t : Tx} {q : Int} {k : List UInt8} {n c : Int} (h : ackC t q k n = c) (hc : c ≠ 0) : ackC t q k n = c ∧ ackT t q k n = t := ⟨h, by unfold ackT; rw [if_neg (by rw [h]; exact hc)]⟩
theorem ack_good {t : Tx} {q : Int} {k : List UInt8} {n : Int} (h : ackC t q k n = 0) : ackC t q k n = 0 ∧ ackT t q k n = { t with qu := q, key := k, tags := t.tags ++ [n] } := ⟨h, by unfold ackT; rw [if_pos h]⟩
theorem pub_may {t : Tx} (h : MayTx t) (q : Int) (k : List UInt8) (s : Int) (b : List UInt8) : MayTx (pubT t q k s b) := by
  unfold pubT
  split
  case isFalse => exact h
  case isTrue h0 =>
    unfold pubC at h0
    split at h0
    · cases h0
    split at h0
    · cases h0
    split at h0
    · cases h0
    rename_i h1 _ h3
    refine ⟨by have := h.1; simp; omega, h.2.1, fun m hm => ?_, fun h9 => by unfold Tx.len at h9; simp at h9⟩
    rcases List.mem_append.1 hm with h4 | h4
    · exact h.2.2.1 m h4
    · obtain rfl := List.mem_singleton.1 h4
      have h5 : MayBe q k ∧ MayMg (pubM t k s b) := by simpa using h1
      exact h5.2
theorem ack_mayT {t : Tx} (h : MayTx t) (q : Int) (k : List UInt8) (n : Int) : MayTx (ackT t q k n) := by
  unfold ackT
  split
  case isFalse => exact h
  case isTrue h0 =>
    unfold ackC at h0
    split at h0
    · cases h0
    split at h0
    · cases h0
    split at h0
    · cases h0
    exact ⟨h.1, by have := h.2.1; simp; omega, h.2.2.1, fun h9 => by unfold Tx.len at h9; simp at h9⟩
theorem end_get {t : Tx} (h : 0 < t.put.length) : endT t = t.put[t.put.length - 1] := by
  unfold endT
  rw [List.getLastD_eq_getLast?, List.getLast?_eq_getElem?, List.getElem?_eq_getElem (by omega)]
  rfl

/-- all acks, up to the first error. -/
def ackA (s : Sd) : List Int → Sd × Int
  | [] => (s, 0)
  | t :: l => if outC s t = 0 then ackA (ackS s t) l else (ackS s t, outC s t)
def doS (s : Sd) (put : List Mg) (ack : List Int) : Sd :=
  if put = [] ∧ ack = [] then s
  else if ¬ (ackA s ack).2 = 0 then s
  else if put = [] then (ackA s ack).1
  else if putC (ackA s ack).1 put = 0 ∨ putC (ackA s ack).1 put = 8 then putS (ackA s ack).1 put
  else s
def doC (s : Sd) (put : List Mg) (ack : List Int) : Int :=
  if put = [] ∧ ack = [] then 1
  else if ¬ (ackA s ack).2 = 0 then (ackA s ack).2
  else if put = [] then 0
  else putC (ackA s ack).1 put

end Go.Proofs.Ythohjcfpobeplaa.Bt

namespace Go.Proofs.Ythohjcfpobeplaa.Bt
open Go.RowKit Rg Sh
set_option linter.unusedVariables false
set_option linter.unusedSimpArgs false

def inC (x : Int) : List Value := [.int .i64 x]
theorem in_one (l : List Int) : ∀ u ∈ l.flatMap inC, u.oneCell' = true := by
  intro u hu
  obtain ⟨e, _, he⟩ := List.mem_flatMap.1 hu
  simp only [inC, List.mem_cons, List.not_mem_nil, or_false] at he
  rcases he with rfl; rfl
theorem inE : El 1 inC 3 69 :=
  ⟨by decide, fun _ => rfl, in_one, Try.underlying69, fun w => by kernel_rfl, el_info (by' := 8) (z := .int .i64 0) (by kernel_rfl) (by decide) rfl⟩
abbrev InsAt := RowsAt 1 inC
abbrev OwnI := OwnE 1 inC 3
theorem InsAt.get {w : World} {a : Option Addr} {cap : Nat} {l : List Int} (h : InsAt w a cap l) (i : Nat) (hi : i < l.length) :
    ∃ b o, a = some ⟨b, o, none⟩ ∧ w.cell? ⟨b, o + i, none⟩ = some (.int .i64 l[i]) := by
  obtain ⟨b, o, ha, hc⟩ := h.at' (by omega)
  have h1 := hc i hi 0 _ rfl
  rw [show o + i * 1 + 0 = o + i by omega] at h1
  exact ⟨b, o, ha, h1⟩

/-! a row with one more: in its old block or in one just made. -/
section
variable {α : Type} {k : Nat} {f : α → List Value} {E T : TypeId}
theorem run_lies (h0 : El k f E T) {w : World} {base : Nat} {v : Value} {l : List α} (ty : TypeId) (x : α) (hb : OwnE k f E w base v l) (hbase : base ≤ w.heap.size) (hl : l.length ≤ 900000) (cs : Array Value) (hcs : cs = (f x).toArray) :
    ∃ v' w', (Builtin.append_ #[T, T] ty #[v, .slice (some ⟨w.heap.size, 0, none⟩) 1 1]).run Try.prog (w.alloc (.cells cs E)) = .ok v' w' ∧ OwnE k f E w' base v' (l ++ [x]) ∧ w.grownBy w' v.ownBlock ∧ (∀ j, v'.ownBlock = some j → v.ownBlock = some j ∨ w.heap.size ≤ j) := by
  subst hcs
  obtain ⟨i0, z, by', hi, hz0, hz1, hz2, hz3, hz4⟩ := h0.info
  have hby : (l.length + 1) * by' ≤ 140737488355328 := Nat.le_trans (Nat.mul_le_mul (show l.length + 1 ≤ 1000000 by omega) hz3) (by decide)
  obtain ⟨v', w', hr, h2, h3, _, h5⟩ := run_append_own_at (P := Try.prog) (w := w.alloc (.cells (f x).toArray E)) base T ty E i0 _ k by' h0.und hi hz0 hz1 hz2 hz4 h0.pos v l.length (l.flatMap f) (World.ownsRow.alloc hb _) ⟨w.heap.size, 0, none⟩ 1 1 (f x) (by simp [h0.len]) (World.news_of_block (heap_alloc_new w _)) (by simpa using h0.one [x]) (by unfold maxLen; omega) hby (by simp; omega)
  refine ⟨v', w', hr, ?_, alloc_before h3, ?_⟩
  · unfold OwnE
    rw [List.length_append, List.flatMap_append]
    simpa using h2
  · intro j hj
    rcases h5 with h5 | h5
    · exact .inl (h5 ▸ hj)
    · rw [h5] at hj
      cases hj
      exact .inr (by simp)
theorem step_put_lies (h0 : El k f E T) {ops : Array Oper} {o : Oper} {a : Act} {K : Act → World → Prop} {Q : Exit → Act → World → Prop} {Z : Prop} {w : World} {base : Nat} {v : Value} {l : List α} (x : α) (hgd : o.guard = none) (s y : Operand)
    (ho : o.op = .call { callee := .builtin .append, args := #[s, y], argTypes := #[T, T] }) (hb : OwnE k f E w base v l) (hbase : base ≤ w.heap.size) (hl : l.length ≤ 900000) (cs : Array Value) (hcs : cs = (f x).toArray)
    (hs : a.eval s = v) (H : Nat) (hH : w.heap.size = H) (hx : a.eval y = .slice (some ⟨H, 0, none⟩) 1 1)
    (h : ∀ v' w', OwnE k f E w' base v' (l ++ [x]) → w.grownBy w' v.ownBlock → (∀ j, v'.ownBlock = some j → v.ownBlock = some j ∨ w.heap.size ≤ j) → K (a.put o.dst v') w') :
    if Region.wanted o (yielded ops a.tmps) = true then Oper.wp Try.prog o a (w.alloc (.cells cs E)) K Q else Z := by
  subst hH
  rw [if_pos (by simp [Region.wanted, hgd])]
  obtain ⟨v', w', hr, h2, h3, h4⟩ := run_lies h0 o.type x hb hbase hl cs hcs
  unfold Oper.wp execOp
  simp only [ho, resolve, invoke, builtin, Sem.run_bind, Sem.run_pure, Result.andThen_ok, List.map_toArray, List.map_cons, List.map_nil, hs, hx, hr]
  exact h v' w' h2 h3 h4
theorem put_lies (h0 : El k f E T) {ops : Array Oper} {rest : List Oper} {o : Oper} {a : Act} {Q : Exit → Act → World → Prop} {w : World} {base : Nat} {v : Value} {l : List α} (x : α) (hgd : o.guard = none) (s y : Operand)
    (ho : o.op = .call { callee := .builtin .append, args := #[s, y], argTypes := #[T, T] }) (hb : OwnE k f E w base v l) (hbase : base ≤ w.heap.size) (hl : l.length ≤ 900000) (cs : Array Value) (hcs : cs = (f x).toArray)
    (hs : a.eval s = v) (H : Nat) (hH : w.heap.size = H) (hx : a.eval y = .slice (some ⟨H, 0, none⟩) 1 1)
    (h : ∀ v' w', OwnE k f E w' base v' (l ++ [x]) → w.grownBy w' v.ownBlock → (∀ j, v'.ownBlock = some j → v.ownBlock = some j ∨ w.heap.size ≤ j) → wpList Try.prog ops Q rest (a.put o.dst v') w') :
    wpList Try.prog ops Q (o :: rest) a (w.alloc (.cells cs E)) := by
  subst hH
  refine wpList_plain hgd fun K hK => ?_
  obtain ⟨v', w', hr, h2, h3, h4⟩ := run_lies h0 o.type x hb hbase hl cs hcs
  unfold Oper.wp execOp
  simp only [ho, resolve, invoke, builtin, Sem.run_bind, Sem.run_pure, Result.andThen_ok, List.map_toArray, List.map_cons, List.map_nil, hs, hx, hr]
  exact hK _ _ (h v' w' h2 h3 h4)
end

/-- the program's transaction in block g. -/
structure TxAt (w : World) (g : Nat) (t : Tx) (pv tv : Value) : Prop where
  bx : w.heap[g]? = some (.cells #[.int .i64 t.pub, .int .i64 t.qu, .string ⟨t.key.toArray⟩, pv, tv] 118 (0, 0))
  put : OwnG w 0 pv t.put
  tags : OwnI w 0 tv t.tags
/-- the document's. -/
structure RxAt (w : World) (g : Nat) (t : Tx) (pv tv : Value) : Prop where
  bx : w.heap[g]? = some (.cells #[.int .i64 t.pub, .int .i64 t.qu, .string ⟨t.key.toArray⟩, .bool (decide (0 < t.len)), pv, tv] 71 (0, 0))
  put : OwnG w 0 pv t.put
  tags : OwnI w 0 tv t.tags
theorem TxAt.lt {w : World} {g : Nat} {t : Tx} {pv tv : Value} (h : TxAt w g t pv tv) : g < w.heap.size := (Array.getElem?_eq_some_iff.1 h.bx).1
theorem RxAt.lt {w : World} {g : Nat} {t : Tx} {pv tv : Value} (h : RxAt w g t pv tv) : g < w.heap.size := (Array.getElem?_eq_some_iff.1 h.bx).1
theorem TxAt.kept {bs : List Nat} {w w' : World} {g : Nat} {t : Tx} {pv tv : Value} (h : TxAt w g t pv tv) (hk : Kept bs w w') (hg : g ∉ bs) (hp : ∀ j, pv.ownBlock = some j → j ∉ bs) (ht : ∀ j, tv.ownBlock = some j → j ∉ bs) : TxAt w' g t pv tv :=
  ⟨hk.box h.bx hg, hk.row h.put hp, hk.row h.tags ht⟩
theorem RxAt.kept {bs : List Nat} {w w' : World} {g : Nat} {t : Tx} {pv tv : Value} (h : RxAt w g t pv tv) (hk : Kept bs w w') (hg : g ∉ bs) (hp : ∀ j, pv.ownBlock = some j → j ∉ bs) (ht : ∀ j, tv.ownBlock = some j → j ∉ bs) : RxAt w' g t pv tv :=
  ⟨hk.box h.bx hg, hk.row h.put hp, hk.row h.tags ht⟩
theorem TxAt.below {w w' : World} {g : Nat} {t : Tx} {pv tv : Value} (h : TxAt w g t pv tv) (hb : Below w.heap.size w w') : TxAt w' g t pv tv :=
  h.kept (Kept.of_below hb (bs := [])) (by simp) (by simp) (by simp)
theorem RxAt.below {w w' : World} {g : Nat} {t : Tx} {pv tv : Value} (h : RxAt w g t pv tv) (hb : Below w.heap.size w w') : RxAt w' g t pv tv :=
  h.kept (Kept.of_below hb (bs := [])) (by simp) (by simp) (by simp)
theorem _root_.Go.Proofs.Ythohjcfpobeplaa.Kept.drewN {bs : List Nat} {a w : World} (h : Kept bs a w) (n : Nat) : Kept bs a (w.drewN n) := ⟨h.os, h.tape, h.output, h.size, h.block⟩
/-- what a call on a transaction may write: its box, and one of its rows. -/
def wrt (g : Nat) (v : Value) : List Nat := g :: v.ownBlock.toList
theorem mem_wrt {g j : Nat} {v : Value} : j ∈ wrt g v ↔ j = g ∨ v.ownBlock = some j := by
  unfold wrt; simp
/-- a later row: where the old one was, or in a new block. -/
def Later (w : World) (v v' : Value) : Prop := ∀ j, v'.ownBlock = some j → v.ownBlock = some j ∨ w.heap.size ≤ j
theorem Later.refl (w : World) (v : Value) : Later w v v := fun j h => .inl h
theorem Later.nil (w : World) (v : Value) : Later w v (.slice none 0 0) := fun j h => by cases h

end Go.Proofs.Ythohjcfpobeplaa.Bt

namespace Go.Proofs.Ythohjcfpobeplaa.Bt
open Go.RowKit Rg Sh Go.Sort
set_option linter.unusedVariables false
set_option linter.unusedSimpArgs false

theorem news_bad (p : Int) (h : ¬ (0 ≤ p ∧ p < 4)) (w : World) : Calls Try.prog 46 #[.int .i64 p] w fun e w' => e = .returned (.pointer none) ∧ w = w' := by
  by_cases h0 : 0 ≤ p
  · have h1 : 4 ≤ p := by omega
    have h2 : ¬ p < 0 := by omega
    clear h h0
    go_enter Try.func46, Try.ntmps46
    go_wp2_with fail
    go_ret
    exact ⟨rfl, rfl⟩
  · have h1 : p < 0 := by omega
    clear h h0
    go_enter Try.func46, Try.ntmps46
    go_wp2_with fail
    go_ret
    exact ⟨rfl, rfl⟩
theorem news_any (p : Int) (h : 0 ≤ p ∧ p < 4) (w : World) : Calls Try.prog 46 #[.int .i64 p] w fun e w' => e = .returned (.pointer (some ⟨w.heap.size, 0, none⟩)) ∧ TxAt w' w.heap.size (tx0 p) (.slice none 0 0) (.slice none 0 0) ∧ Below w.heap.size w w' ∧ w'.heap.size = w.heap.size + 1 := by
  have h1 : ¬ p < 0 := by omega
  have h2 : ¬ 4 ≤ p := by omega
  clear h
  go_enter Try.func46, Try.ntmps46
  go_wp2_with fail
  go_ret
  exact ⟨rfl, ⟨heap_alloc_new w _, OwnE.nil _ _ _ _ _, OwnE.nil _ _ _ _ _⟩, (Below.refl _ _).alloc (Nat.le_refl _) _, by simp⟩

theorem maybe_any (q : Int) (k : List UInt8) (w : World) :
    Calls Try.prog 91 #[.int .i64 q, .string ⟨k.toArray⟩] w fun e w' => e = .returned (.bool (decide (MayBe q k))) ∧ w = w' := by
  have hsz : (⟨k.toArray⟩ : ByteArray).size = k.length := rfl
  by_cases h0 : 0 ≤ q
  case neg =>
    rw [decide_eq_false (show ¬ MayBe q k from fun h => h0 h.1)]
    go_enter Try.func91, Try.ntmps91
    go_wp2_with fail
    go_ret
    exact ⟨rfl, rfl⟩
  by_cases h1 : q < 4
  case neg =>
    rw [decide_eq_false (show ¬ MayBe q k from fun h => h1 h.2.1)]
    go_enter Try.func91, Try.ntmps91
    go_wp2_with fail
    go_ret
    exact ⟨rfl, rfl⟩
  by_cases h4 : 1 ≤ k.length
  case neg =>
    rw [decide_eq_false (show ¬ MayBe q k from fun h => h4 h.2.2.1)]
    have h5 : ¬ (1 : Int) ≤ (k.length : Int) := by omega
    go_enter Try.func91, Try.ntmps91
    go_wp2_with fail
    go_ret
    exact ⟨rfl, rfl⟩
  have h5 : (1 : Int) ≤ (k.length : Int) := by omega
  by_cases h6 : k.length ≤ 20
  case neg =>
    rw [decide_eq_false (show ¬ MayBe q k from fun h => h6 h.2.2.2)]
    have h7 : ¬ (k.length : Int) ≤ 20 := by omega
    go_enter Try.func91, Try.ntmps91
    go_wp2_with fail
    go_ret
    exact ⟨rfl, rfl⟩
  rw [decide_eq_true (show MayBe q k from ⟨h0, h1, h4, h6⟩)]
  have h7 : (k.length : Int) ≤ 20 := by omega
  go_enter Try.func91, Try.ntmps91
  go_wp2_with fail
  go_ret
  exact ⟨rfl, rfl⟩

theorem len_nil (w : World) : Calls Try.prog 54 #[.pointer none] w fun e w' => e = .returned (.int .i64 0) ∧ w = w' := by
  go_enter Try.func54, Try.ntmps54
  go_wp2_with fail
  go_ret
  exact ⟨rfl, rfl⟩
theorem tx_form {w : World} {g : Nat} {t : Tx} {pv tv : Value} (h : TxAt w g t pv tv) : ∃ pa pc ta tc, pv = .slice pa t.put.length pc ∧ tv = .slice ta t.tags.length tc ∧ MgsAt w pa pc t.put ∧ InsAt w ta tc t.tags ∧ (pa = none → pc = 0) ∧ (ta = none → tc = 0) := by
  obtain ⟨pa, pc, h1, h2, h3⟩ := OwnE.at mgE h.put
  obtain ⟨ta, tc, h4, h5, h6⟩ := OwnE.at inE h.tags
  exact ⟨pa, pc, ta, tc, h1, h4, h2, h5, h3, h6⟩
theorem rx_form {w : World} {g : Nat} {t : Tx} {pv tv : Value} (h : RxAt w g t pv tv) : ∃ pa pc ta tc, pv = .slice pa t.put.length pc ∧ tv = .slice ta t.tags.length tc ∧ MgsAt w pa pc t.put ∧ InsAt w ta tc t.tags ∧ (pa = none → pc = 0) ∧ (ta = none → tc = 0) := by
  obtain ⟨pa, pc, h1, h2, h3⟩ := OwnE.at mgE h.put
  obtain ⟨ta, tc, h4, h5, h6⟩ := OwnE.at inE h.tags
  exact ⟨pa, pc, ta, tc, h1, h4, h2, h5, h3, h6⟩
theorem len_any (g : Nat) (t : Tx) (pv tv : Value) (w : World) (hm : MayTx t) (h : TxAt w g t pv tv) : Calls Try.prog 54 #[.pointer (some ⟨g, 0, none⟩)] w fun e w' => e = .returned (.int .i64 t.len) ∧ Drew w w' := by
  obtain ⟨pa, pc, ta, tc, rfl, rfl, -, -, -, -⟩ := tx_form h
  obtain ⟨⟨-, -, -, c3, c4⟩, -⟩ := box5 h.bx
  have q1 : IntKind.i64.wrap ((t.put.length : Int) + (t.tags.length : Int)) = (t.len : Int) := by
    rw [IntWalk.i64_in _ (by have := hm.1; have := hm.2.1; omega)]
    unfold Tx.len; omega
  clear h hm
  go_enter Try.func54, Try.ntmps54
  go_wp2_with fail
  go_quiet (fail)
  go_wp2_with fail
  go_ret
  exact ⟨rfl, _, rfl⟩

end Go.Proofs.Ythohjcfpobeplaa.Bt

namespace Go.Proofs.Ythohjcfpobeplaa.Bt
open Go.RowKit Rg Sh Go.Sort
set_option linter.unusedVariables false
set_option linter.unusedSimpArgs false

set_option maxHeartbeats 1000000 in
theorem els_any (g : Nat) (t : Tx) (pv tv : Value) (q : Int) (k : List UInt8) (w : World) (hm : MayTx t) (h : TxAt w g t pv tv) :
    Calls Try.prog 92 #[.pointer (some ⟨g, 0, none⟩), .int .i64 q, .string ⟨k.toArray⟩] w fun e w' => e = .returned (.bool (decide (Els t q k))) ∧ Drew w w' := by
  have HL := Lib.hid (len_any g t pv tv w hm h)
  obtain ⟨⟨-, c1, c2, -, -⟩, -⟩ := box5 h.bx
  clear h hm
  by_cases h0 : 0 < t.len
  case neg =>
    rw [decide_eq_false (show ¬ Els t q k from fun h => h0 h.1)]
    have h1 : ¬ (0 : Int) < (t.len : Int) := by omega
    go_enter Try.func92, Try.ntmps92
    go_wp2_with (go_at_call 54; refine HL.out.mono ?_; rintro e w1 ⟨rfl, hd⟩; have HD := Lib.hid hd; clear hd)
    go_ret
    exact ⟨rfl, HD.out⟩
  have h1 : (0 : Int) < (t.len : Int) := by omega
  by_cases hq : t.qu = q
  · have HQ := Lib.hid hq
    have e1 : (t.qu == q) = true := by simpa using hq
    have e2 : (t.qu != q) = false := by simpa using hq
    clear hq
    by_cases hk : t.key = k
    · rw [decide_eq_false (show ¬ Els t q k from fun h => by rcases h.2 with h | h; exact h HQ.out; exact h hk)]
      have e3 : (t.key == k) = true := by simpa using hk
      have e4 : (t.key != k) = false := by simpa using hk
      clear hk
      go_enter Try.func92, Try.ntmps92
      go_wp2_with (go_at_call 54; refine HL.out.mono ?_; rintro e w1 ⟨rfl, n, rfl⟩)
      go_ret
      exact ⟨rfl, n, rfl⟩
    · rw [decide_eq_true (show Els t q k from ⟨h0, .inr hk⟩)]
      have e3 : (t.key == k) = false := by simpa using hk
      have e4 : (t.key != k) = true := by simpa using hk
      clear hk
      go_enter Try.func92, Try.ntmps92
      go_wp2_with (go_at_call 54; refine HL.out.mono ?_; rintro e w1 ⟨rfl, n, rfl⟩)
      go_ret
      exact ⟨rfl, n, rfl⟩
  · rw [decide_eq_true (show Els t q k from ⟨h0, .inl hq⟩)]
    have e1 : (t.qu == q) = false := by simpa using hq
    have e2 : (t.qu != q) = true := by simpa using hq
    clear hq
    go_enter Try.func92, Try.ntmps92
    go_wp2_with (go_at_call 54; refine HL.out.mono ?_; rintro e w1 ⟨rfl, n, rfl⟩)
    go_ret
    exact ⟨rfl, n, rfl⟩

theorem box6d {w : World} {g : Nat} {x y z u v s : Value} {t : TypeId} (h : w.heap[g]? = some (.cells #[x, y, z, u, v, s] t (0, 0))) :
    (w.cell? ⟨g, 0, none⟩ = some x ∧ w.cell? ⟨g, 1, none⟩ = some y ∧ w.cell? ⟨g, 2, none⟩ = some z ∧ w.cell? ⟨g, 3, none⟩ = some u ∧ w.cell? ⟨g, 4, none⟩ = some v ∧ w.cell? ⟨g, 5, none⟩ = some s) ∧
    w.frozen? ⟨g, 0, none⟩ = false ∧ w.frozen? ⟨g, 1, none⟩ = false ∧ w.frozen? ⟨g, 2, none⟩ = false ∧ w.frozen? ⟨g, 3, none⟩ = false ∧ w.frozen? ⟨g, 4, none⟩ = false ∧ w.frozen? ⟨g, 5, none⟩ = false := by
  refine ⟨⟨?_, ?_, ?_, ?_, ?_, ?_⟩, ?_, ?_, ?_, ?_, ?_, ?_⟩
  all_goals first | (rw [cell_of_row w _ _ _ _ _ h]; rfl) | simp [World.frozen?, h]
set_option maxHeartbeats 1000000 in
theorem other_any (g : Nat) (t : Tx) (pv tv : Value) (q : Int) (k : List UInt8) (w : World) (h : RxAt w g t pv tv) :
    Calls Try.prog 93 #[.pointer (some ⟨g, 0, none⟩), .int .i64 q, .string ⟨k.toArray⟩] w fun e w' => e = .returned (.bool (decide (Els t q k))) ∧ w = w' := by
  obtain ⟨⟨-, c1, c2, c3, -, -⟩, -⟩ := box6d h.bx
  clear h
  by_cases h0 : 0 < t.len
  case neg =>
    rw [decide_eq_false (show ¬ Els t q k from fun h => h0 h.1)]
    rw [decide_eq_false h0] at c3
    clear h0
    go_enter Try.func93, Try.ntmps93
    go_wp2_with fail
    go_ret
    exact ⟨rfl, rfl⟩
  rw [decide_eq_true h0] at c3
  by_cases hq : t.qu = q
  · have HQ := Lib.hid hq
    have e1 : (t.qu == q) = true := by simpa using hq
    have e2 : (t.qu != q) = false := by simpa using hq
    clear hq
    by_cases hk : t.key = k
    · rw [decide_eq_false (show ¬ Els t q k from fun h => by rcases h.2 with h | h; exact h HQ.out; exact h hk)]
      have e3 : (t.key == k) = true := by simpa using hk
      have e4 : (t.key != k) = false := by simpa using hk
      clear hk
      go_enter Try.func93, Try.ntmps93
      go_wp2_with fail
      go_ret
      exact ⟨rfl, rfl⟩
    · rw [decide_eq_true (show Els t q k from ⟨h0, .inr hk⟩)]
      have e3 : (t.key == k) = false := by simpa using hk
      have e4 : (t.key != k) = true := by simpa using hk
      clear hk
      go_enter Try.func93, Try.ntmps93
      go_wp2_with fail
      go_ret
      exact ⟨rfl, rfl⟩
  · rw [decide_eq_true (show Els t q k from ⟨h0, .inl hq⟩)]
    have e1 : (t.qu == q) = false := by simpa using hq
    have e2 : (t.qu != q) = true := by simpa using hq
    clear hq
    go_enter Try.func93, Try.ntmps93
    go_wp2_with fail
    go_ret
    exact ⟨rfl, rfl⟩

def idxF (l : List Int) (x : Int) : Int := match l.findIdx? (fun y => decide (y = x)) with | none => -1 | some i => (i : Int)
theorem idx_not {l : List Int} {x : Int} (h : ∀ j (hj : j < l.length), ¬ l[j] = x) : idxF l x = -1 ∧ ¬ x ∈ l := by
  refine ⟨?_, fun hx => ?_⟩
  · unfold idxF
    rw [find_not fun j hj => by simpa using h j hj]
  · obtain ⟨j, hj, he⟩ := List.getElem_of_mem hx
    exact h j hj he
theorem idx_yes {l : List Int} {x : Int} {i : Nat} (hi : i < l.length) (hx : l[i] = x) (h : ∀ j (hj : j < i), ¬ l[j]'(by omega) = x) : idxF l x = (i : Int) ∧ x ∈ l := by
  refine ⟨?_, hx ▸ List.getElem_mem hi⟩
  unfold idxF
  rw [find_first hi (by simpa using hx) fun j hj => by simpa using h j hj]
def idxRel (a : Option Addr) (cap : Nat) (l : List Int) (x : Int) (w : World) (m : Nat) (v8 : Value) (wr : World) : Prop :=
  ∃ i : Nat, i ≤ l.length ∧ m = l.length - i ∧ v8 = .int .i64 i ∧ (∀ j (hj : j < l.length), j < i → ¬ l[j] = x) ∧ w = wr
set_option maxRecDepth 100000 in
set_option maxHeartbeats 2000000 in
theorem index_any (a : Option Addr) (cap : Nat) (l : List Int) (x : Int) (w : World) (hf : InsAt w a cap l) :
    Calls Try.prog 116 #[.slice a l.length cap, .int .i64 x] w fun e w' => e = .returned (.int .i64 (idxF l x)) ∧ w = w' := by
  have HF := Lib.hid hf
  have hcap := hf.max
  have hlen := hf.len
  unfold maxLen at hcap
  clear hf
  go_enter Try.func116, Try.ntmps116
  go_wp2_with fail
  go_loopg [8] l.length (idxRel a cap l x w)
  case atStart => exact ⟨0, by omega, by omega, rfl, fun j hj h => by omega, rfl⟩
  case round =>
    obtain ⟨i, hi, rfl, rfl, hno, rfl⟩ := hrel
    have HNO := Lib.hid hno
    clear hno
    by_cases hlt : i < l.length
    · have hlti : (i : Int) < (l.length : Int) := by omega
      have h0i : (0 : Int) ≤ (i : Int) := by omega
      have c4 : IntKind.i64.wrap ((i : Int) + 1) = (i : Int) + 1 := IntWalk.i64_in _ (by omega)
      obtain ⟨b, o, rfl, c0⟩ := InsAt.get HF.out i hlt
      by_cases hp : l[i] = x
      · have HP := Lib.hid (idx_yes hlt hp fun j hj => HNO.out j (by omega) hj)
        have e1 : (x == l[i]) = true := by rw [hp]; simp
        clear hp
        go_wp2_with fail
        go_ret
        exact ⟨by rw [HP.out.1]; rfl, rfl⟩
      · have HP := Lib.hid hp
        have e1 : (x == l[i]) = false := by rw [beq_eq_false_iff_ne]; exact fun h => hp h.symm
        clear hp
        go_wp2_with fail
        go_roundg (l.length - (i + 1))
        case measure => omega
        case rel =>
          refine ⟨i + 1, by omega, rfl, by simp, fun j hj hji => ?_, rfl⟩
          by_cases e : j = i
          · subst e; exact HP.out
          · exact HNO.out j hj (by omega)
    · have hlti : ¬ (i : Int) < (l.length : Int) := by omega
      have HP := Lib.hid (idx_not fun j hj => HNO.out j hj (by omega))
      go_wp2_with fail
      go_ret
      exact ⟨by rw [HP.out.1]; rfl, rfl⟩
theorem contains_any (a : Option Addr) (cap : Nat) (l : List Int) (x : Int) (w : World) (hf : InsAt w a cap l) :
    Calls Try.prog 94 #[.slice a l.length cap, .int .i64 x] w fun e w' => e = .returned (.bool (decide (x ∈ l))) ∧ w = w' := by
  have HI := Lib.hid (index_any a cap l x w hf)
  have hh : (0 ≤ idxF l x ∧ x ∈ l) ∨ (idxF l x < 0 ∧ ¬ x ∈ l) := by
    by_cases h : ∃ j, ∃ hj : j < l.length, l[j] = x
    · refine .inl ⟨?_, ?_⟩
      · obtain ⟨j, hj, he⟩ := h
        unfold idxF
        cases hf : l.findIdx? (fun y => decide (y = x)) with
        | none =>
          rw [List.findIdx?_eq_none_iff] at hf
          have := hf _ (List.getElem_mem hj)
          rw [he] at this
          simp at this
        | some i => simp
      · obtain ⟨j, hj, he⟩ := h
        exact he ▸ List.getElem_mem hj
    · obtain ⟨h1, h2⟩ := idx_not (l := l) (x := x) fun j hj he => h ⟨j, hj, he⟩
      exact .inr ⟨by omega, h2⟩
  generalize idxF l x = n at HI hh
  rcases hh with ⟨h1, h2⟩ | ⟨h1, h2⟩
  · rw [decide_eq_true h2]
    clear h2
    go_enter Try.func94, Try.ntmps94
    go_wp2_with (go_at_call 116; refine HI.out.mono ?_; rintro e w1 ⟨rfl, rfl⟩)
    go_ret
    exact ⟨rfl, rfl⟩
  · rw [decide_eq_false h2]
    have h3 : ¬ 0 ≤ n := by omega
    clear h2
    go_enter Try.func94, Try.ntmps94
    go_wp2_with (go_at_call 116; refine HI.out.mono ?_; rintro e w1 ⟨rfl, rfl⟩)
    go_ret
    exact ⟨ret_bool (decide_eq_false (by omega)), rfl⟩

end Go.Proofs.Ythohjcfpobeplaa.Bt

namespace Go.Proofs.Ythohjcfpobeplaa.Bt
open Go.RowKit Rg Sh Go.Sort
set_option linter.unusedVariables false
set_option linter.unusedSimpArgs false

/-- an answer of Publish: the code, the transaction behind it. -/
def PubR (g : Nat) (t' : Tx) (c : Int) (pv tv : Value) (w : World) (e : Ending) (w' : World) : Prop :=
  e = .returned (.int .i64 c) ∧ ∃ pv', TxAt w' g t' pv' tv ∧ Kept (wrt g pv) w w' ∧ Later w pv pv'
def AckR (g : Nat) (t' : Tx) (c : Int) (pv tv : Value) (w : World) (e : Ending) (w' : World) : Prop :=
  e = .returned (.int .i64 c) ∧ ∃ tv', TxAt w' g t' pv tv' ∧ Kept (wrt g tv) w w' ∧ Later w tv tv'
def RPubR (g : Nat) (t' : Tx) (c : Int) (pv tv : Value) (w : World) (e : Ending) (w' : World) : Prop :=
  e = .returned (.int .i64 c) ∧ ∃ pv', RxAt w' g t' pv' tv ∧ Kept [g] w w' ∧ (pv' = pv ∨ ∀ j, pv'.ownBlock = some j → w.heap.size ≤ j)
def RAckR (g : Nat) (t' : Tx) (c : Int) (pv tv : Value) (w : World) (e : Ending) (w' : World) : Prop :=
  e = .returned (.int .i64 c) ∧ ∃ tv', RxAt w' g t' pv tv' ∧ Kept [g] w w' ∧ (tv' = tv ∨ ∀ j, tv'.ownBlock = some j → w.heap.size ≤ j)
theorem pub_same {w w' : World} {g : Nat} {t : Tx} {pv tv : Value} {c : Int} (h : TxAt w g t pv tv) (hb : Below w.heap.size w w') : PubR g t c pv tv w (.returned (.int .i64 c)) w' :=
  ⟨rfl, pv, h.below hb, Kept.of_below hb, Later.refl _ _⟩
theorem ack_same {w w' : World} {g : Nat} {t : Tx} {pv tv : Value} {c : Int} (h : TxAt w g t pv tv) (hb : Below w.heap.size w w') : AckR g t c pv tv w (.returned (.int .i64 c)) w' :=
  ⟨rfl, tv, h.below hb, Kept.of_below hb, Later.refl _ _⟩
theorem rpub_same {w w' : World} {g : Nat} {t : Tx} {pv tv : Value} {c : Int} (h : RxAt w g t pv tv) (hb : Below w.heap.size w w') : RPubR g t c pv tv w (.returned (.int .i64 c)) w' :=
  ⟨rfl, pv, h.below hb, Kept.of_below hb, .inl rfl⟩
theorem rack_same {w w' : World} {g : Nat} {t : Tx} {pv tv : Value} {c : Int} (h : RxAt w g t pv tv) (hb : Below w.heap.size w w') : RAckR g t c pv tv w (.returned (.int .i64 c)) w' :=
  ⟨rfl, tv, h.below hb, Kept.of_below hb, .inl rfl⟩
/-- a row goes on, its box is written. -/
theorem push_tx {α : Type} {k : Nat} {f : α → List Value} {E : TypeId} {w w' : World} {g i : Nat} {cs : Array Value} {t : TypeId} {fr : Nat × Nat} {v v' : Value} {l l' : List α}
    (hx : w.heap[g]? = some (.cells cs t fr)) (ho : OwnE k f E w 0 v l) (ho' : OwnE k f E w' 0 v' l') (hE : E ≠ t) (hg : w.grownBy w' v.ownBlock) :
    w'.heap[g]? = some (.cells cs t fr) ∧ (w'.setCell ⟨g, i, none⟩ v').heap[g]? = some (.cells (cs.setIfInBounds i v') t fr) ∧ OwnE k f E (w'.setCell ⟨g, i, none⟩ v') 0 v' l' ∧ Kept (wrt g v) w (w'.setCell ⟨g, i, none⟩ v') := by
  have hgl := (Array.getElem?_eq_some_iff.1 hx).1
  have hne : some g ≠ v.ownBlock := fun e => own_box ho hx hE e.symm
  have h1 : w'.heap[g]? = some (.cells cs t fr) := (hg.block g hgl hne).trans hx
  refine ⟨h1, set_heap h1 i _, ?_, ?_⟩
  · exact own_stay ho' fun j hj => Below.heap_setCell w' ⟨g, i, none⟩ _ j (fun e => own_box ho' h1 hE (by rw [hj]; exact congrArg some e))
  · exact ((Kept.refl (wrt g v) w).grown hg (fun j hj => .inl (mem_wrt.2 (.inr hj)))).set (mem_wrt.2 (.inl rfl)) i v'
/-- cells of its box alone are written. -/
theorem set_tx {α : Type} {k : Nat} {f : α → List Value} {E : TypeId} {w : World} {g i : Nat} {cs : Array Value} {t : TypeId} {fr : Nat × Nat} {v u : Value} {l : List α}
    (hx : w.heap[g]? = some (.cells cs t fr)) (ho : OwnE k f E w 0 v l) (hE : E ≠ t) : OwnE k f E (w.setCell ⟨g, i, none⟩ u) 0 v l :=
  own_stay ho fun j hj => Below.heap_setCell w ⟨g, i, none⟩ _ j (fun e => own_box ho hx hE (by rw [hj]; exact congrArg some e))
theorem kept_row {α : Type} {k : Nat} {f : α → List Value} {E : TypeId} {α' : Type} {k' : Nat} {f' : α' → List Value} {E' : TypeId} {w w' : World} {g : Nat} {cs : Array Value} {t : TypeId} {fr : Nat × Nat} {v v' : Value} {l : List α} {l' : List α'}
    (hk : Kept (wrt g v) w w') (hx : w.heap[g]? = some (.cells cs t fr)) (h1 : OwnE k f E w 0 v l) (h2 : OwnE k' f' E' w 0 v' l') (hE : E' ≠ t) (hEE : E' ≠ E) : OwnE k' f' E' w' 0 v' l' :=
  hk.row h2 fun j hj hm => by
    rcases mem_wrt.1 hm with rfl | h
    · exact own_box h2 hx hE hj
    · exact own_apart h2 h1 hEE j hj h

theorem set_two {w2 : World} {g : Nat} {t : Tx} {pv tv : Value} (h : TxAt w2 g t pv tv) (n : Nat) (q : Int) (k : List UInt8) :
    TxAt (((w2.drewN n).setCell ⟨g, 1, none⟩ (.int .i64 q)).setCell ⟨g, 2, none⟩ (.string ⟨k.toArray⟩)) g { t with qu := q, key := k } pv tv ∧ Kept [g] w2 (((w2.drewN n).setCell ⟨g, 1, none⟩ (.int .i64 q)).setCell ⟨g, 2, none⟩ (.string ⟨k.toArray⟩)) := by
  have h0 : TxAt (w2.drewN n) g t pv tv := h.below (Rg.Below.drewN (Below.refl _ _) n)
  have h1 := set_heap h0.bx 1 (.int .i64 q)
  have h2 := set_heap h1 2 (.string ⟨k.toArray⟩)
  exact ⟨⟨h2, set_tx h1 (set_tx h0.bx h0.put (by decide)) (by decide), set_tx h1 (set_tx h0.bx h0.tags (by decide)) (by decide)⟩, (((Kept.refl [g] w2).drewN n).set (by simp) 1 _).set (by simp) 2 _⟩
theorem kept_to {g : Nat} {v : Value} {w W w' : World} (h : Kept [g] w W) (h2 : Kept (wrt g v) W w') : Kept (wrt g v) w w' :=
  (h.mono (fun x hx => by rw [List.mem_singleton] at hx; exact mem_wrt.2 (.inl hx))).trans h2 fun x hx => .inl hx
theorem pub_end {w W w' : World} {g : Nat} {t : Tx} {m : Mg} {pv pv' tv : Value} (hT : TxAt W g t pv tv) (hK : Kept [g] w W) (ho : OwnG w' 0 pv' (t.put ++ [m])) (hg : W.grownBy w' pv.ownBlock) (hl : Later W pv pv') :
    PubR g { t with put := t.put ++ [m] } 0 pv tv w (.returned (.int .i64 0)) (w'.setCell ⟨g, 3, none⟩ pv') := by
  obtain ⟨-, p2, p3, p4⟩ := push_tx (i := 3) hT.bx hT.put ho (by decide) hg
  refine ⟨rfl, pv', ⟨p2, p3, kept_row p4 hT.bx hT.put hT.tags (by decide) (by decide)⟩, kept_to hK p4, fun j hj => ?_⟩
  rcases hl j hj with h | h
  · exact .inl h
  · exact .inr (Nat.le_trans hK.size h)
theorem ack_end {w W w' : World} {g : Nat} {t : Tx} {m : Int} {pv tv tv' : Value} (hT : TxAt W g t pv tv) (hK : Kept [g] w W) (ho : OwnI w' 0 tv' (t.tags ++ [m])) (hg : W.grownBy w' tv.ownBlock) (hl : Later W tv tv') :
    AckR g { t with tags := t.tags ++ [m] } 0 pv tv w (.returned (.int .i64 0)) (w'.setCell ⟨g, 4, none⟩ tv') := by
  obtain ⟨-, p2, p3, p4⟩ := push_tx (i := 4) hT.bx hT.tags ho (by decide) hg
  refine ⟨rfl, tv', ⟨p2, kept_row p4 hT.bx hT.tags hT.put (by decide) (by decide), p3⟩, kept_to hK p4, fun j hj => ?_⟩
  rcases hl j hj with h | h
  · exact .inl h
  · exact .inr (Nat.le_trans hK.size h)

end Go.Proofs.Ythohjcfpobeplaa.Bt
