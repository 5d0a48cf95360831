/-
  Law 14's Log as plain data: the records of steps, and the shard behind them; all of them may be, and the shard is opened from them.
  A slice of records of the call's own, in a block without texts: what is read elsewhere stays when it grows, or when a box without texts is written.
  Law 14's Log, walked.
-/
import Derived.Test.YthohjcfpobeplaaSlMay
import Derived.Test.YthohjcfpobeplaaShStep
import Derived.Test.YthohjcfpobeplaaShKeep
import Derived.Test.YthohjcfpobeplaaKeptW
import Derived.Test.YthohjcfpobeplaaSlRApp
import Derived.Test.YthohjcfpobeplaaShRLast
import Derived.Deep.CutRange
import Derived.Deep.CutBlock
import Derived.Deep.LoopGhost
import Derived.BigRegion

namespace Go.Proofs.Ythohjcfpobeplaa.Sl
open Go.RowKit Rg Sh
set_option linter.unusedVariables false
set_option linter.unusedSimpArgs false

theorem app_may {s : Sd} {r : Rc} (hs : MaySd s) (hr : MayRc r) : MaySd (appS s r) := by
  unfold appS
  by_cases h1 : r.kd = 1
  · rw [if_pos h1]; exact put_may hs _
  rw [if_neg h1]
  by_cases h2 : r.kd = 2
  · rw [if_pos h2]
    split
    · exact hs
    · exact get_may hs
  rw [if_neg h2]
  by_cases h3 : r.kd = 3
  · rw [if_pos h3]; exact ack_may hs _
  rw [if_neg h3]
  by_cases h4 : r.kd = 4
  · rw [if_pos h4]; exact nack_may hs _
  rw [if_neg h4]
  by_cases h5 : r.kd = 5
  · rw [if_pos h5]; exact set_may hs _
  rw [if_neg h5]
  by_cases h6 : r.kd = 6
  · rw [if_pos h6]; exact set_may hs _
  rw [if_neg h6]
  rcases hr.2 with h | h | h | h
  · exact absurd h.1 h1
  · rcases h.1 with h | h | h
    · exact absurd h h2
    · exact absurd h h3
    · exact absurd h h4
  · rcases h.1 with h | h
    · exact absurd h h5
    · exact absurd h h6
  · exact h.2.2.2
def k9 (o : OpD) : Nat := (o.kind % 9).toNat
theorem k9_is (o : OpD) : ((o.kind.tmod 9) + 9).tmod 9 = (k9 o : Int) ∧ k9 o < 9 := by
  unfold k9
  have hr : 0 ≤ o.kind % 9 ∧ o.kind % 9 < 9 := by omega
  have h1 : (o.kind.tmod 9 = o.kind % 9) ∨ (o.kind.tmod 9 = o.kind % 9 - 9 ∧ o.kind % 9 ≠ 0) ∨ (o.kind.tmod 9 = 0 ∧ o.kind % 9 = 0) := by
    by_cases h : 0 ≤ o.kind
    · left; exact Int.tmod_eq_emod_of_nonneg h
    · have h3 := Int.neg_tmod (-o.kind) 9
      rw [Int.neg_neg, Int.tmod_eq_emod_of_nonneg (show 0 ≤ -o.kind by omega)] at h3
      rw [h3]
      omega
  generalize o.kind.tmod 9 = x at *
  generalize o.kind % 9 = y at *
  have h2 : (x + 9).tmod 9 = (x + 9) % 9 := Int.tmod_eq_emod_of_nonneg (by omega)
  rw [h2]
  omega
def tagL (s : Sd) (o : OpD) : Int := if 0 < s.hd.length then ((s.hd[u64m o.n s.hd.length]?).getD hd0).tag else 1
/-- the record of a step. -/
def recF (s : Sd) (o : OpD) : Rc :=
  if k9 o < 3 then ⟨1, 0, false, nextF s o, ⟨false, 0, [], [], []⟩⟩
  else if k9 o < 5 then ⟨2, s.nx, false, [], ⟨false, 0, [], [], []⟩⟩
  else if k9 o = 5 then ⟨3, tagL s o, false, [], ⟨false, 0, [], [], []⟩⟩
  else if k9 o = 6 then ⟨4, tagL s o, false, [], ⟨false, 0, [], [], []⟩⟩
  else if k9 o = 7 then ⟨5, 0, false, [], ⟨false, 0, [], [], []⟩⟩
  else ⟨6, 0, false, [], ⟨false, 0, [], [], []⟩⟩
def logStep (st : List Rc × Sd) (o : OpD) : List Rc × Sd := if appC st.2 (recF st.2 o) = 0 then (st.1 ++ [recF st.2 o], appS st.2 (recF st.2 o)) else st
def logF (l : List OpD) : List Rc × Sd := l.foldl logStep ([], sd1)
theorem log_snoc (l : List OpD) (i : Nat) (h : i < l.length) : logF (l.take (i + 1)) = logStep (logF (l.take i)) l[i] := by
  unfold logF
  rw [List.take_succ_eq_append_getElem h, List.foldl_append]
  rfl
theorem tagL_may {s : Sd} (o : OpD) (hm : MaySd s) : 1 ≤ tagL s o ∧ tagL s o ≤ 1073741824 := by
  unfold tagL
  split
  · rename_i h
    have h2 := (u64_mod o.n s.hd.length h).2
    rw [List.getElem?_eq_getElem h2]
    have := hm.2.2.2.2.2.2.1 _ (List.getElem_mem h2)
    have h3 := hm.2.1
    show 1 ≤ (s.hd[u64m o.n s.hd.length]).tag ∧ (s.hd[u64m o.n s.hd.length]).tag ≤ 1073741824
    omega
  · omega
theorem rec_may {s : Sd} (o : OpD) (hm : MaySd s) (hb : ∀ p k, lastF s.ms p k + 3 ≤ 1073741824) : MayRc (recF s o) ∧ (recF s o).kd ≠ 7 := by
  unfold recF
  split
  · have := next_mayB o hm (hb _ _)
    refine ⟨⟨rfl, .inl ⟨rfl, rfl, rfl, this.1, this.2.1, fun m h => ?_⟩⟩, (by decide : (1 : Int) ≠ 7)⟩
    obtain ⟨i, hi, rfl⟩ := List.getElem_of_mem h
    exact (this.2.2 i hi).1
  · split
    · exact ⟨⟨rfl, .inr (.inl ⟨.inl rfl, hm.1, hm.2.1, rfl, rfl⟩)⟩, (by decide : (2 : Int) ≠ 7)⟩
    · split
      · exact ⟨⟨rfl, .inr (.inl ⟨.inr (.inl rfl), (tagL_may o hm).1, (tagL_may o hm).2, rfl, rfl⟩)⟩, (by decide : (3 : Int) ≠ 7)⟩
      · split
        · exact ⟨⟨rfl, .inr (.inl ⟨.inr (.inr rfl), (tagL_may o hm).1, (tagL_may o hm).2, rfl, rfl⟩)⟩, (by decide : (4 : Int) ≠ 7)⟩
        · split
          · exact ⟨⟨rfl, .inr (.inr (.inl ⟨.inl rfl, rfl, rfl, rfl⟩))⟩, (by decide : (5 : Int) ≠ 7)⟩
          · exact ⟨⟨rfl, .inr (.inr (.inl ⟨.inr rfl, rfl, rfl, rfl⟩))⟩, (by decide : (6 : Int) ≠ 7)⟩
theorem rec_last (s : Sd) (o : OpD) (p : Int) (k : List UInt8) : lastF (appS s (recF s o)).ms p k ≤ lastF s.ms p k + 3 := by
  unfold recF
  split
  · exact put_last s o p k
  · split
    · show lastF (if getC s = 0 ∧ s.nx ≠ s.nx then s else getS s).ms p k ≤ _
      split
      · omega
      · unfold getS; split <;> (show lastF s.ms p k ≤ _; omega)
    · split
      · show lastF (ackS s (tagL s o)).ms p k ≤ _
        unfold ackS; split <;> (show lastF s.ms p k ≤ _; omega)
      · split
        · show lastF (nackS s (tagL s o)).ms p k ≤ _
          unfold nackS; split <;> (show lastF s.ms p k ≤ _; omega)
        · split
          · show lastF (setS s true).ms p k ≤ _
            unfold setS; split <;> (show lastF s.ms p k ≤ _; omega)
          · show lastF (setS s false).ms p k ≤ _
            unfold setS; split <;> (show lastF s.ms p k ≤ _; omega)
/-- what is kept, step by step. -/
structure LogOk (n : Nat) (st : List Rc × Sd) : Prop where
  may : MaySd st.2
  last : ∀ p k, lastF st.2.ms p k ≤ 3 * (n : Int)
  recs : ∀ r ∈ st.1, MayRc r ∧ r.kd ≠ 7
  opens : openF sd1 st.1 = (st.2, 0)
  len : st.1.length ≤ n
theorem log_ok (l : List OpD) (hl : l.length ≤ 100000) : ∀ i, i ≤ l.length → LogOk i (logF (l.take i)) := by
  intro i
  induction i with
  | zero => exact fun _ => ⟨play_may [], fun p k => by show (0 : Int) ≤ _; omega, fun r h => by simp [logF] at h, rfl, Nat.le_refl _⟩
  | succ i ih =>
    intro h
    have h0 := ih (by omega)
    rw [log_snoc l i h]
    generalize logF (l.take i) = st at *
    generalize l[i] = o at *
    obtain ⟨h1, h2⟩ := rec_may o h0.may (fun p k => by have := h0.last p k; omega)
    have h3 := fun p k => rec_last st.2 o p k
    unfold logStep
    by_cases hc : appC st.2 (recF st.2 o) = 0
    · rw [if_pos hc]
      refine ⟨app_may h0.may h1, fun p k => by have := h3 p k; have := h0.last p k; show lastF (appS st.2 (recF st.2 o)).ms p k ≤ _; omega, fun r hr => ?_, ?_, by have := h0.len; show (st.1 ++ [recF st.2 o]).length ≤ _; rw [List.length_append]; simp; omega⟩
      · rcases List.mem_append.1 hr with hr | hr
        · exact h0.recs r hr
        · obtain rfl : r = recF st.2 o := by simpa using hr
          exact ⟨h1, h2⟩
      · show openF sd1 (st.1 ++ [recF st.2 o]) = _
        rw [open_snoc _ (by rw [h0.opens]), h0.opens, if_pos hc]
    · rw [if_neg hc]
      exact ⟨h0.may, fun p k => by have := h0.last p k; omega, h0.recs, h0.opens, by have := h0.len; omega⟩
theorem log_all (l : List OpD) (hl : l.length ≤ 100000) : LogOk l.length (logF l) := by
  have := log_ok l hl l.length (Nat.le_refl _)
  rwa [List.take_length] at this

end Go.Proofs.Ythohjcfpobeplaa.Sl

namespace Go.Proofs.Ythohjcfpobeplaa.Sl
open Go.RowKit Rg Sh
set_option linter.unusedVariables false
set_option linter.unusedSimpArgs false

def isS : Value → Bool
  | .string _ => true
  | _ => false
def NTx (cs : Array Value) : Prop := ∀ u ∈ cs, isS u = false
theorem NTx.no {cs : Array Value} (h : NTx cs) : ∀ (i : Nat) (str : ByteArray), cs[i]? ≠ some (.string str) := by
  intro i str he
  have := h _ (Array.mem_of_getElem? he)
  cases this
theorem nt_zero (n : Nat) : NTx (Builtin.zeroCells #[.int .i64 0, .int .i64 0, .bool false, .slice none 0 0, .bool false, .int .i64 0, .slice none 0 0, .slice none 0 0, .slice none 0 0] n) := by
  intro u hu
  unfold Builtin.zeroCells at hu
  rw [Array.mem_map] at hu
  obtain ⟨i, -, rfl⟩ := hu
  have h : i % 9 < 9 := Nat.mod_lt _ (by decide)
  show isS ((#[.int .i64 0, .int .i64 0, .bool false, .slice none 0 0, .bool false, .int .i64 0, .slice none 0 0, .slice none 0 0, .slice none 0 0] : Array Value)[i % 9]!) = false
  generalize i % 9 = j at h
  match j, h with
  | 0, _ => rfl
  | 1, _ => rfl
  | 2, _ => rfl
  | 3, _ => rfl
  | 4, _ => rfl
  | 5, _ => rfl
  | 6, _ => rfl
  | 7, _ => rfl
  | 8, _ => rfl
  | n + 9, h => omega
theorem nt_rx (x : Rx) : ∀ u ∈ rxC x, isS u = false := by
  intro u hu
  simp only [rxC, List.mem_cons, List.not_mem_nil, or_false] at hu
  rcases hu with rfl | rfl | rfl | rfl | rfl | rfl | rfl | rfl | rfl <;> rfl
theorem nt_rxs (l : List Rx) : ∀ u ∈ l.flatMap rxC, isS u = false := by
  intro u hu
  obtain ⟨e, _, he⟩ := List.mem_flatMap.1 hu
  exact nt_rx e u he
theorem rec_info : ∃ i0, Try.prog.info? 89 = some i0 ∧ i0.zero = some (.agg #[.int .i64 0, .int .i64 0, .bool false, .slice none 0 0, .bool false, .int .i64 0, .slice none 0 0, .slice none 0 0, .slice none 0 0]) ∧ i0.size = 9 ∧ i0.bytes = 136 := by
  obtain ⟨i0, h3, h4, h5, h6⟩ := info_parts (show (Try.prog.info? 89).map (fun i => (i.zero, i.size, i.bytes)) = some (some (.agg #[.int .i64 0, .int .i64 0, .bool false, .slice none 0 0, .bool false, .int .i64 0, .slice none 0 0, .slice none 0 0, .slice none 0 0]), 9, 136) by kernel_rfl)
  exact ⟨i0, h3, h4, h5, h6⟩

structure OwnX (w : World) (base : Nat) (v : Value) (l : List Rx) : Prop where
  own : OwnE 9 rxC 89 w base v l
  nt : ∀ g cs T fz, v.ownBlock = some g → w.heap[g]? = some (.cells cs T fz) → NTx cs
theorem OwnX.nil (w : World) (base : Nat) : OwnX w base (.slice none 0 0) [] := ⟨OwnE.nil _ _ _ _ _, fun g cs T fz h => by cases h⟩
theorem OwnX.stay {w w' : World} {base : Nat} {v : Value} {l : List Rx} (h : OwnX w base v l) (hk : ∀ j, v.ownBlock = some j → w'.heap[j]? = w.heap[j]?) : OwnX w' base v l :=
  ⟨own_stay h.own hk, fun g cs T fz hg hh => h.nt g cs T fz hg ((hk g hg) ▸ hh)⟩
theorem OwnX.below {w w' : World} {base : Nat} {v : Value} {l : List Rx} (h : OwnX w base v l) (hb : Below w.heap.size w w') : OwnX w' base v l :=
  h.stay fun j hj => hb.block j (World.ownsRow.lt h.own j hj).2
theorem run_nt {w : World} {base : Nat} {v : Value} {l : List Rx} (ty : TypeId) (x : Rx) (hb : OwnX w base v l) (hbase : base ≤ w.heap.size) (hl : l.length ≤ 900000) (cs : Array Value) (hcs : cs = (rxC x).toArray) :
    ∃ v' w', (Builtin.append_ #[84, 84] ty #[v, .slice (some ⟨w.heap.size, 0, none⟩) 1 1]).run Try.prog (w.alloc (.cells cs 89)) = .ok v' w' ∧ OwnX w' base v' (l ++ [x]) ∧ w.grownBy w' v.ownBlock := by
  obtain ⟨v', w', hr, h2, h3⟩ := run_one rxE ty x hb.own hbase hl cs hcs
  refine ⟨v', w', hr, ⟨h2, ?_⟩, h3⟩
  subst hcs
  obtain ⟨i0, hi, hz0, hz1, hz2⟩ := rec_info
  have hnews : ∀ j u, (rxC x)[j]? = some u → (w.alloc (.cells (rxC x).toArray 89)).cell? ((⟨w.heap.size, 0, none⟩ : Addr).add j) = some u := World.news_of_block (heap_alloc_new w _)
  rcases hb.own.2 with ⟨rfl, hn⟩ | ⟨g, cap, cur, rfl, hbg, hg, hnc, hcm, hcs', htake⟩
  · have hr2 := run_append_nil (P := Try.prog) (w.alloc (.cells (rxC x).toArray 89)) 84 ty 89 i0 _ rxE.und hi hz0 ⟨w.heap.size, 0, none⟩ 1 1 (rxC x) (by rw [hz1]; rfl) hnews (by omega) (by omega) (by rw [hz2]; omega)
    rw [hr] at hr2
    injection hr2 with e1 e2
    subst e1 e2
    intro g cs T fz hg hh
    injection hg with hg
    subst hg
    have := heap_alloc_new (w.alloc (.cells (rxC x).toArray 89)).drew (.cells ((rxC x).toArray ++ Builtin.zeroCells (Value.agg #[.int .i64 0, .int .i64 0, .bool false, .slice none 0 0, .bool false, .int .i64 0, .slice none 0 0, .slice none 0 0, .slice none 0 0]).cells (grownCap (w.alloc (.cells (rxC x).toArray 89)) 1 0 89 - 1)) 89)
    rw [show (w.alloc (.cells (rxC x).toArray 89)).drew.heap.size = (w.alloc (.cells (rxC x).toArray 89)).heap.size from rfl] at this
    rw [this] at hh
    injection hh with hh
    injection hh with hh
    subst hh
    intro u hu
    rcases Array.mem_append.1 hu with hu | hu
    · exact nt_rx x u (by simpa using hu)
    · exact nt_zero _ u hu
  · have hg1 : (w.alloc (.cells (rxC x).toArray 89)).heap[g]? = some (.cells cur 89 (0, 0)) := (Below.heap_alloc w _ g (Array.getElem?_eq_some_iff.1 hg).1).trans hg
    have hcur : NTx cur := hb.nt g cur _ _ rfl hg
    by_cases hroom : l.length + 1 ≤ cap
    · have hfit : l.length * i0.size + (rxC x).length ≤ cur.size := by rw [hz1, hcs', show (rxC x).length = 9 from rfl]; omega
      have hr2 := run_append_room (P := Try.prog) (w.alloc (.cells (rxC x).toArray 89)) 84 ty 89 i0 rxE.und hi g l.length cap cur hg1 ⟨w.heap.size, 0, none⟩ 1 1 (rxC x) (by rw [hz1]; rfl) hnews (by simpa using rx_one [x]) hroom hfit
      rw [hr] at hr2
      injection hr2 with e1 e2
      subst e1 e2
      intro g' cs T fz hgg hh
      injection hgg with hgg
      subst hgg
      rw [setRow_heap _ _ _ _ _ _ hg1] at hh
      injection hh with hh
      injection hh with hh
      subst hh
      intro u hu
      rw [List.mem_toArray] at hu
      rcases List.mem_append.1 hu with hu | hu
      · rcases List.mem_append.1 hu with hu | hu
        · exact hcur u (Array.mem_toList_iff.1 (List.mem_of_mem_take hu))
        · exact nt_rx x u hu
      · exact hcur u (Array.mem_toList_iff.1 (List.mem_of_mem_drop hu))
    · have holds : ∀ j u, (l.flatMap rxC)[j]? = some u → (w.alloc (.cells (rxC x).toArray 89)).cell? ((⟨g, 0, none⟩ : Addr).add j) = some u := (World.ownsRow.alloc hb.own _).cells (g := g) rfl
      have hr2 := run_append_grow (P := Try.prog) (w.alloc (.cells (rxC x).toArray 89)) 84 ty 89 i0 _ rxE.und hi hz0 ⟨g, 0, none⟩ l.length cap (l.flatMap rxC) (by rw [hz1]; exact hb.own.1) holds ⟨w.heap.size, 0, none⟩ 1 1 (rxC x) (by rw [hz1]; rfl) hnews (by omega) (by omega) (growslice_fits (by omega) (by rw [hz2]; omega))
      rw [hr] at hr2
      injection hr2 with e1 e2
      subst e1 e2
      intro g' cs T fz hgg hh
      injection hgg with hgg
      subst hgg
      have := heap_alloc_new (w.alloc (.cells (rxC x).toArray 89)).drew (.cells ((l.flatMap rxC).toArray ++ (rxC x).toArray ++ Builtin.zeroCells (Value.agg #[.int .i64 0, .int .i64 0, .bool false, .slice none 0 0, .bool false, .int .i64 0, .slice none 0 0, .slice none 0 0, .slice none 0 0]).cells (grownCap (w.alloc (.cells (rxC x).toArray 89)) (l.length + 1) cap 89 - (l.length + 1))) 89)
      rw [show (w.alloc (.cells (rxC x).toArray 89)).drew.heap.size = (w.alloc (.cells (rxC x).toArray 89)).heap.size from rfl] at this
      rw [this] at hh
      injection hh with hh
      injection hh with hh
      subst hh
      intro u hu
      rcases Array.mem_append.1 hu with hu | hu
      · rcases Array.mem_append.1 hu with hu | hu
        · exact nt_rxs l u (by simpa using hu)
        · exact nt_rx x u (by simpa using hu)
      · exact nt_zero _ u hu
theorem put_nt {ops : Array Oper} {rest : List Oper} {o : Oper} {a : Act} {Q : Exit → Act → World → Prop} {w : World} {base : Nat} {v : Value} {l : List Rx} (x : Rx) (hgd : o.guard = none) (s y : Operand)
    (ho : o.op = .call { callee := .builtin .append, args := #[s, y], argTypes := #[84, 84] }) (hb : OwnX w base v l) (hbase : base ≤ w.heap.size) (hl : l.length ≤ 900000) (cs : Array Value) (hcs : cs = (rxC x).toArray)
    (hs : a.eval s = v) (H : Nat) (hH : w.heap.size = H) (hx : a.eval y = .slice (some ⟨H, 0, none⟩) 1 1)
    (h : ∀ v' w', OwnX w' base v' (l ++ [x]) → w.grownBy w' v.ownBlock → wpList Try.prog ops Q rest (a.put o.dst v') w') :
    wpList Try.prog ops Q (o :: rest) a (w.alloc (.cells cs 89)) := by
  subst hH
  refine wpList_plain hgd fun K hK => ?_
  obtain ⟨v', w', hr, h2, h3⟩ := run_nt o.type x hb hbase hl cs hcs
  unfold Oper.wp execOp
  simp only [ho, resolve, invoke, builtin, Sem.run_bind, Sem.run_pure, Result.andThen_ok, List.map_toArray, List.map_cons, List.map_nil, hs, hx, hr]
  exact hK _ _ (h v' w' h2 h3)

/-- rows that hold texts stay, where a block without texts is written. -/
theorem rows_keep2 {α : Type} {k : Nat} {f : α → List Value} (hs : ∀ x, ∃ (r : Nat) (str : ByteArray), (f x)[r]? = some (.string str)) {w w' : World} {a : Option Addr} {cap : Nat} {l : List α} (h : RowsAt k f w a cap l) {o : Option Nat}
    (hn : ∀ g, o = some g → ∀ cs T fz, w.heap[g]? = some (.cells cs T fz) → NTx cs) (hk : w.grownBy w' o) : RowsAt k f w' a cap l := by
  refine ⟨h.len, h.max, fun h0 => ?_⟩
  obtain ⟨b, o', ha, hc⟩ := h.at' h0
  obtain ⟨r, str, hr⟩ := hs l[0]
  have h1 := hc 0 h0 r _ hr
  have hlt := lt_of_cell h1
  have hbg : some b ≠ o := by
    rintro rfl
    cases hob : w.heap[b]? with
    | none => unfold World.cell? at h1; simp [hob] at h1
    | some ob =>
      cases ob with
      | cells cs T fz =>
        rw [cell_of_row w _ _ _ _ _ hob] at h1
        exact (hn b rfl cs T fz hob).no _ _ h1
      | _ => unfold World.cell? at h1; simp [hob] at h1
  exact ⟨b, o', ha, fun i hi r v hv => (World.cell?_of_block (w := w) (a := ⟨b, o' + i * k + r, none⟩) (hk.block b hlt hbg)).trans (hc i hi r v hv)⟩
theorem sd_keep2 {w w' : World} (ra : Option Addr) (rc : Nat) (ha : Option Addr) (hc : Nat) (ma : Option Addr) (mc : Nat) {s : Sd} (h : SdAt w ra rc ha hc ma mc s) {o : Option Nat} (hn : ∀ g, o = some g → ∀ cs T fz, w.heap[g]? = some (.cells cs T fz) → NTx cs) (hk : w.grownBy w' o) : SdAt w' ra rc ha hc ma mc s :=
  ⟨rows_keep2 (fun x => ⟨2, _, rfl⟩) h.rd hn hk, rows_keep2 (fun x => ⟨3, _, rfl⟩) h.hd hn hk, rows_keep2 (fun x => ⟨1, _, rfl⟩) h.ms hn hk, h.nr, h.nh, h.nm, h.sm⟩
theorem rx_keep2 {w w' : World} {x : Rx} (h : RxAt w x) {o : Option Nat} (hn : ∀ g, o = some g → ∀ cs T fz, w.heap[g]? = some (.cells cs T fz) → NTx cs) (hk : w.grownBy w' o) : RxAt w' x :=
  ⟨rows_keep2 (fun x => ⟨2, _, rfl⟩) h.bt hn hk, h.bn, h.bl, sd_keep2 _ _ _ _ _ _ h.sd hn hk⟩

end Go.Proofs.Ythohjcfpobeplaa.Sl

namespace Go.Proofs.Ythohjcfpobeplaa.Sl
open Go.RowKit Rg Sh
set_option linter.unusedVariables false
set_option linter.unusedSimpArgs false

def recCut (s : Sd) (o : OpD) (Wr : World) (h : Nat) (wx : World) : Prop :=
  ∃ (ba : Option Addr) (bc : Nat) (ra : Option Addr) (rc : Nat) (ha : Option Addr) (hc : Nat) (ma : Option Addr) (mc : Nat), Below Wr.heap.size Wr wx ∧ wx.heap[h]? = some (.cells #[.int .i64 (recF s o).kd, .int .i64 (recF s o).tag, .bool (recF s o).back, .slice ba (recF s o).bt.length bc, .bool ((recF s o).sd).fr, .int .i64 ((recF s o).sd).nx, .slice ra ((recF s o).sd).rd.length rc, .slice ha ((recF s o).sd).hd.length hc, .slice ma ((recF s o).sd).ms.length mc] 89 (0, 0)) ∧ RcAt wx ba bc ra rc ha hc ma mc (recF s o)
def logRel (W : World) (l : List OpD) (g : Nat) (m : Nat) (v5 v6 : Value) (wr : World) : Prop :=
  ∃ (i : Nat) (xs : List Rx) (ra2 : Option Addr) (rc2 : Nat) (ha2 : Option Addr) (hc2 : Nat) (ma2 : Option Addr) (mc2 : Nat), i ≤ l.length ∧ v6 = .int .i64 i ∧ m = l.length - i ∧ Below W.heap.size W wr ∧ wr.heap[W.heap.size]? = some (.cells #[.bool false, .int .i64 0, .slice none 0 0, .slice none 0 0, .slice none 0 0] 26 (0, 0)) ∧
    Bx wr g ra2 rc2 ha2 hc2 ma2 mc2 (logF (l.take i)).2 ∧ OwnX wr W.heap.size v5 xs ∧ (∀ x ∈ xs, RxAt wr x) ∧ rcs xs = (logF (l.take i)).1
/-- a record's box is written. -/
def set9 (w : World) (g : Nat) (x0 x1 x2 x3 x4 x5 x6 x7 x8 : Value) : World := ((((((((w.setCell ⟨g, 0, none⟩ x0).setCell ⟨g, 1, none⟩ x1).setCell ⟨g, 2, none⟩ x2).setCell ⟨g, 3, none⟩ x3).setCell ⟨g, 4, none⟩ x4).setCell ⟨g, 5, none⟩ x5).setCell ⟨g, 6, none⟩ x6).setCell ⟨g, 7, none⟩ x7).setCell ⟨g, 8, none⟩ x8
theorem set9_heap (w : World) (g : Nat) (x0 x1 x2 x3 x4 x5 x6 x7 x8 : Value) (b : Nat) (h : b ≠ g) : (set9 w g x0 x1 x2 x3 x4 x5 x6 x7 x8).heap[b]? = w.heap[b]? := by
  unfold set9
  rw [Below.heap_setCell _ _ _ _ h, Below.heap_setCell _ _ _ _ h, Below.heap_setCell _ _ _ _ h, Below.heap_setCell _ _ _ _ h, Below.heap_setCell _ _ _ _ h, Below.heap_setCell _ _ _ _ h, Below.heap_setCell _ _ _ _ h, Below.heap_setCell _ _ _ _ h, Below.heap_setCell _ _ _ _ h]
theorem set9_below {B : Nat} {a w : World} (h : Below B a w) {g : Nat} (hg : B ≤ g) (x0 x1 x2 x3 x4 x5 x6 x7 x8 : Value) : Below B a (set9 w g x0 x1 x2 x3 x4 x5 x6 x7 x8) := by
  unfold set9
  exact ((((((((h.setCell (p := ⟨g, 0, none⟩) hg _).setCell (p := ⟨g, 1, none⟩) hg _).setCell (p := ⟨g, 2, none⟩) hg _).setCell (p := ⟨g, 3, none⟩) hg _).setCell (p := ⟨g, 4, none⟩) hg _).setCell (p := ⟨g, 5, none⟩) hg _).setCell (p := ⟨g, 6, none⟩) hg _).setCell (p := ⟨g, 7, none⟩) hg _).setCell (p := ⟨g, 8, none⟩) hg _
theorem set9_box {w : World} {g : Nat} {y0 y1 y2 y3 y4 y5 y6 y7 y8 : Value} {t : TypeId} (h : w.heap[g]? = some (.cells #[y0, y1, y2, y3, y4, y5, y6, y7, y8] t (0, 0))) (x0 x1 x2 x3 x4 x5 x6 x7 x8 : Value) : (set9 w g x0 x1 x2 x3 x4 x5 x6 x7 x8).heap[g]? = some (.cells #[x0, x1, x2, x3, x4, x5, x6, x7, x8] t (0, 0)) := by
  unfold set9
  have h0 : (w.setCell ⟨g, 0, none⟩ x0).heap[g]? = some (.cells #[x0, y1, y2, y3, y4, y5, y6, y7, y8] t (0, 0)) := set_heap h 0 x0
  have h1 : ((w.setCell ⟨g, 0, none⟩ x0).setCell ⟨g, 1, none⟩ x1).heap[g]? = some (.cells #[x0, x1, y2, y3, y4, y5, y6, y7, y8] t (0, 0)) := set_heap h0 1 x1
  have h2 : (((w.setCell ⟨g, 0, none⟩ x0).setCell ⟨g, 1, none⟩ x1).setCell ⟨g, 2, none⟩ x2).heap[g]? = some (.cells #[x0, x1, x2, y3, y4, y5, y6, y7, y8] t (0, 0)) := set_heap h1 2 x2
  have h3 : ((((w.setCell ⟨g, 0, none⟩ x0).setCell ⟨g, 1, none⟩ x1).setCell ⟨g, 2, none⟩ x2).setCell ⟨g, 3, none⟩ x3).heap[g]? = some (.cells #[x0, x1, x2, x3, y4, y5, y6, y7, y8] t (0, 0)) := set_heap h2 3 x3
  have h4 : (((((w.setCell ⟨g, 0, none⟩ x0).setCell ⟨g, 1, none⟩ x1).setCell ⟨g, 2, none⟩ x2).setCell ⟨g, 3, none⟩ x3).setCell ⟨g, 4, none⟩ x4).heap[g]? = some (.cells #[x0, x1, x2, x3, x4, y5, y6, y7, y8] t (0, 0)) := set_heap h3 4 x4
  have h5 : ((((((w.setCell ⟨g, 0, none⟩ x0).setCell ⟨g, 1, none⟩ x1).setCell ⟨g, 2, none⟩ x2).setCell ⟨g, 3, none⟩ x3).setCell ⟨g, 4, none⟩ x4).setCell ⟨g, 5, none⟩ x5).heap[g]? = some (.cells #[x0, x1, x2, x3, x4, x5, y6, y7, y8] t (0, 0)) := set_heap h4 5 x5
  have h6 : (((((((w.setCell ⟨g, 0, none⟩ x0).setCell ⟨g, 1, none⟩ x1).setCell ⟨g, 2, none⟩ x2).setCell ⟨g, 3, none⟩ x3).setCell ⟨g, 4, none⟩ x4).setCell ⟨g, 5, none⟩ x5).setCell ⟨g, 6, none⟩ x6).heap[g]? = some (.cells #[x0, x1, x2, x3, x4, x5, x6, y7, y8] t (0, 0)) := set_heap h5 6 x6
  have h7 : ((((((((w.setCell ⟨g, 0, none⟩ x0).setCell ⟨g, 1, none⟩ x1).setCell ⟨g, 2, none⟩ x2).setCell ⟨g, 3, none⟩ x3).setCell ⟨g, 4, none⟩ x4).setCell ⟨g, 5, none⟩ x5).setCell ⟨g, 6, none⟩ x6).setCell ⟨g, 7, none⟩ x7).heap[g]? = some (.cells #[x0, x1, x2, x3, x4, x5, x6, x7, y8] t (0, 0)) := set_heap h6 7 x7
  have h8 : (((((((((w.setCell ⟨g, 0, none⟩ x0).setCell ⟨g, 1, none⟩ x1).setCell ⟨g, 2, none⟩ x2).setCell ⟨g, 3, none⟩ x3).setCell ⟨g, 4, none⟩ x4).setCell ⟨g, 5, none⟩ x5).setCell ⟨g, 6, none⟩ x6).setCell ⟨g, 7, none⟩ x7).setCell ⟨g, 8, none⟩ x8).heap[g]? = some (.cells #[x0, x1, x2, x3, x4, x5, x6, x7, x8] t (0, 0)) := set_heap h7 8 x8
  exact h8
theorem set9_size (w : World) (g : Nat) (x0 x1 x2 x3 x4 x5 x6 x7 x8 : Value) : (set9 w g x0 x1 x2 x3 x4 x5 x6 x7 x8).heap.size = w.heap.size := by
  unfold set9; simp
/-- rows of messages stay, where a record's box is written. -/
theorem nt_rec (r : Rc) (ba : Option Addr) (bc : Nat) (ra : Option Addr) (rc : Nat) (ha : Option Addr) (hc : Nat) (ma : Option Addr) (mc : Nat) : NTx #[.int .i64 r.kd, .int .i64 r.tag, .bool r.back, .slice ba r.bt.length bc, .bool r.sd.fr, .int .i64 r.sd.nx, .slice ra r.sd.rd.length rc, .slice ha r.sd.hd.length hc, .slice ma r.sd.ms.length mc] := by
  intro u hu
  simp only [List.mem_toArray, List.mem_cons, List.not_mem_nil, or_false] at hu
  rcases hu with rfl | rfl | rfl | rfl | rfl | rfl | rfl | rfl | rfl <;> rfl
theorem mgs_nil' (w : World) (r : Rc) (hb : r.bt = []) (hs : r.sd = ⟨false, 0, [], [], []⟩) : RcAt w none 0 none 0 none 0 none 0 r := by
  obtain ⟨kd, tag, back, bt, sd⟩ := r
  obtain rfl : bt = [] := hb
  obtain rfl : sd = ⟨false, 0, [], [], []⟩ := hs
  exact ⟨mgs_nil w, fun _ => rfl, Nat.zero_le _, sd_zero w⟩
theorem rx_keep {w w' : World} {x : Rx} (h : RxAt w x) {g : Nat} {b0 : Bool} {n0 : Int} {a1 : Option Addr} {l1 c1 : Nat} {a2 : Option Addr} {l2 c2 : Nat} {a3 : Option Addr} {l3 c3 : Nat} {T : TypeId} {fz : Nat × Nat} (hg : w.heap[g]? = some (.cells #[.bool b0, .int .i64 n0, .slice a1 l1 c1, .slice a2 l2 c2, .slice a3 l3 c3] T fz)) (hk : ∀ b, b ≠ g → w'.heap[b]? = w.heap[b]?) : RxAt w' x :=
  ⟨rows_keep (fun x => ⟨2, _, rfl⟩) h.bt hg (box_no_text _ _ _ _ _ _ _ _ _ _ _) hk, h.bn, h.bl, sd_keep _ _ _ _ _ _ h.sd hg hk⟩
theorem res_ls {fn : Func} {i j : Tmp} {tmps : Array Value} {g : Nat} {c x y z u v : Value} {w : World} (hr : fn.results = #[.tmp j, .cell i 26]) (hi : tmps.getD i undef = .pointer (some ⟨g, 0, none⟩)) (hj : tmps.getD j undef = c)
    (h : w.heap[g]? = some (.cells #[x, y, z, u, v] 26 (0, 0))) : (results fn tmps).run Try.prog w = .ok (.tuple #[c, .agg #[x, y, z, u, v]]) w := by
  have hl := load_sd h
  unfold results
  rw [hr]
  rw [Array.getD_eq_getD_getElem?] at hi hj
  obtain ⟨⟨c0, c1, c2, c3, c4⟩, -⟩ := box5 h
  simp [go_sem, hi, hj, *]
def LogR (l : List OpD) (w : World) (e : Ending) (w' : World) : Prop :=
  ∃ (xs : List Rx) (a : Option Addr) (cap : Nat) (ra : Option Addr) (rc : Nat) (ha : Option Addr) (hc : Nat) (ma : Option Addr) (mc : Nat), e = .returned (.tuple #[.slice a xs.length cap, .agg #[.bool ((logF l).2).fr, .int .i64 ((logF l).2).nx, .slice ra ((logF l).2).rd.length rc, .slice ha ((logF l).2).hd.length hc, .slice ma ((logF l).2).ms.length mc]]) ∧ RlAt w' a cap xs ∧ rcs xs = (logF l).1 ∧ SdAt w' ra rc ha hc ma mc (logF l).2 ∧ Below w.heap.size w w'

set_option maxRecDepth 100000 in
set_option maxHeartbeats 8000000 in
theorem log_any (a : Option Addr) (cap : Nat) (l : List OpD) (w : World) (w0 : OpsAt w a cap l) (hl9 : l.length ≤ 100) :
    Calls Try.prog 58 #[.slice a l.length cap] w (LogR l w) := by
  obtain ⟨hx, hb0, hWs⟩ := one_box (w := w) (.cells #[.bool false, .int .i64 0, .slice none 0 0, .slice none 0 0, .slice none 0 0] 26)
  have HO := Lib.hid w0
  have hcap := w0.max
  have hlen := w0.len
  have HX0 := Lib.hid hx
  have HB0 := Lib.hid hb0
  have HWS := Lib.hid hWs
  clear w0 hx hb0 hWs
  go_enter Try.func58, Try.ntmps58
  go_wp2_with (go_at_call 39; refine (rnew_any _).mono ?_; rintro e w1 ⟨rfl, hb1⟩; have HB1 := Lib.hid hb1; clear hb1)
  have hs1 := HB1.out.size
  rw [HWS.out] at hs1
  have hb2 : Below w.heap.size w w1 := HB0.out.trans (HB1.out.mono HB0.out.size)
  have p1 := box_al (box_bl HX0.out HB1.out) (.cells #[.bool false, .int .i64 1, .slice none 0 0, .slice none 0 0, .slice none 0 0] 26)
  have p2 := heap_alloc_new w1 (.cells #[.bool false, .int .i64 1, .slice none 0 0, .slice none 0 0, .slice none 0 0] 26)
  have p3 := hb2.alloc hb2.size (.cells #[.bool false, .int .i64 1, .slice none 0 0, .slice none 0 0, .slice none 0 0] 26)
  generalize w1.alloc (.cells #[.bool false, .int .i64 1, .slice none 0 0, .slice none 0 0, .slice none 0 0] 26) = W3 at *
  have HC := Lib.hid (And.intro p1 (And.intro p2 p3))
  have hgn : w.heap.size < w1.heap.size := by omega
  clear p1 p2 p3 hb2 hs1 HB1
  generalize w1.heap.size = g at *
  go_loopg [5, 6] l.length (logRel w l g)
  case atStart => exact ⟨0, [], none, 0, none, 0, none, 0, Nat.zero_le _, rfl, rfl, HC.out.2.2, HC.out.1, ⟨HC.out.2.1, sd_nil _⟩, OwnX.nil _ _, fun x hx => (by simp at hx), rfl⟩
  case round =>
    obtain ⟨i, xs, ra2, rc2, ha2, hc2, ma2, mc2, hi, rfl, rfl, hb, hz, hx, ho, hxs, hrc⟩ := hrel
    have HB := Lib.hid hb
    have HZ := Lib.hid hz
    have HX := Lib.hid hx
    have HOX := Lib.hid ho
    have HXS := Lib.hid hxs
    have HRC := Lib.hid hrc
    have hg0 := (box_lt hx.bx).1
    clear hb hz hx ho hxs hrc HC
    by_cases hlt : i < l.length
    · have hlti : (i : Int) < (l.length : Int) := by omega
      have h0i : (0 : Int) ≤ (i : Int) := by omega
      have h4 : IntKind.i64.wrap ((i : Int) + 1) = (i : Int) + 1 := IntWalk.i64_in _ (by omega)
      have HPS := Lib.hid (log_snoc l i hlt)
      have hok := log_ok l (by omega) i (by omega)
      have HMS := Lib.hid hok.may
      have HMR := Lib.hid (rec_may l[i] hok.may (fun p k => by have := hok.last p k; omega)).1
      have hxl : xs.length ≤ 1000 := by
        have h1 := hok.len
        rw [← HRC.out] at h1
        simp only [rcs, List.length_map] at h1
        omega
      clear hok
      obtain ⟨bb, oo, haa, hcc⟩ := (HO.out.below HB.out).at' (by omega)
      subst haa
      obtain ⟨ao, co, ⟨c0, c1, c2, c3, c4, c5⟩, hop⟩ := hcc i hlt
      have HOP := Lib.hid hop
      clear hcc hop
      generalize l[i] = o at *
      generalize logF (l.take i) = st at *
      obtain ⟨rs, s⟩ := st
      dsimp only at HX HMS HMR HRC
      have nb1 := lt_of_cell c0
      have nb2 : ¬ bb = wr.heap.size := by omega
      go_upto_region 9 with fail
      clear nb1 nb2
      obtain ⟨p1, p2, p3, p4⟩ := two_box (w := wr) (.cells #[.int .i64 0, .int .i64 0, .bool false, .slice none 0 0, .bool false, .int .i64 0, .slice none 0 0, .slice none 0 0, .slice none 0 0] 89) (.cells #[.int .i64 o.kind, .int .i64 o.pub, .int .i64 o.key, .int .i64 o.many, .int .i64 o.n, .slice ao o.l.length co] 48)
      generalize (wr.alloc (.cells #[.int .i64 0, .int .i64 0, .bool false, .slice none 0 0, .bool false, .int .i64 0, .slice none 0 0, .slice none 0 0, .slice none 0 0] 89)).alloc (.cells #[.int .i64 o.kind, .int .i64 o.pub, .int .i64 o.key, .int .i64 o.many, .int .i64 o.n, .slice ao o.l.length co] 48) = W1 at *
      have HR1 := Lib.hid p1
      have HO1 := Lib.hid p2
      have HB1 := Lib.hid p3
      have hws1 := p4
      have HX1 := Lib.hid (HX.out.below _ _ _ _ _ _ p3)
      have HOP1 := Lib.hid (HOP.out.below p3)
      clear p1 p2 p3 p4 c0 c1 c2 c3 c4 c5
      obtain ⟨⟨a0, a1, a2, a3, a4⟩, -⟩ := box5 HX1.out.bx
      obtain ⟨⟨c0, c1, c2, c3, c4, c5⟩, -⟩ := box6 HO1.out
      have hsm := HX.out.sd.sm.2.1
      have mixed : Try.prog.follows .mixedOrders = true := by kernel_rfl
      go_upto_if 28 with fail
      go_cut [9] from 14 to 88 (fun v9 wx => v9 = .int .i64 (tagL s o) ∧ Below W1.heap.size W1 wx)
      case first =>
        by_cases hP : 0 < s.hd.length
        · have h0i : (0 : Int) < (s.hd.length : Int) := by omega
          obtain ⟨hn1, hn2⟩ := u64_mod o.n s.hd.length hP
          have HR : Hid (tagL s o = (s.hd[u64m o.n s.hd.length]'hn2).tag) := Lib.hid (by unfold tagL; rw [if_pos hP, List.getElem?_eq_getElem hn2]; rfl)
          have hul : IntKind.u64.wrap (s.hd.length : Int) = (s.hd.length : Int) := by rw [IntKind.wrap_u64]; omega
          generalize u64m o.n s.hd.length = j at *
          have wj : IntKind.i64.wrap (j : Int) = (j : Int) := IntWalk.i64_in _ (by omega)
          have hji : (j : Int) < (s.hd.length : Int) := by omega
          have h0j : (0 : Int) ≤ (j : Int) := by omega
          have hz0 : ¬ (s.hd.length : Int) = 0 := by omega
          have hz1 : ((s.hd.length : Int) == 0) = false := by rw [beq_eq_false_iff_ne]; omega
          obtain ⟨bh, oh, hha, d0, -⟩ := HdsAt.get HX1.out.sd.hd j hn2
          subst hha
          clear hP
          go_wp2_with fail
          go_quiet (fail)
          go_wp2_with fail
          go_meet
          case rel => exact ⟨by rw [HR.out], Below.drewN (Below.refl _ _) _⟩
        · have h0i : ¬ (0 : Int) < (s.hd.length : Int) := by omega
          have HR : Hid (tagL s o = 1) := Lib.hid (if_neg hP)
          clear hP
          go_wp2_with fail
          go_meet
          case rel => exact ⟨by rw [HR.out], Below.refl _ _⟩
      case rest =>
      obtain ⟨rfl, hb⟩ := hcut
      have HB2 := Lib.hid (HB1.out.trans (hb.mono HB1.out.size))
      have HR2 := Lib.hid (box_bl HR1.out hb)
      have HO2 := Lib.hid (box_bl HO1.out hb)
      have HX2 := Lib.hid (HX1.out.below _ _ _ _ _ _ hb)
      have HOP2 := Lib.hid (HOP1.out.below hb)
      have hz2 := hb.size
      clear hb a0 a1 a2 a3 a4 c0 c1 c2 c3 c4 c5 HR1 HO1 HB1 HX1 HOP1
      generalize wc = W2 at *
      obtain ⟨⟨a0, a1, a2, a3, a4⟩, -⟩ := box5 HX2.out.bx
      obtain ⟨⟨c0, c1, c2, c3, c4, c5⟩, -⟩ := box6 HO2.out
      obtain ⟨⟨x0, x1, x2, x3, x4, x5, x6, x7, x8⟩, y0, y1, y2, y3, y4, y5, y6, y7, y8⟩ := box9 HR2.out
      obtain ⟨hk1, hk2⟩ := k9_is o
      have hk3 : IntKind.i64.wrap ((o.kind.tmod 9) + 9) = (o.kind.tmod 9) + 9 := by
        have h1 := Int.tmod_lt_of_pos o.kind (show (0 : Int) < 9 by omega)
        have h2 := Int.lt_tmod_of_pos o.kind (show (0 : Int) < 9 by omega)
        exact IntWalk.i64_in _ (by omega)
      have hk4 : IntKind.i64.wrap (o.kind.tmod 9) = o.kind.tmod 9 := by
        have h1 := Int.tmod_lt_of_pos o.kind (show (0 : Int) < 9 by omega)
        have h2 := Int.lt_tmod_of_pos o.kind (show (0 : Int) < 9 by omega)
        exact IntWalk.i64_in _ (by omega)
      have hk5 : IntKind.i64.wrap (k9 o : Int) = (k9 o : Int) := IntWalk.i64_in _ (by omega)
      have HRF : Hid (recF s o = if k9 o < 3 then ⟨1, 0, false, nextF s o, ⟨false, 0, [], [], []⟩⟩ else if k9 o < 5 then ⟨2, s.nx, false, [], ⟨false, 0, [], [], []⟩⟩ else if k9 o = 5 then ⟨3, tagL s o, false, [], ⟨false, 0, [], [], []⟩⟩ else if k9 o = 6 then ⟨4, tagL s o, false, [], ⟨false, 0, [], [], []⟩⟩ else if k9 o = 7 then ⟨5, 0, false, [], ⟨false, 0, [], [], []⟩⟩ else ⟨6, 0, false, [], ⟨false, 0, [], [], []⟩⟩) := Lib.hid rfl
      go_upto_block 2 with fail
      go_cut [10] from 14 to 88 (fun v10 wx => recCut s o wr wr.heap.size wx)
      case first =>
        by_cases hq0 : k9 o < 3
        · have q0 : (k9 o : Int) < 3 := by omega
          have HR : Hid (recF s o = ⟨1, 0, false, nextF s o, ⟨false, 0, [], [], []⟩⟩) := Lib.hid (by rw [HRF.out, if_pos hq0])
          clear hq0
          go_wp2_with (go_at_call 41; refine (next_any s ra2 rc2 ha2 hc2 ma2 mc2 o ao co HMS.out W2 HX2.out.sd).mono ?_; rintro e w6 ⟨v6, rfl, ho6, hb6⟩; obtain ⟨an, cn, rfl, hr6, hn6⟩ := OwnE.at mgE ho6; have HR6 := Lib.hid hr6; have HN6 := Lib.hid hn6; have HB6 := Lib.hid hb6; have HZ6 := Lib.hid (box_bl HR2.out hb6); obtain ⟨⟨x0, x1, x2, x3, x4, x5, x6, x7, x8⟩, y0, y1, y2, y3, y4, y5, y6, y7, y8⟩ := box9 HZ6.out; clear ho6 hr6 hn6 hb6)
          go_meet
          case rel =>
            unfold recCut
            rw [HR.out]
            refine ⟨an, cn, none, 0, none, 0, none, 0, set9_below (HB2.out.trans (HB6.out.mono HB2.out.size)) (Nat.le_refl _) _ _ _ _ _ _ _ _ _, set9_box HZ6.out _ _ _ _ _ _ _ _ _, ⟨?_, HN6.out, next_le s o, sd_zero _⟩⟩
            exact rows_keep (fun x => ⟨2, _, rfl⟩) HR6.out HZ6.out (nt_rec ⟨0, 0, false, [], ⟨false, 0, [], [], []⟩⟩ none 0 none 0 none 0 none 0).no fun b hb => set9_heap _ _ _ _ _ _ _ _ _ _ _ _ hb
        by_cases hq1 : k9 o < 5
        · have q0 : ¬ (k9 o : Int) < 3 := by omega
          have q1 : (k9 o : Int) < 5 := by omega
          have HR : Hid (recF s o = ⟨2, s.nx, false, [], ⟨false, 0, [], [], []⟩⟩) := Lib.hid (by rw [HRF.out, if_neg hq0, if_pos hq1])
          clear hq0 hq1
          go_wp2_with fail
          go_meet
          case rel =>
            unfold recCut
            rw [HR.out]
            exact ⟨none, 0, none, 0, none, 0, none, 0, set9_below HB2.out (Nat.le_refl _) _ _ _ _ _ _ _ _ _, set9_box HR2.out _ _ _ _ _ _ _ _ _, mgs_nil' _ _ rfl rfl⟩
        by_cases hq2 : k9 o = 5
        · have q0 : ¬ (k9 o : Int) < 3 := by omega
          have q1 : ¬ (k9 o : Int) < 5 := by omega
          have q2 : ((k9 o : Int) == 5) = true := by rw [beq_iff_eq]; omega
          have HR : Hid (recF s o = ⟨3, tagL s o, false, [], ⟨false, 0, [], [], []⟩⟩) := Lib.hid (by rw [HRF.out, if_neg hq0, if_neg hq1, if_pos hq2])
          clear hq0 hq1 hq2
          go_wp2_with fail
          go_meet
          case rel =>
            unfold recCut
            rw [HR.out]
            exact ⟨none, 0, none, 0, none, 0, none, 0, set9_below HB2.out (Nat.le_refl _) _ _ _ _ _ _ _ _ _, set9_box HR2.out _ _ _ _ _ _ _ _ _, mgs_nil' _ _ rfl rfl⟩
        by_cases hq3 : k9 o = 6
        · have q0 : ¬ (k9 o : Int) < 3 := by omega
          have q1 : ¬ (k9 o : Int) < 5 := by omega
          have q2 : ((k9 o : Int) == 5) = false := by rw [beq_eq_false_iff_ne]; omega
          have q3 : ((k9 o : Int) == 6) = true := by rw [beq_iff_eq]; omega
          have HR : Hid (recF s o = ⟨4, tagL s o, false, [], ⟨false, 0, [], [], []⟩⟩) := Lib.hid (by rw [HRF.out, if_neg hq0, if_neg hq1, if_neg hq2, if_pos hq3])
          clear hq0 hq1 hq2 hq3
          go_wp2_with fail
          go_meet
          case rel =>
            unfold recCut
            rw [HR.out]
            exact ⟨none, 0, none, 0, none, 0, none, 0, set9_below HB2.out (Nat.le_refl _) _ _ _ _ _ _ _ _ _, set9_box HR2.out _ _ _ _ _ _ _ _ _, mgs_nil' _ _ rfl rfl⟩
        by_cases hq4 : k9 o = 7
        · have q0 : ¬ (k9 o : Int) < 3 := by omega
          have q1 : ¬ (k9 o : Int) < 5 := by omega
          have q2 : ((k9 o : Int) == 5) = false := by rw [beq_eq_false_iff_ne]; omega
          have q3 : ((k9 o : Int) == 6) = false := by rw [beq_eq_false_iff_ne]; omega
          have q4 : ((k9 o : Int) == 7) = true := by rw [beq_iff_eq]; omega
          have HR : Hid (recF s o = ⟨5, 0, false, [], ⟨false, 0, [], [], []⟩⟩) := Lib.hid (by rw [HRF.out, if_neg hq0, if_neg hq1, if_neg hq2, if_neg hq3, if_pos hq4])
          clear hq0 hq1 hq2 hq3 hq4
          go_wp2_with fail
          go_meet
          case rel =>
            unfold recCut
            rw [HR.out]
            exact ⟨none, 0, none, 0, none, 0, none, 0, set9_below HB2.out (Nat.le_refl _) _ _ _ _ _ _ _ _ _, set9_box HR2.out _ _ _ _ _ _ _ _ _, mgs_nil' _ _ rfl rfl⟩
        have q0 : ¬ (k9 o : Int) < 3 := by omega
        have q1 : ¬ (k9 o : Int) < 5 := by omega
        have q2 : ((k9 o : Int) == 5) = false := by rw [beq_eq_false_iff_ne]; omega
        have q3 : ((k9 o : Int) == 6) = false := by rw [beq_eq_false_iff_ne]; omega
        have q4 : ((k9 o : Int) == 7) = false := by rw [beq_eq_false_iff_ne]; omega
        have HR : Hid (recF s o = ⟨6, 0, false, [], ⟨false, 0, [], [], []⟩⟩) := Lib.hid (by rw [HRF.out, if_neg hq0, if_neg hq1, if_neg hq2, if_neg hq3, if_neg hq4])
        clear hq0 hq1 hq2 hq3 hq4
        go_wp2_with fail
        go_meet
        case rel =>
          unfold recCut
          rw [HR.out]
          exact ⟨none, 0, none, 0, none, 0, none, 0, set9_below HB2.out (Nat.le_refl _) _ _ _ _ _ _ _ _ _, set9_box HR2.out _ _ _ _ _ _ _ _ _, mgs_nil' _ _ rfl rfl⟩
      case rest =>
      obtain ⟨ba, bc, ra, rc, ha, hc, ma, mc, hb, hrx, hra⟩ := hcut
      have HB3 := Lib.hid hb
      have HX3 := Lib.hid (HX.out.below _ _ _ _ _ _ hb)
      have HR3 := Lib.hid hrx
      have HRA := Lib.hid hra
      have hsz3 := hb.size
      clear a0 a1 a2 a3 a4 c0 c1 c2 c3 c4 c5 x0 x1 x2 x3 x4 x5 x6 x7 x8 y0 y1 y2 y3 y4 y5 y6 y7 y8 HB2 HR2 HO2 HX2 HOP2 hz2 hb hrx hra hk1 hk2 hk3 hk4 hk5 HRF hws1
      generalize wc = W3 at *
      have HAP := Lib.hid (rapply_any s ra2 rc2 ha2 hc2 ma2 mc2 (recF s o) ba bc ra rc ha hc ma mc W3 HX3.out.sd HRA.out HMR.out)
      have HST : Hid (logF (l.take (i + 1)) = if appC s (recF s o) = 0 then (rs ++ [recF s o], appS s (recF s o)) else (rs, s)) := Lib.hid HPS.out
      generalize recF s o = r at *
      obtain ⟨⟨a0, a1, a2, a3, a4⟩, b0, b1, b2, b3, b4⟩ := box5 HX3.out.bx
      obtain ⟨⟨x0, x1, x2, x3, x4, x5, x6, x7, x8⟩, y0, y1, y2, y3, y4, y5, y6, y7, y8⟩ := box9 HR3.out
      go_upto_region 24 with (go_at_call 101; refine HAP.out.mono ?_; rintro e w4 ⟨ra3, rc3, ha3, hc3, ma3, mc3, rfl, hs4, hb4⟩; have HS4 := Lib.hid hs4; have HB4 := Lib.hid hb4; clear hs4 hb4)
      have hb5 : Below w4.heap.size w4 (w4.alloc (.cells #[.bool (appS s r).fr, .int .i64 (appS s r).nx, .slice ra3 (appS s r).rd.length rc3, .slice ha3 (appS s r).hd.length hc3, .slice ma3 (appS s r).ms.length mc3] 26)) := (Below.refl _ _).alloc (Nat.le_refl _) _
      have hn5 := heap_alloc_new w4 (.cells #[.bool (appS s r).fr, .int .i64 (appS s r).nx, .slice ra3 (appS s r).rd.length rc3, .slice ha3 (appS s r).hd.length hc3, .slice ma3 (appS s r).ms.length mc3] 26)
      generalize w4.alloc (.cells #[.bool (appS s r).fr, .int .i64 (appS s r).nx, .slice ra3 (appS s r).rd.length rc3, .slice ha3 (appS s r).hd.length hc3, .slice ma3 (appS s r).ms.length mc3] 26) = W5 at *
      have hb35 : Below W3.heap.size W3 W5 := HB4.out.trans (hb5.mono HB4.out.size)
      have HB5 := Lib.hid (HB3.out.trans (hb35.mono HB3.out.size))
      have HS5 := Lib.hid (HS4.out.below _ _ _ _ _ _ hb5)
      have HT5 := Lib.hid hn5
      have HR5 := Lib.hid (box_bl HR3.out hb35)
      have HRA5 := Lib.hid (RcAt.below ba bc ra rc ha hc ma mc HRA.out hb35)
      have HX5 := Lib.hid (HX.out.below _ _ _ _ _ _ HB5.out)
      have HZ5 := Lib.hid (box_bl HZ.out HB5.out)
      have HO5 := Lib.hid (HOX.out.below HB5.out)
      have HXS5 : Hid (∀ x ∈ xs, RxAt W5 x) := Lib.hid fun x hx => (HXS.out x hx).below HB5.out
      have HBW := Lib.hid (HB.out.trans (HB5.out.mono HB.out.size))
      have ht4 : W3.heap.size ≤ w4.heap.size := HB4.out.size
      clear hb5 hn5 hb35 a0 a1 a2 a3 a4 b0 b1 b2 b3 b4 x0 x1 x2 x3 x4 x5 x6 x7 x8 y0 y1 y2 y3 y4 y5 y6 y7 y8 HB4 HS4 HAP HB3 HX3 HR3 HRA
      obtain ⟨⟨a0, a1, a2, a3, a4⟩, b0, b1, b2, b3, b4⟩ := box5 HX5.out.bx
      obtain ⟨⟨d0, d1, d2, d3, d4⟩, -⟩ := box5 HT5.out
      obtain ⟨⟨x0, x1, x2, x3, x4, x5, x6, x7, x8⟩, y0, y1, y2, y3, y4, y5, y6, y7, y8⟩ := box9 HR5.out
      by_cases hc : appC s r = 0
      · have e1 : (appC s r == 0) = true := by rw [beq_iff_eq]; exact hc
        have HSTP : Hid (logF (l.take (i + 1)) = (rs ++ [r], appS s r)) := Lib.hid (by rw [HST.out, if_pos hc])
        clear hc
        generalize w4.heap.size = gt at *
        have m1 : ¬ gt = g := by omega
        have m2 : ¬ wr.heap.size = g := by omega
        have m3 : ¬ g = wr.heap.size := by omega
        go_upto_region 26 with fail
        generalize hE : World.setCell (World.setCell (World.setCell (World.setCell (World.setCell W5 _ _) _ _) _ _) _ _) _ _ = E
        have hE' : set5 W5 g (.bool (appS s r).fr) (.int .i64 (appS s r).nx) (.slice ra3 (appS s r).rd.length rc3) (.slice ha3 (appS s r).hd.length hc3) (.slice ma3 (appS s r).ms.length mc3) = E := hE
        clear hE a0 a1 a2 a3 a4 b0 b1 b2 b3 b4 d0 d1 d2 d3 d4 x0 x1 x2 x3 x4 x5 x6 x7 x8 y0 y1 y2 y3 y4 y5 y6 y7 y8
        have HBE : Hid (Below w.heap.size w E) := Lib.hid (hE' ▸ set5_below HBW.out (by omega) _ _ _ _ _)
        have HGE := Lib.hid (show Bx E g ra3 rc3 ha3 hc3 ma3 mc3 (appS s r) from ⟨hE' ▸ set5_box HX5.out.bx _ _ _ _ _, hE' ▸ sd_keep _ _ _ _ _ _ HS5.out HX5.out.bx fun b hb => set5_heap _ _ _ _ _ _ _ _ hb⟩)
        have HZE : Hid (E.heap[w.heap.size]? = _) := Lib.hid (hE' ▸ (set5_heap _ _ _ _ _ _ _ _ (by omega)).trans HZ5.out)
        have HRE : Hid (E.heap[wr.heap.size]? = _) := Lib.hid (hE' ▸ (set5_heap _ _ _ _ _ _ _ _ m2).trans HR5.out)
        have HRXE : Hid (RxAt E ⟨r, ba, bc, ra, rc, ha, hc, ma, mc⟩) := Lib.hid (rx_keep (x := ⟨r, ba, bc, ra, rc, ha, hc, ma, mc⟩) HRA5.out HX5.out.bx fun b hb => hE' ▸ set5_heap _ _ _ _ _ _ _ _ hb)
        have HXSE : Hid (∀ x ∈ xs, RxAt E x) := Lib.hid fun x hx => rx_keep (HXS5.out x hx) HX5.out.bx fun b hb => hE' ▸ set5_heap _ _ _ _ _ _ _ _ hb
        have HOE : Hid (OwnX E w.heap.size u5 xs) := Lib.hid (HO5.out.stay fun j hj => hE' ▸ set5_heap _ _ _ _ _ _ _ _ fun e => own_box HO5.out.own HX5.out.bx (by decide) (hj.trans (congrArg some e)))
        clear hE'
        obtain ⟨⟨x0, x1, x2, x3, x4, x5, x6, x7, x8⟩, y0, y1, y2, y3, y4, y5, y6, y7, y8⟩ := box9 HRE.out
        go_wp2_with (at_builtin; refine put_nt ⟨r, ba, bc, ra, rc, ha, hc, ma, mc⟩ (w := E) (base := w.heap.size) (l := xs) rfl (.tmp 85) (.tmp 87) rfl HOE.out HBE.out.size (by omega) _ rfl rfl _ rfl rfl ?_; intro v7 w7 ho7 hg7; have HO7 := Lib.hid ho7; have HG7 := Lib.hid hg7; clear ho7 hg7)
        have hng : ∀ g0, u5.ownBlock = some g0 → ∀ cs T fz, E.heap[g0]? = some (.cells cs T fz) → NTx cs := fun g0 h cs T fz hh => HOE.out.nt g0 cs T fz h hh
        have hgg : u5.ownBlock ≠ some g := own_box HOE.out.own HGE.out.bx (by decide)
        have hgz : u5.ownBlock ≠ some w.heap.size := own_box HOE.out.own HZE.out (by decide)
        have HFIN := Lib.hid (And.intro (HOE.out.own.grown HBE.out HG7.out HBE.out.size) (And.intro ((HG7.out.block _ (box_lt HZE.out).1 (Ne.symm hgz)).trans HZE.out) (And.intro (show Bx w7 g ra3 rc3 ha3 hc3 ma3 mc3 (appS s r) from ⟨(HG7.out.block _ (box_lt HGE.out.bx).1 (Ne.symm hgg)).trans HGE.out.bx, sd_keep2 _ _ _ _ _ _ HGE.out.sd hng HG7.out⟩) (show ∀ x ∈ xs ++ [⟨r, ba, bc, ra, rc, ha, hc, ma, mc⟩], RxAt w7 x from fun x hx => by
          rcases List.mem_append.1 hx with hx | hx
          · exact rx_keep2 (HXSE.out x hx) hng HG7.out
          · obtain rfl : x = ⟨r, ba, bc, ra, rc, ha, hc, ma, mc⟩ := by simpa using hx
            exact rx_keep2 HRXE.out hng HG7.out))))
        clear hng hgg hgz
        go_roundg (l.length - (i + 1))
        case measure => omega
        case rel => exact ⟨i + 1, xs ++ [⟨r, ba, bc, ra, rc, ha, hc, ma, mc⟩], ra3, rc3, ha3, hc3, ma3, mc3, by omega, by go_num, by simp, HFIN.out.1, HFIN.out.2.1, by rw [HSTP.out]; exact HFIN.out.2.2.1, HO7.out, HFIN.out.2.2.2, by rw [HSTP.out, ← HRC.out]; simp [rcs]⟩
      · have e1 : (appC s r == 0) = false := by rw [beq_eq_false_iff_ne]; exact hc
        have HSTP : Hid (logF (l.take (i + 1)) = (rs, s)) := Lib.hid (by rw [HST.out, if_neg hc])
        clear hc
        go_wp2_with fail
        go_roundg (l.length - (i + 1))
        case measure => omega
        case rel => exact ⟨i + 1, xs, ra2, rc2, ha2, hc2, ma2, mc2, by omega, by go_num, by simp, HBW.out, HZ5.out, by rw [HSTP.out]; exact HX5.out, HO5.out, HXS5.out, by rw [HSTP.out]; exact HRC.out⟩
    · obtain rfl : i = l.length := by omega
      rw [List.take_length] at HX HRC
      obtain ⟨⟨a0, a1, a2, a3, a4⟩, -⟩ := box5 HX.out.bx
      obtain ⟨⟨b0, b1, b2, b3, b4⟩, k0, k1, k2, k3, k4⟩ := box5 HZ.out
      have hgw : ¬ g = w.heap.size := by omega
      obtain ⟨av, cv, rfl, hra, hna⟩ := OwnE.at rxE HOX.out.own
      have HFIN : Hid (∀ (x y z u v : Value), RlAt (set5 wr.drew w.heap.size x y z u v) av cv xs ∧ SdAt (set5 wr.drew w.heap.size x y z u v) ra2 rc2 ha2 hc2 ma2 mc2 (logF l).2 ∧ Below w.heap.size w (set5 wr.drew w.heap.size x y z u v)) := Lib.hid fun x y z u v => by
        have hz' : wr.drew.heap[w.heap.size]? = _ := HZ.out
        have hk : ∀ b, b ≠ w.heap.size → (set5 wr.drew w.heap.size x y z u v).heap[b]? = wr.heap[b]? := fun b hb => set5_heap _ _ _ _ _ _ _ _ hb
        have hof := HOX.out.stay (w' := set5 wr.drew w.heap.size x y z u v) fun j hj => hk j fun e => own_box HOX.out.own HZ.out (by decide) (hj.trans (congrArg some e))
        obtain ⟨a', c', e, h1, h2⟩ := OwnE.at rxE hof.own
        obtain ⟨rfl, -, rfl⟩ := Value.slice.inj e
        exact ⟨⟨h1, h2, fun y hy => rx_keep (HXS.out y hy) HZ.out hk⟩, sd_keep _ _ _ _ _ _ HX.out.sd HZ.out hk, set5_below HB.out.drew (Nat.le_refl _) _ _ _ _ _⟩
      have HZD : Hid (wr.drew.heap[w.heap.size]? = some (.cells #[.bool false, .int .i64 0, .slice none 0 0, .slice none 0 0, .slice none 0 0] 26 (0, 0))) := Lib.hid HZ.out
      clear hra hna
      go_wp2_with fail
      go_region
      all_goals
        go_wp2_with fail
        refine bodyPost_ret (v := .tuple #[.slice av xs.length cv, .agg #[.bool ((logF l).2).fr, .int .i64 ((logF l).2).nx, .slice ra2 ((logF l).2).rd.length rc2, .slice ha2 ((logF l).2).hd.length hc2, .slice ma2 ((logF l).2).ms.length mc2]]) (res_ls (i := 3) (j := 2) (g := w.heap.size) Try.results58 rfl rfl (set5_box HZD.out _ _ _ _ _)) rfl ?_
        exact ⟨xs, av, cv, ra2, rc2, ha2, hc2, ma2, mc2, rfl, (HFIN.out _ _ _ _ _).1, HRC.out, (HFIN.out _ _ _ _ _).2.1, (HFIN.out _ _ _ _ _).2.2⟩

end Go.Proofs.Ythohjcfpobeplaa.Sl
