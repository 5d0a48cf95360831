/-
  The program's transaction and the document's, side by side.
-/
import Derived.Test.YthohjcfpobeplaaBtTx
import Derived.Test.YthohjcfpobeplaaBtRTx
namespace Go.Proofs.Ythohjcfpobeplaa.Bt
open Go.RowKit Rg Sh Go.Sort
set_option linter.unusedVariables false
set_option linter.unusedSimpArgs false

/-- a call of law 13 as data. -/
structure Cl where
  kind : Int
  qu : Int
  key : Int
  seq : Int
  tag : Int
  body : List UInt8
def clC (c : Cl) : List Value := [.int .i64 c.kind, .int .i64 c.qu, .int .i64 c.key, .int .i64 c.seq, .int .i64 c.tag, .string ⟨c.body.toArray⟩]
abbrev ClsAt := RowsAt 6 clC
theorem ClsAt.get {w : World} {a : Option Addr} {cap : Nat} {l : List Cl} (h : ClsAt w a cap l) (i : Nat) (hi : i < l.length) :
    ∃ b o, a = some ⟨b, o, none⟩ ∧ w.cell? ⟨b, o + i * 6, none⟩ = some (.int .i64 l[i].kind) ∧ w.cell? ⟨b, o + i * 6 + 1, none⟩ = some (.int .i64 l[i].qu) ∧ w.cell? ⟨b, o + i * 6 + 2, none⟩ = some (.int .i64 l[i].key) ∧ w.cell? ⟨b, o + i * 6 + 3, none⟩ = some (.int .i64 l[i].seq) ∧ w.cell? ⟨b, o + i * 6 + 4, none⟩ = some (.int .i64 l[i].tag) ∧ w.cell? ⟨b, o + i * 6 + 5, none⟩ = some (.string ⟨l[i].body.toArray⟩) := by
  obtain ⟨b, o, ha, hc⟩ := h.at' (by omega)
  exact ⟨b, o, ha, hc i hi 0 _ rfl, hc i hi 1 _ rfl, hc i hi 2 _ rfl, hc i hi 3 _ rfl, hc i hi 4 _ rfl, hc i hi 5 _ rfl⟩

/-- a call's box stays. -/
def KeepC (w w' : World) : Prop := ∀ (b : Nat) (cs : Array Value) (fr : Nat × Nat), w.heap[b]? = some (Obj.cells cs 73 fr) → w'.heap[b]? = some (Obj.cells cs 73 fr)
theorem KeepC.below {w w' : World} (h : Below w.heap.size w w') : KeepC w w' := fun b cs fr hb => box_bl hb h
theorem KeepC.trans {a b c : World} (h : KeepC a b) (k : KeepC b c) : KeepC a c := fun x cs fr hx => k x cs fr (h x cs fr hx)
theorem KeepC.kept {w w' : World} {g : Nat} {T : TypeId} {cs0 : Array Value} {fr0 : Nat × Nat} (h : Kept [g] w w') (hg : w.heap[g]? = some (.cells cs0 T fr0)) (hT : T ≠ 73) : KeepC w w' := fun b cs fr hb =>
  h.box hb fun hm => by
    rw [List.mem_singleton] at hm
    subst hm
    rw [hg] at hb
    injection hb with hb
    injection hb with _ hb
    exact hT hb
theorem KeepC.wrt {w w' : World} {g : Nat} {T E : TypeId} {cs0 : Array Value} {fr0 : Nat × Nat} {v : Value} {k n : Nat} {xs : List Value} {bb : Nat} (h : Kept (wrt g v) w w') (hg : w.heap[g]? = some (.cells cs0 T fr0)) (hT : T ≠ 73) (ho : w.ownsRow bb E k v n xs) (hE : E ≠ 73) : KeepC w w' := fun b cs fr hb =>
  h.box hb fun hm => by
    rcases mem_wrt.1 hm with rfl | hm
    · rw [hg] at hb
      injection hb with hb
      injection hb with _ hb
      exact hT hb
    · exact own_box ho hb hE hm

structure PTw (W wr : World) (g h : Nat) (t u : Tx) : Prop where
  ex : ∃ pv tv pv2 tv2, TxAt wr g t pv tv ∧ RxAt wr h u pv2 tv2 ∧ (∀ j, pv.ownBlock = some j → W.heap.size ≤ j ∧ pv2.ownBlock ≠ some j) ∧ (∀ j, tv.ownBlock = some j → W.heap.size ≤ j ∧ tv2.ownBlock ≠ some j)
  bel : Below W.heap.size W wr
  lo : W.heap.size ≤ g ∧ W.heap.size ≤ h
  may : MayTx t ∧ MayTx u
theorem PTw.below {W w w' : World} {g h : Nat} {t u : Tx} (p : PTw W w g h t u) (hb : Below w.heap.size w w') : PTw W w' g h t u := by
  obtain ⟨pv, tv, pv2, tv2, h1, h2, h3, h4⟩ := p.ex
  exact ⟨⟨pv, tv, pv2, tv2, h1.below hb, h2.below hb, h3, h4⟩, p.bel.trans (hb.mono p.bel.size), p.lo, p.may⟩
theorem txrx_ne {w : World} {g h : Nat} {t u : Tx} {pv tv pv2 tv2 : Value} (h1 : TxAt w g t pv tv) (h2 : RxAt w h u pv2 tv2) : g ≠ h := by
  rintro rfl
  have e := h1.bx.symm.trans h2.bx
  injection e with e
  injection e with _ e
  exact absurd e (by decide)
/-- the document's stays where the program's is written. -/
theorem rx_stay {w w' : World} {g h : Nat} {t u : Tx} {pv tv pv2 tv2 v : Value} {E : TypeId} {k n : Nat} {xs : List Value} (hk : Kept (wrt g v) w w') (h1 : TxAt w g t pv tv) (h2 : RxAt w h u pv2 tv2) (ho : w.ownsRow 0 E k v n xs) (hE : E ≠ 71)
    (hp : ∀ j, v.ownBlock = some j → pv2.ownBlock ≠ some j) (ht : ∀ j, v.ownBlock = some j → tv2.ownBlock ≠ some j) : RxAt w' h u pv2 tv2 := by
  refine h2.kept hk (fun hm => ?_) (fun j hj hm => ?_) (fun j hj hm => ?_)
  · rcases mem_wrt.1 hm with e | e
    · exact txrx_ne h1 h2 e.symm
    · exact own_box ho h2.bx hE e
  · rcases mem_wrt.1 hm with e | e
    · subst e; exact own_box h2.put h1.bx (by decide) hj
    · exact hp j e hj
  · rcases mem_wrt.1 hm with e | e
    · subst e; exact own_box h2.tags h1.bx (by decide) hj
    · exact ht j e hj
theorem tx_stay {w w' : World} {g h : Nat} {t u : Tx} {pv tv pv2 tv2 : Value} (hk : Kept [h] w w') (h1 : TxAt w g t pv tv) (h2 : RxAt w h u pv2 tv2) : TxAt w' g t pv tv := by
  refine h1.kept hk (fun hm => ?_) (fun j hj hm => ?_) (fun j hj hm => ?_)
  · rw [List.mem_singleton] at hm
    exact txrx_ne h1 h2 hm
  · rw [List.mem_singleton] at hm
    subst hm; exact own_box h1.put h2.bx (by decide) hj
  · rw [List.mem_singleton] at hm
    subst hm; exact own_box h1.tags h2.bx (by decide) hj

theorem ptw_pub {W w : World} {g h : Nat} {t u : Tx} (p : PTw W w g h t u) (q s : Int) (k b : List UInt8) :
    Calls Try.prog 48 #[.pointer (some ⟨g, 0, none⟩), .int .i64 q, .string ⟨k.toArray⟩, .int .i64 s, .string ⟨b.toArray⟩] w fun e w' => e = .returned (.int .i64 (pubC t q k s b)) ∧ PTw W w' g h (pubT t q k s b) u ∧ KeepC w w' := by
  obtain ⟨pv, tv, pv2, tv2, h1, h2, h3, h4⟩ := p.ex
  refine (pub_any g t pv tv q s k b w p.may.1 h1).mono ?_
  rintro e w' ⟨rfl, pv', h5, h6, h7⟩
  refine ⟨rfl, ⟨⟨pv', tv, pv2, tv2, h5, rx_stay h6 h1 h2 h1.put (by decide) (fun j hj => (h3 j hj).2) (fun j hj e => own_apart h1.put h2.tags (by decide) j hj e), fun j hj => ?_, h4⟩, ?_, p.lo, pub_may p.may.1 _ _ _ _, p.may.2⟩, KeepC.wrt h6 h1.bx (by decide) h1.put (by decide)⟩
  · rcases h7 j hj with h8 | h8
    · exact h3 j h8
    · exact ⟨Nat.le_trans p.bel.size h8, fun e => by have := (World.ownsRow.lt h2.put j e).2; omega⟩
  · exact p.bel.trans (kept_below h6 p.bel.size p.lo.1 fun j hj => (h3 j hj).1)
theorem ptw_rpub {W w : World} {g h : Nat} {t u : Tx} (p : PTw W w g h t u) (q s : Int) (k b : List UInt8) :
    Calls Try.prog 49 #[.pointer (some ⟨h, 0, none⟩), .int .i64 q, .string ⟨k.toArray⟩, .int .i64 s, .string ⟨b.toArray⟩] w fun e w' => e = .returned (.int .i64 (pubC u q k s b)) ∧ PTw W w' g h t (pubT u q k s b) ∧ KeepC w w' := by
  obtain ⟨pv, tv, pv2, tv2, h1, h2, h3, h4⟩ := p.ex
  refine (rpub_any h u pv2 tv2 q s k b w p.may.2 h2).mono ?_
  rintro e w' ⟨rfl, pv', h5, h6, h7⟩
  refine ⟨rfl, ⟨⟨pv, tv, pv', tv2, tx_stay h6 h1 h2, h5, fun j hj => ⟨(h3 j hj).1, ?_⟩, h4⟩, ?_, p.lo, p.may.1, pub_may p.may.2 _ _ _ _⟩, KeepC.kept h6 h2.bx (by decide)⟩
  · rcases h7 with rfl | h8
    · exact (h3 j hj).2
    · intro e
      have := h8 j e
      have := (World.ownsRow.lt h1.put j hj).2
      omega
  · exact p.bel.trans (h6.below p.bel.size fun b hb => by rw [List.mem_singleton] at hb; rw [hb]; exact p.lo.2)
theorem ptw_ack {W w : World} {g h : Nat} {t u : Tx} (p : PTw W w g h t u) (q n : Int) (k : List UInt8) :
    Calls Try.prog 50 #[.pointer (some ⟨g, 0, none⟩), .int .i64 q, .string ⟨k.toArray⟩, .int .i64 n] w fun e w' => e = .returned (.int .i64 (ackC t q k n)) ∧ PTw W w' g h (ackT t q k n) u ∧ KeepC w w' := by
  obtain ⟨pv, tv, pv2, tv2, h1, h2, h3, h4⟩ := p.ex
  refine (ackt_any g t pv tv q n k w p.may.1 h1).mono ?_
  rintro e w' ⟨rfl, tv', h5, h6, h7⟩
  refine ⟨rfl, ⟨⟨pv, tv', pv2, tv2, h5, rx_stay h6 h1 h2 h1.tags (by decide) (fun j hj e => own_apart h1.tags h2.put (by decide) j hj e) (fun j hj => (h4 j hj).2), h3, fun j hj => ?_⟩, ?_, p.lo, ack_mayT p.may.1 _ _ _, p.may.2⟩, KeepC.wrt h6 h1.bx (by decide) h1.tags (by decide)⟩
  · rcases h7 j hj with h8 | h8
    · exact h4 j h8
    · exact ⟨Nat.le_trans p.bel.size h8, fun e => by have := (World.ownsRow.lt h2.tags j e).2; omega⟩
  · exact p.bel.trans (kept_below h6 p.bel.size p.lo.1 fun j hj => (h4 j hj).1)
theorem ptw_rack {W w : World} {g h : Nat} {t u : Tx} (p : PTw W w g h t u) (q n : Int) (k : List UInt8) :
    Calls Try.prog 51 #[.pointer (some ⟨h, 0, none⟩), .int .i64 q, .string ⟨k.toArray⟩, .int .i64 n] w fun e w' => e = .returned (.int .i64 (ackC u q k n)) ∧ PTw W w' g h t (ackT u q k n) ∧ KeepC w w' := by
  obtain ⟨pv, tv, pv2, tv2, h1, h2, h3, h4⟩ := p.ex
  refine (rackt_any h u pv2 tv2 q n k w p.may.2 h2).mono ?_
  rintro e w' ⟨rfl, tv', h5, h6, h7⟩
  refine ⟨rfl, ⟨⟨pv, tv, pv2, tv', tx_stay h6 h1 h2, h5, h3, fun j hj => ⟨(h4 j hj).1, ?_⟩⟩, ?_, p.lo, p.may.1, ack_mayT p.may.2 _ _ _⟩, KeepC.kept h6 h2.bx (by decide)⟩
  · rcases h7 with rfl | h8
    · exact (h4 j hj).2
    · intro e
      have := h8 j e
      have := (World.ownsRow.lt h1.tags j hj).2
      omega
  · exact p.bel.trans (h6.below p.bel.size fun b hb => by rw [List.mem_singleton] at hb; rw [hb]; exact p.lo.2)
/-- what both hand out. -/
def PTk (W : World) (g h : Nat) (t u : Tx) (w : World) (e : Ending) (w' : World) : Prop :=
  ∃ pa pc ta tc, e = .returned (.tuple #[.int .i64 (takeQ t), .slice pa t.put.length pc, .slice ta t.tags.length tc]) ∧ OwnG w' 0 (.slice pa t.put.length pc) t.put ∧ OwnI w' 0 (.slice ta t.tags.length tc) t.tags ∧ PTw W w' g h (tx0 t.pub) u
theorem ptw_take {W w : World} {g h : Nat} {t u : Tx} (p : PTw W w g h t u) : Calls Try.prog 52 #[.pointer (some ⟨g, 0, none⟩)] w (PTk W g h t u w) := by
  obtain ⟨pv, tv, pv2, tv2, h1, h2, h3, h4⟩ := p.ex
  refine (take_any g t pv tv w p.may.1 h1).mono ?_
  rintro e w' ⟨pa, pc, ta, tc, pv', tv', rfl, h5, h6, h7, h8, h9, h10⟩
  refine ⟨pa, pc, ta, tc, rfl, h5, h6, ⟨⟨pv', tv', pv2, tv2, h7, ?_, fun j hj => ?_, fun j hj => ?_⟩, ?_, p.lo, may_tx0 _, p.may.2⟩⟩
  · refine h2.kept h8 (fun hm => ?_) (fun j hj hm => ?_) (fun j hj hm => ?_)
    · rw [List.mem_singleton] at hm
      exact txrx_ne h1 h2 hm.symm
    · rw [List.mem_singleton] at hm
      subst hm; exact own_box h2.put h1.bx (by decide) hj
    · rw [List.mem_singleton] at hm
      subst hm; exact own_box h2.tags h1.bx (by decide) hj
  · rcases h9 j hj with h11 | h11
    · exact h3 j h11
    · exact ⟨Nat.le_trans p.bel.size h11, fun e => by have := (World.ownsRow.lt h2.put j e).2; omega⟩
  · rcases h10 j hj with h11 | h11
    · exact h4 j h11
    · exact ⟨Nat.le_trans p.bel.size h11, fun e => by have := (World.ownsRow.lt h2.tags j e).2; omega⟩
  · exact p.bel.trans (h8.below p.bel.size fun b hb => by rw [List.mem_singleton] at hb; rw [hb]; exact p.lo.1)
def PRk (W : World) (g h : Nat) (t u : Tx) (w : World) (e : Ending) (w' : World) : Prop :=
  ∃ pa pc ta tc, e = .returned (.tuple #[.int .i64 (takeQ u), .slice pa u.put.length pc, .slice ta u.tags.length tc]) ∧ OwnG w' 0 (.slice pa u.put.length pc) u.put ∧ OwnI w' 0 (.slice ta u.tags.length tc) u.tags ∧ PTw W w' g h t (tx0 u.pub) ∧
    (∀ (v : Value) (l : List Mg), OwnG w 0 v l → OwnG w' 0 v l) ∧ (∀ (v : Value) (l : List Int), OwnI w 0 v l → OwnI w' 0 v l)
theorem ptw_rtake {W w : World} {g h : Nat} {t u : Tx} (p : PTw W w g h t u) : Calls Try.prog 53 #[.pointer (some ⟨h, 0, none⟩)] w (PRk W g h t u w) := by
  obtain ⟨pv, tv, pv2, tv2, h1, h2, h3, h4⟩ := p.ex
  refine (rtake_any h u pv2 tv2 w h2).mono ?_
  rintro e w' ⟨pa, pc, ta, tc, pv', tv', rfl, h5, h6, h7, h8, h9, h10⟩
  refine ⟨pa, pc, ta, tc, rfl, h5, h6, ⟨⟨pv, tv, pv', tv', tx_stay h8 h1 h2, h7, fun j hj => ⟨(h3 j hj).1, fun e => ?_⟩, fun j hj => ⟨(h4 j hj).1, fun e => ?_⟩⟩, ?_, p.lo, p.may.1, may_tx0 _⟩, fun v l ho => ?_, fun v l ho => ?_⟩
  · rcases h9 j e with h11 | h11
    · exact (h3 j hj).2 h11
    · have := (World.ownsRow.lt h1.put j hj).2
      omega
  · rcases h10 j e with h11 | h11
    · exact (h4 j hj).2 h11
    · have := (World.ownsRow.lt h1.tags j hj).2
      omega
  · exact p.bel.trans (h8.below p.bel.size fun b hb => by rw [List.mem_singleton] at hb; rw [hb]; exact p.lo.2)
  · exact h8.row ho fun j hj hm => by
      rw [List.mem_singleton] at hm
      subst hm; exact own_box ho h2.bx (by decide) hj
  · exact h8.row ho fun j hj hm => by
      rw [List.mem_singleton] at hm
      subst hm; exact own_box ho h2.bx (by decide) hj

end Go.Proofs.Ythohjcfpobeplaa.Bt
