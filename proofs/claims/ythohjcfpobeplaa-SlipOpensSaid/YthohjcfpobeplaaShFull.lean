/-
  shard.isFull, marked, walked.
-/
import Derived.Test.YthohjcfpobeplaaShMay
import Derived.Test.YthohjcfpobeplaaShOwn
import Derived.BigQuiet
namespace Go.Proofs.Ythohjcfpobeplaa.Sh
open Go.RowKit Rg Go.Sort
set_option linter.unusedVariables false
set_option linter.unusedSimpArgs false

theorem flat_set {α : Type} {k : Nat} {f : α → List Value} (hk : ∀ x, (f x).length = k) (l : List α) : ∀ (i r : Nat) (hi : i < l.length) (hr : r < k) (u : Value) (x : α), f x = (f l[i]).set r u → (l.set i x).flatMap f = (l.flatMap f).set (i * k + r) u := by
  induction l with
  | nil => intro i r hi; simp at hi
  | cons y l ih =>
    intro i r hi hr u x hx
    cases i with
    | zero =>
      rw [List.set_cons_zero, List.flatMap_cons, List.flatMap_cons, hx, Nat.zero_mul, Nat.zero_add, List.set_append_left _ _ (by rw [hk]; exact hr)]
      rfl
    | succ i =>
      rw [List.set_cons_succ, List.flatMap_cons, List.flatMap_cons, List.set_append_right _ _ (by rw [hk, Nat.add_mul]; omega), hk, show (i + 1) * k + r - k = i * k + r by rw [Nat.add_mul]; omega, ih i r (by simpa using hi) hr u x (by simpa using hx)]
section
variable {α : Type} {k : Nat} {f : α → List Value} {E T : TypeId}
/-- a cell of one of the call's own rows is written. -/
theorem OwnE.setc (h0 : El k f E T) {w : World} {base : Nat} {v : Value} {l : List α} (h : OwnE k f E w base v l) {i : Nat} (hi : i < l.length) (r : Nat) (hr : r < k) (u : Value) (x : α) (hx : f x = (f l[i]).set r u) :
    ∃ g cap, v = .slice (some ⟨g, 0, none⟩) l.length cap ∧ base ≤ g ∧ (∀ (q : Nat) (u : Value), (f l[i])[q]? = some u → w.cell? ⟨g, i * k + q, none⟩ = some u) ∧ w.frozen? ⟨g, i * k + r, none⟩ = false ∧ OwnE k f E (w.setCell ⟨g, i * k + r, none⟩ u) base v (l.set i x) := by
  obtain ⟨a0, c0, he, hrow, hn0⟩ := OwnE.at h0 h
  rcases h.2 with ⟨_, hz⟩ | ⟨g, cap, cur, rfl, hbg, hg, hnc, hcm, hcs, htake⟩
  · omega
  · obtain ⟨rfl, -, rfl⟩ := Value.slice.inj he
    obtain ⟨b, o, hb, hc⟩ := hrow.at' (by omega)
    cases hb
    have hfl := flats_length h0.len l
    refine ⟨g, cap, rfl, hbg, fun q u' hu' => by have := hc i hi q u' hu'; rwa [Nat.zero_add] at this, by simp [World.frozen?, hg], ?_⟩
    have hw := set_heap hg (i * k + r) u
    refine ⟨by rw [flat_set h0.len l i r hi hr u x hx, List.length_set, List.length_set]; exact hfl, .inr ⟨g, cap, _, by rw [List.length_set], hbg, hw, by rw [List.length_set]; exact hnc, hcm, by simp [hcs], ?_⟩⟩
    rw [List.length_set, flat_set h0.len l i r hi hr u x hx, ← htake]
    simp [List.take_set]
theorem OwnE.other {α' : Type} {k' : Nat} {f' : α' → List Value} {E' : TypeId} {w w' : World} {b b' : Nat} {v v' : Value} {l : List α} {l' : List α'} (h1 : OwnE k f E w b v l) (h2 : OwnE k' f' E' w b' v' l') (hE : E ≠ E') (hg : w.grownBy w' v.ownBlock) : OwnE k' f' E' w' b' v' l' := by
  refine ⟨h2.1, ?_⟩
  rcases h2.2 with h | ⟨g, cap, cur, hv, hbg, hh, r⟩
  · exact .inl h
  · refine .inr ⟨g, cap, cur, hv, hbg, (hg.block g (Array.getElem?_eq_some_iff.1 hh).1 ?_).trans hh, r⟩
    rcases h1.2 with ⟨rfl, _⟩ | ⟨g2, cap2, cur2, rfl, _, hh2, _⟩
    · intro e; cases e
    · intro e
      cases e
      rw [hh] at hh2
      injection hh2 with hh2
      injection hh2 with _ hh2
      exact hE hh2.symm
end

def FullP (s : Sd) (l : List Mg) : Prop := 48 < s.rd.length + s.hd.length + l.length ∨ (s.ms.length = 64 ∧ fnd s.ms (firstB l).pub (firstB l).key = none)
instance (s : Sd) (l : List Mg) : Decidable (FullP s l) := inferInstanceAs (Decidable (_ ∨ (_ ∧ _)))
theorem first_get {l : List Mg} (h : 0 < l.length) : firstB l = l[0] := by
  obtain ⟨y, l', rfl⟩ := List.exists_cons_of_length_pos h
  rfl
theorem end_get {l : List Mg} (h : 0 < l.length) : endB l = l[l.length - 1] := by
  unfold endB
  rw [List.getLastD_eq_getLast?, List.getLast?_eq_getElem?, List.getElem?_eq_getElem (by omega), Option.getD_some]
set_option maxRecDepth 100000 in
set_option maxHeartbeats 2000000 in
theorem full_any (s : Sd) (ra : Option Addr) (rc : Nat) (ha : Option Addr) (hc : Nat) (ma : Option Addr) (mc : Nat) (a : Option Addr) (cap : Nat) (l : List Mg) (hl : 0 < l.length) (hl9 : l.length ≤ 1000) (w : World) (hs : SdAt w ra rc ha hc ma mc s) (hf : MgsAt w a cap l) :
    Calls Try.prog 105 #[.agg #[.bool s.fr, .int .i64 s.nx, .slice ra s.rd.length rc, .slice ha s.hd.length hc, .slice ma s.ms.length mc], .slice a l.length cap] w fun e w' => e = .returned (.bool (decide (FullP s l))) ∧ Grew w w' := by
  have hl1 := hs.sm.1
  have hl2 := hs.sm.2.1
  obtain ⟨W, hW⟩ : ∃ W, W = w.alloc (.cells #[.bool s.fr, .int .i64 s.nx, .slice ra s.rd.length rc, .slice ha s.hd.length hc, .slice ma s.ms.length mc] 26) := ⟨_, rfl⟩
  have hG : Grew w W := by rw [hW]; exact Grew.alloc _ _
  have hx : W.heap[w.heap.size]? = some (.cells #[.bool s.fr, .int .i64 s.nx, .slice ra s.rd.length rc, .slice ha s.hd.length hc, .slice ma s.ms.length mc] 26 (0, 0)) := by rw [hW]; exact heap_alloc_new _ _
  have HG := Lib.hid hG
  have HW := Lib.hid hW
  have hm1 := hs.ms.below hG.below
  have hf1 := hf.below hG.below
  have q1 : IntKind.i64.wrap ((s.rd.length : Int) + (s.hd.length : Int)) = (s.rd.length : Int) + (s.hd.length : Int) := IntWalk.i64_in _ (by omega)
  have q2 : IntKind.i64.wrap ((s.rd.length : Int) + (s.hd.length : Int) + (l.length : Int)) = (s.rd.length : Int) + (s.hd.length : Int) + (l.length : Int) := IntWalk.i64_in _ (by omega)
  by_cases h1 : 48 < s.rd.length + s.hd.length + l.length
  · have HR : Hid (decide (FullP s l) = true) := Lib.hid (decide_eq_true (.inl h1))
    have e1 : (48 : Int) < (s.rd.length : Int) + (s.hd.length : Int) + (l.length : Int) := by omega
    clear h1 hs hf hm1 hf1 hx hW hG
    go_enter Try.func105, Try.ntmps105
    go_wp2_with fail
    go_ret
    exact ⟨by rw [HR.out]; rfl, by rw [← HW.out]; exact HG.out⟩
  have e1 : ¬ (48 : Int) < (s.rd.length : Int) + (s.hd.length : Int) + (l.length : Int) := by omega
  obtain ⟨b, o, rfl, d0, d1, d2, d3, d4⟩ := MgsAt.get hf1 0 hl
  rw [show o + 0 * 5 = o by omega] at d0 d2
  have HQ : Hid (FullP s l ↔ s.ms.length = 64 ∧ fnd s.ms l[0].pub l[0].key = none) := Lib.hid (by unfold FullP; rw [first_get hl]; exact ⟨fun h => h.resolve_left h1, fun h => .inr h⟩)
  obtain ⟨⟨c0, c1, c2, c3, c4⟩, -⟩ := box5 hx
  have h0l : (0 : Int) < (l.length : Int) := by omega
  generalize hxi : l[0] = x at *
  have hfi := fun n => find_any ma mc s.ms x.pub x.key (W.drewN n) (hm1.below (Below.drewN (Below.refl _ _) n))
  have hfi := Lib.hid hfi
  by_cases h2 : s.ms.length = 64
  case neg =>
    have HR : Hid (decide (FullP s l) = false) := Lib.hid (decide_eq_false fun h => h2 (HQ.out.1 h).1)
    have e2 : ((s.ms.length : Int) == 64) = false := by rw [beq_eq_false_iff_ne]; omega
    clear h1 h2 hs hf hm1 hf1 hx hW hG hxi d1 d3 d4
    go_enter Try.func105, Try.ntmps105
    go_wp2_with fail
    rw [← HW.out]
    go_quiet (fail)
    go_wp2_with fail
    go_ret
    exact ⟨by rw [HR.out]; rfl, HG.out.drew _⟩
  have e2 : ((s.ms.length : Int) == 64) = true := by rw [beq_iff_eq]; omega
  have H2 := Lib.hid h2
  cases hq : fnd s.ms x.pub x.key with
  | none =>
    have HR : Hid (decide (FullP s l) = true) := Lib.hid (decide_eq_true (HQ.out.2 ⟨h2, hq⟩))
    rw [hq] at hfi
    have hpl : (pl none == -1) = true := rfl
    generalize pl none = z at *
    clear h1 h2 hs hf hm1 hf1 hx hW hG hxi hq d1 d3 d4
    go_enter Try.func105, Try.ntmps105
    go_wp2_with fail
    rw [← HW.out]
    go_quiet ((go_at_call 96; exact Calls.quiet_of_same ((hfi.out _).mono fun e w' h => ⟨h.1, h.2.symm⟩)))
    go_wp2_with fail
    go_ret
    exact ⟨by rw [HR.out]; rfl, HG.out.drew _⟩
  | some j =>
    have HR : Hid (decide (FullP s l) = false) := Lib.hid (decide_eq_false fun h => by have := (HQ.out.1 h).2; rw [hq] at this; cases this)
    rw [hq] at hfi
    have hpl : (pl (some j) == -1) = false := by show ((j : Int) == -1) = false; rw [beq_eq_false_iff_ne]; omega
    generalize pl (some j) = z at *
    clear h1 h2 hs hf hm1 hf1 hx hW hG hxi hq d1 d3 d4
    go_enter Try.func105, Try.ntmps105
    go_wp2_with fail
    rw [← HW.out]
    go_quiet ((go_at_call 96; exact Calls.quiet_of_same ((hfi.out _).mono fun e w' h => ⟨h.1, h.2.symm⟩)))
    go_wp2_with fail
    go_ret
    exact ⟨by rw [HR.out]; rfl, HG.out.drew _⟩

set_option maxRecDepth 100000 in
set_option maxHeartbeats 2000000 in
theorem marked_any (l : List Mk) (m : Mg) (hl9 : l.length ≤ 1000) (w : World) (base : Nat) (v : Value) (hown : OwnK w base v l) (hbase : base ≤ w.heap.size) :
    Calls Try.prog 65 #[v, .agg #[.int .i64 m.pub, .int .i64 m.seq, .string ⟨m.key.toArray⟩, .string ⟨m.body.toArray⟩, .bool m.again]] w fun e w' => ∃ v', e = .returned v' ∧ OwnK w' base v' (markF l m.pub m.key m.seq) ∧ w.grownBy w' v.ownBlock := by
  obtain ⟨W, hW⟩ : ∃ W, W = w.alloc (.cells #[.int .i64 m.pub, .int .i64 m.seq, .string ⟨m.key.toArray⟩, .string ⟨m.body.toArray⟩, .bool m.again] 35) := ⟨_, rfl⟩
  have hb0 : Below w.heap.size w W := by rw [hW]; exact (Below.refl _ _).alloc (Nat.le_refl _) _
  have hWs : W.heap.size = w.heap.size + 1 := by rw [hW]; simp
  have ho1 : OwnK W base v l := hown.below1 hb0
  obtain ⟨a, cap, he, hrow, hn0⟩ := OwnE.at mkE ho1
  have hfi := Lib.hid (find_any a cap l m.pub m.key W hrow)
  have HGW : Hid (w.grownBy W v.ownBlock) := Lib.hid ⟨hb0.os, hb0.tape, hb0.output, hb0.size, fun b hb _ => hb0.block b hb⟩
  have HO := Lib.hid ho1
  have HW := Lib.hid hW
  have HBW : Hid (base ≤ W.heap.size) := Lib.hid (by omega)
  cases hq : fnd l m.pub m.key with
  | none =>
    have HM : Hid (markF l m.pub m.key m.seq = l ++ [⟨m.pub, m.key, m.seq⟩]) := Lib.hid (by unfold markF; rw [hq])
    rw [hq] at hfi
    have hpl : (pl none == -1) = true := rfl
    generalize pl none = z at *
    rw [hW] at hfi HO HBW HGW
    have hl8 : l.length ≤ 900000 := by omega
    subst he
    clear hq hrow hn0 ho1 hown hb0 hW hWs hl9
    go_enter Try.func65, Try.ntmps65
    go_wp2_with (first | (go_at_call 96; refine hfi.out.mono ?_; rintro e w1 ⟨rfl, rfl⟩) | (at_builtin; refine put_one mkE (base := base) (⟨m.pub, m.key, m.seq⟩ : Mk) rfl (.tmp 14) (.tmp 22) rfl HO.out HBW.out hl8 _ rfl rfl (w.heap.size + 1) (by simp) rfl ?_; intro v1 w2 hown1 hg1; have HOWN2 := Lib.hid hown1; have HG2 := Lib.hid (grown_trans HGW.out hg1); clear hown1 hg1))
    go_ret
    exact ⟨_, rfl, by rw [HM.out]; exact HOWN2.out, HG2.out⟩
  | some j =>
    obtain ⟨hjl, -⟩ := fnd_lt hq
    have hjli : (j : Int) < (l.length : Int) := by omega
    have h0j : (0 : Int) ≤ (j : Int) := by omega
    have hpl : ((j : Int) == -1) = false := by rw [beq_eq_false_iff_ne]; omega
    rw [hq, show pl (some j) = (j : Int) from rfl] at hfi
    obtain ⟨hi, e1, e2⟩ := fnd_lt hq
    obtain ⟨g, cap', he', hbg, hcell, hfz, hown2⟩ := OwnE.setc mkE ho1 hjl 2 (by decide) (.int .i64 m.seq) ⟨m.pub, m.key, m.seq⟩ (by show [_, _, _] = [_, _, _]; rw [e1, e2])
    have HM : Hid (markF l m.pub m.key m.seq = l.set j ⟨m.pub, m.key, m.seq⟩) := Lib.hid (by unfold markF; rw [hq])
    have y2 := hcell 2 _ rfl
    have HOWN2 := Lib.hid hown2
    have HG2 : Hid (w.grownBy (W.setCell ⟨g, j * 3 + 2, none⟩ (.int .i64 m.seq)) (some g)) := Lib.hid (by
      rw [he'] at HGW
      exact grown_trans HGW.out ⟨rfl, rfl, rfl, by simp, fun b hb hne => Below.heap_setCell W ⟨g, j * 3 + 2, none⟩ _ b (by show b ≠ g; exact fun e => hne (by rw [e]))⟩)
    rw [he'] at he
    obtain ⟨rfl, -, rfl⟩ := Value.slice.inj he
    subst he'
    rw [hW] at hfi y2 hfz
    rw [hW] at HG2 HOWN2
    have HM2 := HM
    clear hq hrow hn0 ho1 hown hb0 hW hWs hl9 hcell he hown2 HO HGW e1 e2 HM2
    go_enter Try.func65, Try.ntmps65
    go_wp2_with (go_at_call 96; refine hfi.out.mono ?_; rintro e w1 ⟨rfl, rfl⟩)
    go_ret
    exact ⟨_, rfl, by rw [HM.out]; exact HOWN2.out, HG2.out⟩

end Go.Proofs.Ythohjcfpobeplaa.Sh
