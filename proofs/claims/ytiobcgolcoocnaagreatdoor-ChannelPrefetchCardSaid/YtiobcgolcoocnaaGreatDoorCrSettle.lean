/-
  credit's Settle, walked.
-/
import Derived.Test.YtiobcgolcoocnaaGreatDoorCrSet
namespace Go.Proofs.YtiobcgolcoocnaaGreatDoor.Cr
open Go.RowKit Rg Sh Bt
set_option linter.unusedVariables false
set_option linter.unusedSimpArgs false

theorem pos_le (l : List Int) (t : Int) : posF l t + hasN l t ≤ l.length := by
  unfold posF hasN
  split
  · rename_i h
    obtain ⟨s, u, rfl⟩ := List.append_of_mem h
    have h1 := List.countP_le_length (p := fun x => decide (x < t)) (l := s)
    have h2 := List.countP_le_length (p := fun x => decide (x < t)) (l := u)
    rw [List.countP_append, List.countP_cons_of_neg (by simp), List.length_append, List.length_cons]
    omega
  · simpa using List.countP_le_length
theorem from_le (l : List Int) (t : Int) (all : Bool) : fromF l t all ≤ toF l t all ∧ toF l t all ≤ l.length ∧ (fromF l t all = 0 ∨ toF l t all = fromF l t all + 1 ∨ (fromF l t all = toF l t all ∧ all = false)) := by
  have h1 := pos_le l t
  unfold fromF toF hasN at *
  cases all
  · simp only [Bool.false_eq_true, false_and, if_false]
    split <;> simp_all <;> omega
  · simp only [if_true, true_and]
    split
    · exact ⟨Nat.zero_le _, Nat.le_refl _, .inl trivial⟩
    · exact ⟨Nat.zero_le _, h1, .inl trivial⟩
theorem settle_nil (t : Int) (all : Bool) (w : World) : Calls Tryz.prog 55 #[.pointer none, .int .u64 t, .bool all] w fun e w' => e = .returned (.tuple #[.slice none 0 0, .int .i64 7]) ∧ w = w' := by
  go_enter Tryz.func55, Tryz.ntmps55
  go_wp2_with fail
  refine bodyPost_ret (v := .tuple #[.slice none 0 0, .int .i64 7]) (by simp [results, Tryz.results55, go_sem, *]) rfl ?_
  exact ⟨rfl, rfl⟩
set_option maxHeartbeats 1000000 in
theorem settle_none (g : Nat) (lim last t : Int) (all : Bool) (l : List Int) (a : Option Addr) (cap : Nat) (w : World) (hu : Up l) (hno : fromF l t all = toF l t all) (hna : ¬ (all = true ∧ t = 0)) (h : CrX w g lim last l a cap) :
    Calls Tryz.prog 55 #[.pointer (some ⟨g, 0, none⟩), .int .u64 t, .bool all] w fun e w' => e = .returned (.tuple #[.slice none 0 0, .int .i64 406]) ∧ Drew w w' := by
  have hn := named_any g lim last t all l a cap w hu h
  unfold NamedR at hn
  rw [hno] at hn
  generalize toF l t all = y at hn
  have HN := Lib.hid hn
  have q1 : ((y : Int) == (y : Int)) = true := by simp
  clear hn hno hu h
  cases all with
  | false =>
    clear hna
    go_enter Tryz.func55, Tryz.ntmps55
    go_wp2_with (go_at_call 70; refine HN.out.mono ?_; rintro e w1 ⟨rfl, hd⟩; have HD := Lib.hid hd; clear hd)
    refine bodyPost_ret (v := .tuple #[.slice none 0 0, .int .i64 406]) (by simp [results, Tryz.results55, go_sem, *]) rfl ?_
    exact ⟨rfl, HD.out⟩
  | true =>
    have q2 : (t == 0) = false := by rw [beq_eq_false_iff_ne]; exact fun h => hna ⟨rfl, h⟩
    clear hna
    go_enter Tryz.func55, Tryz.ntmps55
    go_wp2_with (go_at_call 70; refine HN.out.mono ?_; rintro e w1 ⟨rfl, hd⟩; have HD := Lib.hid hd; clear hd)
    refine bodyPost_ret (v := .tuple #[.slice none 0 0, .int .i64 406]) (by simp [results, Tryz.results55, go_sem, *]) rfl ?_
    exact ⟨rfl, HD.out⟩

/-- what Settle leaves: what was settled, what stays. -/
def SetR (B g : Nat) (lim last : Int) (l : List Int) (i j : Nat) (w : World) (e : Ending) (w' : World) : Prop :=
  ∃ a1 c1 a2 c2, e = .returned (.tuple #[.slice a1 (j - i) c1, .int .i64 0]) ∧ UsAt w' a1 c1 ((l.drop i).take (j - i)) ∧ CrX w' g lim last (l.take i ++ l.drop j) a2 c2 ∧ Below B w w'
set_option maxHeartbeats 2000000 in
theorem settle_any (B g : Nat) (lim last t : Int) (all : Bool) (l : List Int) (v : Value) (w : World) (hu : Up l) (hyes : ¬ fromF l t all = toF l t all ∨ (all = true ∧ t = 0)) (hB : B ≤ w.heap.size) (h : CrV B w g lim last l v) :
    Calls Tryz.prog 55 #[.pointer (some ⟨g, 0, none⟩), .int .u64 t, .bool all] w (SetR B g lim last l (fromF l t all) (toF l t all) w) := by
  obtain ⟨a, cap, rfl, hx⟩ := h.x
  have hsm := h.sm
  have hn := named_any g lim last t all l a cap w hu hx
  unfold NamedR at hn
  obtain ⟨l1, l2, l3⟩ := from_le l t all
  have hij : fromF l t all = 0 ∨ toF l t all = fromF l t all + 1 := by
    rcases l3 with h | h | ⟨h, h'⟩
    · exact .inl h
    · exact .inr h
    · rcases hyes with h2 | h2
      · exact absurd h h2
      · rw [h2.1] at h'; cases h'
  have HS0 := Lib.hid (show fromF l t all = toF l t all → all = true ∧ t = 0 from fun e => hyes.resolve_left fun h => h e)
  clear hyes l3 hu
  generalize fromF l t all = i at *
  generalize toF l t all = j at *
  obtain ⟨⟨c0, c1, c2⟩, -⟩ := box3 h.bx
  obtain ⟨a1, hr1, hn1, hs1⟩ := El_mid usE hx.row hx.nn i j l1 l2
  have hl1 : ((l.drop i).take (j - i)).length = j - i := by rw [List.length_take, List.length_drop]; omega
  have hcl : ∀ n, Calls Tryz.prog 71 #[.slice a1 (j - i) (cap - i)] (w.drewN n) fun e w' => ∃ v, e = .returned v ∧ OwnU w' (w.drewN n).heap.size v ((l.drop i).take (j - i)) ∧ Below (w.drewN n).heap.size (w.drewN n) w' := fun n => by
    have := clone_any a1 (cap - i) ((l.drop i).take (j - i)) (by omega) (w.drewN n) (hr1.below (Below.drewN (Below.refl _ _) n))
    rwa [hl1] at this
  obtain ⟨d, hd⟩ : ∃ d, d = j - i := ⟨_, rfl⟩
  rw [← hd] at hs1 hcl hl1
  have HCL := Lib.hid hcl
  have HDD := Lib.hid hd
  have HN := Lib.hid hn
  have HV := Lib.hid h
  have HIJ := Lib.hid hij
  have HL1 := Lib.hid hl1
  have k1 : ((i : Int)) ≤ (j : Int) := by omega
  clear h hx hn hij hr1 hn1 hl1 hcl hd
  have hend : ∀ (n : Nat) (w2 : World) (v2 : Value), OwnU w2 (w.drewN n).heap.size v2 ((l.drop i).take d) → Below (w.drewN n).heap.size (w.drewN n) w2 →
      Calls Tryz.prog 72 #[.pointer (some ⟨g, 0, none⟩), .int .i64 i, .int .i64 j] w2 fun e w' => e = .returned (.tuple #[]) ∧ ∃ a1' c1', v2 = .slice a1' d c1' ∧ SetR B g lim last l i j w (.returned (.tuple #[v2, .int .i64 0])) w' := by
    intro n w2 v2 ho hb
    have hb' : Below w.heap.size w w2 := ⟨hb.os, hb.tape, hb.output, hb.size, hb.block⟩
    have hv2 := HV.out.below hb'
    refine (rem_any B g lim last i j l _ w2 l2 HIJ.out hv2).mono ?_
    rintro e w' ⟨rfl, a2, c2, hx2, hk⟩
    have hg1 : g < w.heap.size := (box_lt HV.out.bx).1
    have ho' : OwnU w' (w.drewN n).heap.size v2 ((l.drop i).take d) := hk.row ho fun q hq hm => by
      have hql : w.heap.size ≤ q := (World.ownsRow.lt ho q hq).1
      rcases mem_wrt.1 hm with rfl | hm
      · omega
      · have := (World.ownsRow.lt HV.out.own q hm).2
        omega
    obtain ⟨a1', c1', hv, hr', -⟩ := OwnE.at usE ho'
    rw [HL1.out] at hv
    subst hv
    refine ⟨rfl, a1', c1', rfl, a1', c1', a2, c2, by rw [← HDD.out], by rw [← HDD.out]; exact hr', hx2, ?_⟩
    have hbB : Below B w w2 := hb'.mono hB
    refine hbB.trans (hk.below (Nat.le_trans hB hb'.size) fun q hq => ?_)
    rcases mem_wrt.1 hq with rfl | hm
    · exact HV.out.lo
    · exact (World.ownsRow.lt HV.out.own q hm).1
  have HEND := Lib.hid hend
  clear hend
  by_cases hxy : i = j
  · obtain ⟨rfl, rfl⟩ := HS0.out hxy
    subst hxy
    have q1 : ((i : Int) == (i : Int)) = true := by simp
    go_enter Tryz.func55, Tryz.ntmps55
    go_wp2_with (first | (go_at_call 70; refine HN.out.mono ?_; rintro e w1 ⟨rfl, n, rfl⟩) | (go_at_call 71; refine (HCL.out n).mono ?_; rintro e w2 ⟨v2, rfl, ho, hb⟩; have HO2 := Lib.hid ho; have HB2 := Lib.hid hb; clear ho hb) | (go_at_call 72; refine (HEND.out n w2 v2 HO2.out HB2.out).mono ?_; rintro e w3 ⟨rfl, a1', c1', rfl, hR⟩; have HR := Lib.hid hR; clear hR))
    refine bodyPost_ret (v := .tuple #[.slice a1' d c1', .int .i64 0]) (by simp [results, Tryz.results55, go_sem, *]) rfl ?_
    exact HR.out
  · have q1 : ((i : Int) == (j : Int)) = false := by rw [beq_eq_false_iff_ne]; omega
    go_enter Tryz.func55, Tryz.ntmps55
    go_wp2_with (first | (go_at_call 70; refine HN.out.mono ?_; rintro e w1 ⟨rfl, n, rfl⟩) | (go_at_call 71; refine (HCL.out n).mono ?_; rintro e w2 ⟨v2, rfl, ho, hb⟩; have HO2 := Lib.hid ho; have HB2 := Lib.hid hb; clear ho hb) | (go_at_call 72; refine (HEND.out n w2 v2 HO2.out HB2.out).mono ?_; rintro e w3 ⟨rfl, a1', c1', rfl, hR⟩; have HR := Lib.hid hR; clear hR))
    refine bodyPost_ret (v := .tuple #[.slice a1' d c1', .int .i64 0]) (by simp [results, Tryz.results55, go_sem, *]) rfl ?_
    exact HR.out

end Go.Proofs.YtiobcgolcoocnaaGreatDoor.Cr
