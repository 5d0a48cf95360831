/-
  package method's reader: parts; Get; walked.
-/
import Derived.Test.YtenpcadgelpbgaaMPart
import Derived.Test.YtenpcadgelpbgaaPutT
namespace Go.Proofs.Ytenpcadgelpbgaa
open Go.RowKit
set_option linter.unusedVariables false
variable {B : Nat}

theorem of_wf (id : Int) (h : -9223372036854775808 ≤ id ∧ id ≤ 9223372036854775807) : (Me.of id).Wf := by
  have e0 : (ByteArray.empty).size ≤ maxLen := by decide
  exact ⟨h, e0, e0, e0, e0, e0, (by decide : (-9223372036854775808 : Int) ≤ 0 ∧ (0 : Int) ≤ 9223372036854775807), (by decide : (-9223372036854775808 : Int) ≤ 0 ∧ (0 : Int) ≤ 9223372036854775807), (by decide : (0 : Nat) < 18446744073709551616), ⟨fun x hx => by simp [Me.of] at hx, fun x hx => by simp [Me.of] at hx⟩⟩

/-- k parts are read. -/
structure RSt (B : Nat) (W : World) (gr : Nat) (id : Int) (pl : List Pt) (l : List UInt8) (bad : Bool) (k : Nat) (w' : World) (gm : Nat) (m : Me) (a : Option Addr) (cap : Nat) (bs : List Nat) (l' : List UInt8) (bad' : Bool) : Prop where
  at_ : MeAt w' gm m a cap
  sl : SlAt w' bs a cap m.args
  own : Own w' (gm + 1) bs
  wf : m.Wf
  id_ : m.id = id
  no : ∀ p, p ∉ pl.take k → m.No p
  rd : Rd 59 B w' gr l' bad'
  grew : W.grownBy w' (some gr)
  ok : bad' = false → bad = false ∧ l = encL m (pl.take k) ++ l' ∧ (∀ p ∈ pl.take k, m.MayP p) ∧ (putT m.args).length ≤ 3000
  app : ∀ (m2 : Me) (r : List UInt8), (∀ p ∈ pl, m2.MayP p) → m2.Wf → (putT m2.args).length ≤ 3000 → (.a ∈ pl → r = []) → l = encL m2 pl ++ r → bad' = bad

/-- what reading a part makes of it. -/
theorem RSt.next {W : World} {gr gm : Nat} {id : Int} {pl : List Pt} {l : List UInt8} {bad : Bool} {k : Nat} {w' w2 : World} {m m' : Me} {a a2 : Option Addr} {cap cap2 : Nat} {bs bs2 : List Nat} {l' l2 : List UInt8} {bad' bad2 : Bool}
    (hp : partsOf id = some pl) (h : RSt B W gr id pl l bad k w' gm m a cap bs l' bad') (hk : k < pl.length) (hgm : W.heap.size ≤ gm)
    (q1 : MeAt w2 gm m' a2 cap2) (q2 : SlAt w2 bs2 a2 cap2 m'.args) (q3 : Own w2 (gm + 1) bs2) (q4 : m'.Wf) (q5 : m' = m.put pl[k] m') (q6 : Rd 59 B w2 gr l2 bad2) (q7 : Two w' w2 gm gr)
    (q8 : bad2 = false → bad' = false ∧ l' = m'.enc pl[k] ++ l2 ∧ m'.MayP pl[k] ∧ (pl[k] = .a → (putT m'.args).length ≤ 3000))
    (q9 : ∀ (m2 : Me) (r : List UInt8), m2.MayP pl[k] → m2.Wf → (pl[k] = .a → r = [] ∧ (putT m2.args).length ≤ 3000) → l' = m2.enc pl[k] ++ r → bad2 = bad') : RSt B W gr id pl l bad (k + 1) w2 gm m' a2 cap2 bs2 l2 bad2 := by
  have hs := partsOf_some hp
  have htk : pl.take (k + 1) = pl.take k ++ [pl[k]] := List.take_succ_eq_append_getElem hk
  have hnd : ∀ p ∈ pl.take k, p ≠ pl[k] := by
    intro p hp' e
    have h2 := hs.2.1
    have h3 : (pl.take (k + 1)).Nodup := h2.sublist (List.take_sublist _ _)
    rw [htk, List.nodup_append] at h3
    exact h3.2.2 p hp' pl[k] (by simp) e
  have hsame : ∀ p, p ≠ pl[k] → m'.Sm m p := fun p hne => by rw [q5]; exact Me.put_ne m m' hne
  have hargs : pl[k] ≠ .a → m'.args = m.args := fun hne => hsame .a (fun e => hne e.symm)
  refine ⟨q1, q2, q3, q4, by rw [q5, Me.put_id]; exact h.id_, fun p hpn => ?_, q6, ?_, fun hb => ?_, fun m2 r h1 h2 h3 h4 h5 => ?_⟩
  · rw [htk] at hpn
    have hne : p ≠ pl[k] := fun e => hpn (List.mem_append.2 (.inr (by rw [e]; exact List.mem_singleton.2 rfl)))
    exact (hsame p hne).no.2 (h.no p fun hx => hpn (List.mem_append.2 (.inl hx)))
  · refine ⟨q7.os.trans h.grew.os, q7.tape.trans h.grew.tape, q7.output.trans h.grew.output, Nat.le_trans h.grew.size q7.size, fun i hi hne => ?_⟩
    exact (q7.block i (Nat.lt_of_lt_of_le hi h.grew.size) (by omega) (by simpa using hne)).trans (h.grew.block i hi hne)
  · obtain ⟨r1, r2, r3, r4⟩ := q8 hb
    obtain ⟨t1, t2, t3, t4⟩ := h.ok r1
    refine ⟨t1, ?_, fun p hp' => ?_, ?_⟩
    · rw [htk, encL_append, t2, r2, encL_congr (m := m') (s := m) (fun p hp' => hsame p (hnd p hp'))]
      simp [encL]
    · rw [htk] at hp'
      rcases List.mem_append.1 hp' with hp' | hp'
      · exact (hsame p (hnd p hp')).may.2 (t3 p hp')
      · obtain rfl := List.mem_singleton.1 hp'
        exact r3
    · by_cases ha : pl[k] = .a
      · exact r4 ha
      · rw [hargs ha]; exact t4
  · have hb1 := h.app m2 r h1 h2 h3 h4 h5
    cases hbb : bad'
    · obtain ⟨t1, t2, t3, t4⟩ := h.ok hbb
      have hsplit : encL m2 pl = encL m2 (pl.take k) ++ (m2.enc pl[k] ++ encL m2 (pl.drop (k + 1))) := by
        conv => lhs; rw [← List.take_append_drop k pl, encL_append, List.drop_eq_getElem_cons hk]
        rfl
      rw [hsplit, List.append_assoc] at h5
      have h6 := t2.symm.trans h5
      obtain ⟨_, h7⟩ := encL_app h.wf h2 t4 h3 t3 (fun p hp' => h1 p (List.mem_of_mem_take hp')) h6
      rw [List.append_assoc] at h7
      have h8 := q9 m2 _ (h1 _ (List.getElem_mem hk)) h2 (fun ha => by
        have hlast := hs.2.2.1 k hk ha
        have hmem : .a ∈ pl := by rw [← ha]; exact List.getElem_mem hk
        rw [h4 hmem, List.drop_eq_nil_of_le (by omega)]
        exact ⟨rfl, h3⟩) h7
      rw [h8, hb1]
    · cases hb2 : bad2
      · exact absurd (q8 hb2).1 (by rw [hbb]; simp)
      · rw [← hb1, hbb]

theorem set_os (w : World) (p : Addr) (v : Value) : (w.setCell p v).os = w.os := rfl
theorem set_tape (w : World) (p : Addr) (v : Value) : (w.setCell p v).tape = w.tape := rfl
theorem set_output (w : World) (p : Addr) (v : Value) : (w.setCell p v).output = w.output := rfl
theorem set_size (w : World) (p : Addr) (v : Value) : (w.setCell p v).heap.size = w.heap.size := by simp [World.setCell]
/-- another block was written. -/
theorem RSt.other {W : World} {gr : Nat} {id : Int} {pl : List Pt} {l : List UInt8} {bad : Bool} {k : Nat} {w' w2 : World} {m : Me} {a : Option Addr} {cap : Nat} {bs : List Nat} {l' : List UInt8} {bad' : Bool}
    (h : RSt B W gr id pl l bad k w' (W.heap.size + 1) m a cap bs l' bad') (hg : gr < W.heap.size) (hB : B ≤ gr) (hk : ∀ b, b ≠ W.heap.size → w2.heap[b]? = w'.heap[b]?) (hz : w2.heap.size = w'.heap.size) (h1 : w2.os = w'.os) (h2 : w2.tape = w'.tape) (h3 : w2.output = w'.output) :
    RSt B W gr id pl l bad k w2 (W.heap.size + 1) m a cap bs l' bad' := by
  have hbs : ∀ b ∈ bs, w2.heap[b]? = w'.heap[b]? := fun b hb => hk b (by have := (h.own.2 b hb).1; omega)
  exact ⟨h.at_.keep (hk _ (by omega)), h.sl.keep hbs, h.own.keep hbs (by omega), h.wf, h.id_, h.no, h.rd.frame (fun b hb => hk b (by omega)) (hk gr (by omega)),
    ⟨h1.trans h.grew.os, h2.trans h.grew.tape, h3.trans h.grew.output, by have := h.grew.size; omega, fun i hi hne => (hk i (by omega)).trans (h.grew.block i hi hne)⟩, h.ok, h.app⟩

def partsRel (B : Nat) (W : World) (gr : Nat) (id : Int) (pl : List Pt) (l : List UInt8) (bad : Bool) (n : Nat) (a' : Act) (w' : World) : Prop :=
  ∃ (k : Nat) (m : Me) (a : Option Addr) (cap : Nat) (bs : List Nat) (l' : List UInt8) (bad' : Bool), (k ≤ pl.length ∧ n = pl.length - k ∧ RSt B W gr id pl l bad k w' (W.heap.size + 1) m a cap bs l' bad' ∧ MeAt w' W.heap.size (Me.of 0) none 0) ∧
    ∃ (u7 u8 u9 u10 u11 u12 u13 u14 u15 u16 u17 u18 u19 : Value), a' = { tmps := #[.pointer (some ⟨gr, 0, none⟩), .int .i64 id, undef, undef, .pointer (some ⟨W.heap.size, 0, none⟩), .pointer (some ⟨W.heap.size + 1, 0, none⟩), .string (ltr (pl.drop k)), u7, u8, u9, u10, u11, u12, u13, u14, u15, u16, u17, u18, u19], defers := [] }

def ReadPR (B gr : Nat) (id : Int) (pl : List Pt) (l : List UInt8) (bad : Bool) (w : World) (e : Ending) (w' : World) : Prop :=
  ∃ (m : Me) (a : Option Addr) (cap : Nat) (bs : List Nat) (l' : List UInt8) (bad' : Bool), e = .returned (.agg (meC m a cap)) ∧ RSt B w gr id pl l bad pl.length w' (w.heap.size + 1) m a cap bs l' bad'

set_option maxRecDepth 100000 in
set_option maxHeartbeats 8000000 in
theorem readP_any {w : World} {gr : Nat} {id : Int} {pl : List Pt} {l : List UInt8} {bad : Bool} (hp : partsOf id = some pl) (hr : Rd 59 B w gr l bad) (hB : B ≤ gr) :
    Calls Try.prog 28 #[.pointer (some ⟨gr, 0, none⟩), .int .i64 id] w (ReadPR B gr id pl l bad w) := by
  have hs := partsOf_some hp
  have hps : partsStr id = ltr pl := by unfold partsStr; rw [hp]
  have hgl := hr.lt
  have HR := Lib.hid hr
  have HP := Lib.hid hp
  have hi1 := hs.2.2.2.1
  have hi2 := hs.2.2.2.2
  clear hr hp hs
  go_enter Try.func28, Try.ntmps28
  go_wp2
  refine wp_scope_ghost 0 (partsRel B w gr id pl l bad) rfl ?_ ?_
  · intro H hbk
    have HBK := Lib.hid hbk
    clear hbk
    go_wp2_with fail
    refine (parts_any id _).mono ?_
    rintro e w1 ⟨rfl, rfl⟩
    rw [hps]
    go_wp2_with fail
    go_step3
    rename_i hK
    refine hK _ _ (HBK.out pl.length _ _ ⟨0, Me.of id, none, 0, [], l, bad, ⟨Nat.zero_le _, rfl, ?_, ?_⟩, ?_⟩)
    · refine ⟨?_, SlAt.nil _ _ (by decide), Own.nil _ _, of_wf id (by omega), rfl, fun p _ => Me.of_no id p, ?_, ?_, fun hb => ⟨hb, by simp [encL], by simp, (by show (putT ([] : List It)).length ≤ 3000; decide)⟩, fun _ _ _ _ _ _ _ => rfl⟩
      · have := heap_alloc_new (w.alloc (.cells (meC (Me.of 0) none 0) 25)) (.cells (meC (Me.of id) none 0) 25)
        have hz : (w.alloc (.cells (meC (Me.of 0) none 0) 25)).heap.size = w.heap.size + 1 := by simp
        rw [hz] at this
        exact this
      · exact (HR.out.alloc _).alloc _
      · exact alloc_later (alloc_later (GrownBy.refl _ _) _) _
    · exact (Below.heap_alloc _ _ _ (by simp)).trans (heap_alloc_new w _)
    · repeat apply Exists.intro
      rfl
  · rintro n a' w' ⟨k, m, a, cap, bs, l', bad', ⟨hk, rfl, hst, hres⟩, u7, u8, u9, u10, u11, u12, u13, u14, u15, u16, u17, u18, u19, rfl⟩ H hH
    have HH := Lib.hid hH
    have HST := Lib.hid hst
    have HRES := Lib.hid hres
    clear hH hst hres
    by_cases hlt : k < pl.length
    · obtain ⟨p, hpk⟩ : ∃ p, p = pl[k] := ⟨_, rfl⟩
      have hdrop : pl.drop k = p :: pl.drop (k + 1) := by rw [hpk]; exact List.drop_eq_getElem_cons hlt
      have hix : ∀ wx, (Instr.index 9 (.string (ltr (p :: pl.drop (k + 1)))) (.int .i64 0)).run Try.prog wx = .ok (.int .u8 (p.byte.toNat)) wx := ltr_index (p :: pl.drop (k + 1)) 0 (by simp)
      have hsl := ltr_slice p (pl.drop (k + 1))
      obtain ⟨hn1, hn2, hn3⟩ := ltr_cons p (pl.drop (k + 1))
      have HPK := Lib.hid hpk
      rw [hdrop]
      clear hdrop hpk
      go_wp2_with fail
      refine (part_any (B := B) HST.out.at_ HST.out.sl HST.out.own HST.out.wf HST.out.rd hB (by omega) p).mono ?_
      rintro e w2 ⟨rfl, m', a2, cap2, bs2, l2, bad2, q1, q2, q3, q4, q5, q6, q7, q7', q8, q9⟩
      have hst2 : RSt B w gr id pl l bad (k + 1) w2 (w.heap.size + 1) m' a2 cap2 bs2 l2 bad2 := by
        have hpk := HPK.out
        subst hpk
        exact HST.out.next HP.out hlt (by omega) q1 q2 q3 q4 q5 q6 q7 q8 q9
      have HST2 := Lib.hid hst2
      have hres2 : MeAt w2 w.heap.size (Me.of 0) none 0 := HRES.out.keep (q7.block _ HRES.out.lt (by omega) (by omega))
      have HRES2 := Lib.hid hres2
      clear hst2 hres2 q1 q2 q3 q4 q5 q6 q7 q7' q8 q9
      go_wp2_with fail
      go_step3
      refine ⟨rfl, HH.out (pl.length - (k + 1)) _ _ (by omega) ⟨k + 1, m', a2, cap2, bs2, l2, bad2, ⟨by omega, rfl, HST2.out, HRES2.out⟩, ?_⟩⟩
      repeat apply Exists.intro
      rfl
    · obtain rfl : k = pl.length := by omega
      rw [List.drop_length, ltr_nil]
      obtain ⟨⟨c0, c1, c2, c3, c4, c5⟩, c6, c7, c8, c9, c10, c11⟩ := HST.out.at_.cells
      obtain ⟨⟨d0, d1, d2, d3, d4, d5⟩, d6, d7, d8, d9, d10, d11⟩ := HRES.out.cells
      have hf := HRES.out.frozen
      have f0 := hf 0
      have f1 := hf 1
      have f2 := hf 2
      have f3 := hf 3
      have f4 := hf 4
      have f5 := hf 5
      have f6 := hf 6
      have f7 := hf 7
      have f8 := hf 8
      have f9 := hf 9
      have f10 := hf 10
      have f11 := hf 11
      clear hf
      go_wp2_with fail
      simp only [Exit.jump]
      refine bodyPost_ret (v := .agg (meC m a cap)) (by unfold meC; simp [results, Try.results28, go_sem, *]) rfl ?_
      refine ⟨m, a, cap, bs, l', bad', rfl, HST.out.other hgl hB ?_ ?_ (by simp only [set_os]) (by simp only [set_tape]) (by simp only [set_output])⟩
      · intro b hb
        repeat rw [Below.heap_setCell _ _ _ _ hb]
      · simp only [set_size]

end Go.Proofs.Ytenpcadgelpbgaa
