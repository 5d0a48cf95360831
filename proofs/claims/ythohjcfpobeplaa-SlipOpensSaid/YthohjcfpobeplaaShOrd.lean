/-
  shard.inOrder, walked.
-/
import Derived.Test.YthohjcfpobeplaaShAll
namespace Go.Proofs.Ythohjcfpobeplaa.Sh
open Go.RowKit Rg Go.Sort
set_option linter.unusedVariables false
set_option linter.unusedSimpArgs false

/-- messages, each under its mark, rising. -/
def OkAll (ms : List Mk) (l : List Mg) : Prop := (∀ m ∈ l, MayMg m ∧ m.seq ≤ lastF ms m.pub m.key) ∧ l.Pairwise (fun a b => a.pub = b.pub ∧ a.key = b.key → a.seq < b.seq)
instance (ms : List Mk) (l : List Mg) : Decidable (OkAll ms l) := inferInstanceAs (Decidable (_ ∧ _))
/-- what came last under each mark. -/
def AhdOk (ms : List Mk) (p : List Mg) (A : Nat → Int) : Prop :=
  ∀ j, j < ms.length → (∀ m ∈ p, fnd ms m.pub m.key = some j → m.seq ≤ A j) ∧ (A j = 0 ∨ ∃ m ∈ p, fnd ms m.pub m.key = some j ∧ m.seq = A j)
theorem OkAll.front {ms : List Mk} {p r : List Mg} (h : OkAll ms (p ++ r)) : OkAll ms p := ⟨fun m hm => h.1 m (by simp [hm]), (List.pairwise_append.1 h.2).1⟩
theorem ahd_yes {ms : List Mk} {p : List Mg} {A : Nat → Int} {x : Mg} {j : Nat} (hp : OkAll ms p) (ha : AhdOk ms p A) (hj : fnd ms x.pub x.key = some j) (hjl : j < ms.length) (h1 : MayMg x) (h2 : A j < x.seq) (h3 : x.seq ≤ (ms[j]).seq) :
    OkAll ms (p ++ [x]) ∧ AhdOk ms (p ++ [x]) (fun i => if i = j then x.seq else A i) := by
  refine ⟨⟨fun m hm => ?_, pw_snoc.2 ⟨hp.2, fun a hm he => ?_⟩⟩, fun i hi => ⟨fun m hm hf => ?_, ?_⟩⟩
  · rcases List.mem_append.1 hm with h | h
    · exact hp.1 m h
    · obtain rfl := List.mem_singleton.1 h
      exact ⟨h1, by rw [last_some hj hjl]; exact h3⟩
  · have := (ha j hjl).1 a hm (by rw [he.1, he.2]; exact hj)
    omega
  · dsimp only
    by_cases hij : i = j
    · subst hij
      rw [if_pos rfl]
      rcases List.mem_append.1 hm with h | h
      · have := (ha i hi).1 m h hf; omega
      · obtain rfl := List.mem_singleton.1 h
        exact Int.le_refl _
    · rw [if_neg hij]
      rcases List.mem_append.1 hm with h | h
      · exact (ha i hi).1 m h hf
      · obtain rfl := List.mem_singleton.1 h
        rw [hj] at hf
        exact absurd (Option.some.inj hf).symm hij
  · dsimp only
    by_cases hij : i = j
    · subst hij
      rw [if_pos rfl]
      exact .inr ⟨x, by simp, hj, rfl⟩
    · rw [if_neg hij]
      rcases (ha i hi).2 with h | ⟨m, hm, h⟩
      · exact .inl h
      · exact .inr ⟨m, by simp [hm], h⟩
theorem ahd_no {ms : List Mk} {p : List Mg} {A : Nat → Int} {x : Mg} {j : Nat} (ha : AhdOk ms p A) (hj : fnd ms x.pub x.key = some j) (hjl : j < ms.length) (h : OkAll ms (p ++ [x])) : A j < x.seq ∧ x.seq ≤ (ms[j]).seq := by
  have hx := h.1 x (by simp)
  rw [last_some hj hjl] at hx
  refine ⟨?_, hx.2⟩
  rcases (ha j hjl).2 with h0 | ⟨m, hm, hf, he⟩
  · have := hx.1.1.2.2.1; omega
  · rw [← he]
    obtain ⟨hi1, e1, e2⟩ := fnd_lt hf
    obtain ⟨hi2, e3, e4⟩ := fnd_lt hj
    exact (pw_snoc.1 h.2).2 m hm ⟨e1.symm.trans e3, e2.symm.trans e4⟩
theorem ahd_none {ms : List Mk} {p : List Mg} {x : Mg} (hj : fnd ms x.pub x.key = none) (h : OkAll ms (p ++ [x])) : False := by
  have hx := h.1 x (by simp)
  rw [last_none hj] at hx
  have := hx.1.1.2.2.1
  omega

/-- a row in a block from B on. -/
def Hi (B : Nat) (a : Option Addr) : Prop := ∀ b o, a = some ⟨b, o, none⟩ → B ≤ b
theorem rows_kept {α : Type} {k : Nat} {f : α → List Value} {w w' : World} {a : Option Addr} {cap B : Nat} {l : List α} (h : RowsAt k f w a cap l) (hh : Hi B a) (hk : ∀ b, B ≤ b → b < w.heap.size → w'.heap[b]? = w.heap[b]?) : RowsAt k f w' a cap l := by
  refine ⟨h.len, h.max, fun h0 => ?_⟩
  obtain ⟨b, o, ha, hc⟩ := h.at' h0
  exact ⟨b, o, ha, fun i hi r v hv => (World.cell?_of_block (w := w) (a := ⟨b, o + i * k + r, none⟩) (hk b (hh b o ha) (lt_of_cell (hc i hi r v hv)))).trans (hc i hi r v hv)⟩
theorem El.head' {α : Type} {k : Nat} {f : α → List Value} {E T : TypeId} (h : El k f E T) {w : World} {a : Option Addr} {cap B : Nat} {x : α} {l : List α} (hr : RowsAt k f w a cap (x :: l)) (hh : Hi B a) :
    ∃ b o a', a = some ⟨b, o, none⟩ ∧ (∀ (r : Nat) (v : Value), (f x)[r]? = some v → w.cell? ⟨b, o + r, none⟩ = some v) ∧
      RowsAt k f w a' (cap - 1) l ∧ 1 ≤ cap ∧ Hi B a' ∧
      (∀ wx, (Instr.slice T (.slice (some ⟨b, o, none⟩) (l.length + 1) cap) (some (.int .i64 1)) none none).run Try.prog wx = .ok (.slice a' l.length (cap - 1)) wx) := by
  obtain ⟨b, o, a', rfl, h1, h2, h3, h4, h5⟩ := h.head hr
  have hB := hh b o rfl
  refine ⟨b, o, a', rfl, h1, h2, h3, fun b' o' e => ?_, h5⟩
  have hw := h5 w
  subst e
  simp [Instr.slice, Instr.sliceBounds, Instr.sliceBound, asIntOf, run_underlying h.und, h.siz] at hw
  rw [if_pos (by have := hr.len; simp at this; omega)] at hw
  simp at hw
  split at hw
  · simp at hw; omega
  · rw [add_at] at hw
    simp at hw; omega
theorem OwnE.hi {α : Type} {k : Nat} {f : α → List Value} {E T : TypeId} (h0 : El k f E T) {w : World} {base : Nat} {v : Value} {l : List α} (h : OwnE k f E w base v l) : ∃ a cap, v = .slice a l.length cap ∧ RowsAt k f w a cap l ∧ Hi base a := by
  obtain ⟨a, cap, rfl, hr, hn⟩ := OwnE.at h0 h
  refine ⟨a, cap, rfl, hr, fun b o e => ?_⟩
  rcases h.2 with ⟨e1, _⟩ | ⟨g, cap, cur, e1, hbg, _⟩
  · obtain ⟨rfl, _, _⟩ := Value.slice.inj e1
    cases e
  · obtain ⟨rfl, _, _⟩ := Value.slice.inj e1
    cases e
    exact hbg

theorem ld {P : Program} {w : World} {b o n : Nat} (cs : List Value) (hn : cs.length = n) (h : ∀ (r : Nat) (v : Value), cs[r]? = some v → w.cell? ⟨b, o + r, none⟩ = some v) : Sem.run P (loadCellsFrom ⟨b, o, none⟩ 0 n #[]) w = .ok cs.toArray w := by
  subst hn
  exact run_loadCells_list (P := P) w ⟨b, o, none⟩ cs fun j v hj => by rw [add_at]; exact h j v hj
theorem ld_grown {P : Program} {w : World} {b o n : Nat} (cs : List Value) (hn : cs.length = n) (h : ∀ (r : Nat) (v : Value), cs[r]? = some v → w.cell? ⟨b, o + r, none⟩ = some v) (m : Nat) (os : Array Obj) : Sem.run P (loadCellsFrom ⟨b, o, none⟩ 0 n #[]) (grow (w.drewN m) os) = .ok cs.toArray (grow (w.drewN m) os) :=
  ld cs hn fun r v hv => cell_grown (lt_of_cell (h r v hv)) (h r v hv) m os
def ordRel (s : Sd) (w : World) (ra : Option Addr) (rc : Nat) (ha : Option Addr) (hc : Nat) (ma : Option Addr) (mc : Nat) (m : Nat) (a' : Act) (w' : World) : Prop :=
  ∃ (p r : List Mg) (A : Nat → Int) (a : Option Addr) (cap : Nat) (u5 u6 u7 u8 u9 u10 u11 u12 u13 u14 u15 u16 u17 u18 u19 u20 u21 u22 u23 u24 u25 u26 u27 u28 u29 u30 u31 u32 u33 u34 u35 u36 u37 u38 u39 u40 u41 u42 u43 u44 u45 u46 u47 u48 u49 u50 u51 u52 u53 u54 u55 u56 u57 u58 u59 u60 : Value), a' = { tmps := #[.agg #[.bool s.fr, .int .i64 s.nx, .slice ra s.rd.length rc, .slice ha s.hd.length hc, .slice ma s.ms.length mc], .pointer (some ⟨w.heap.size, 0, none⟩), .bool false, .pointer (some ⟨w.heap.size + 1, 0, none⟩), .slice a r.length cap, u5, u6, u7, u8, u9, u10, u11, u12, u13, u14, u15, u16, u17, u18, u19, u20, u21, u22, u23, u24, u25, u26, u27, u28, u29, u30, u31, u32, u33, u34, u35, u36, u37, u38, u39, u40, u41, u42, u43, u44, u45, u46, u47, u48, u49, u50, u51, u52, u53, u54, u55, u56, u57, u58, u59, u60], defers := [] } ∧
    m = r.length ∧ allF s = p ++ r ∧ OkAll s.ms p ∧ AhdOk s.ms p A ∧ MgsAt w' a cap r ∧ Hi (w.heap.size + 2) a ∧ w'.rowIs (w.heap.size + 1) 137 64 (fun i => .int .i64 (A i)) ∧
    w'.heap[w.heap.size]? = some (.cells #[.bool s.fr, .int .i64 s.nx, .slice ra s.rd.length rc, .slice ha s.hd.length hc, .slice ma s.ms.length mc] 26 (0, 0)) ∧ Below w.heap.size w w'
set_option maxRecDepth 100000 in
set_option maxHeartbeats 4000000 in
theorem inOrder_any (s : Sd) (ra : Option Addr) (rc : Nat) (ha : Option Addr) (hc : Nat) (ma : Option Addr) (mc : Nat) (h48 : s.rd.length + s.hd.length ≤ 48) (h64 : s.ms.length ≤ 64) (w : World) (hs : SdAt w ra rc ha hc ma mc s) :
    Calls Try.prog 74 #[.agg #[.bool s.fr, .int .i64 s.nx, .slice ra s.rd.length rc, .slice ha s.hd.length hc, .slice ma s.ms.length mc]] w fun e w' => e = .returned (.bool (decide (OkAll s.ms (allF s)))) ∧ Below w.heap.size w w' := by
  obtain ⟨hx, hy, hb0, hWs⟩ := two_box (w := w) (.cells #[.bool s.fr, .int .i64 s.nx, .slice ra s.rd.length rc, .slice ha s.hd.length hc, .slice ma s.ms.length mc] 26) (.cells (List.replicate 64 (.int .i64 0)).toArray 137)
  have hrow : ((w.alloc (.cells #[.bool s.fr, .int .i64 s.nx, .slice ra s.rd.length rc, .slice ha s.hd.length hc, .slice ma s.ms.length mc] 26)).alloc (.cells (List.replicate 64 (.int .i64 0)).toArray 137)).rowIs (w.heap.size + 1) 137 64 (fun _ => .int .i64 0) :=
    ⟨_, hy, by simp, fun i hi => by rw [List.getElem?_toArray, List.getElem?_replicate, if_pos hi]⟩
  have HCALL := Lib.hid (all_any s ra rc ha hc ma mc h48 _ (hs.below ra rc ha hc ma mc hb0))
  have HX := Lib.hid hx
  have HROW0 := Lib.hid hrow
  have HB0 := Lib.hid hb0
  have HWS := Lib.hid hWs
  have HMS := Lib.hid hs.ms
  clear hs hx hy hb0 hWs hrow
  go_enter Try.func74, Try.ntmps74
  go_wp2_with fail
  refine wp_scope_ghost 0 (ordRel s w ra rc ha hc ma mc) rfl ?_ ?_
  · intro H hb'
    have HBK := Lib.hid hb'
    clear hb'
    go_wp2_with fail
    refine HCALL.out.mono ?_
    rintro e w3 ⟨v, rfl, hown, hb⟩
    obtain ⟨a, cap, rfl, hr, hi⟩ := OwnE.hi mgE hown
    rw [HWS.out] at hi
    have HR := Lib.hid hr
    have HI := Lib.hid hi
    have HX3 := Lib.hid ((hb.block _ (by rw [HWS.out]; omega)).trans HX.out)
    have HROW3 := Lib.hid (HROW0.out.of_block (hb.block _ (by rw [HWS.out]; omega)))
    have HB3 := Lib.hid (HB0.out.trans (hb.mono HB0.out.size))
    clear hown hb hr hi
    go_wp2_with fail
    go_step3
    rename_i hK
    refine hK _ _ (HBK.out (allF s).length _ _ ⟨[], allF s, fun _ => 0, a, cap, ?_⟩)
    repeat apply Exists.intro
    exact ⟨rfl, rfl, rfl, ⟨by simp, by simp⟩, fun j hj => ⟨by simp, .inl rfl⟩, HR.out, HI.out, HROW3.out, HX3.out, HB3.out⟩
  · rintro m a' w' ⟨p, r, A, a, cap, u5, u6, u7, u8, u9, u10, u11, u12, u13, u14, u15, u16, u17, u18, u19, u20, u21, u22, u23, u24, u25, u26, u27, u28, u29, u30, u31, u32, u33, u34, u35, u36, u37, u38, u39, u40, u41, u42, u43, u44, u45, u46, u47, u48, u49, u50, u51, u52, u53, u54, u55, u56, u57, u58, u59, u60, rfl, rfl, hall, hok, had, hr, hhi, hrow, hbx, hb⟩ H hH
    have HH := Lib.hid hH
    have HALL := Lib.hid hall
    have HOK := Lib.hid hok
    have HAD := Lib.hid had
    have HR := Lib.hid hr
    have HHI := Lib.hid hhi
    have HROW := Lib.hid hrow
    have HBX := Lib.hid hbx
    have HB := Lib.hid hb
    have HMS1 := Lib.hid (HMS.out.below hb)
    obtain ⟨⟨x0, x1, x2, x3, x4⟩, -⟩ := box5 hbx
    clear hH hall hok had hr hhi hrow hbx hb
    cases r with
    | nil =>
      go_wp2_with fail
      simp only [Exit.jump]
      go_ret
      exact ⟨ret_bool (by rw [HALL.out, List.append_nil]; exact (decide_eq_true HOK.out).symm), HB.out⟩
    | cons x r =>
      have n0 : (0 : Int) < (r.length : Int) + 1 := by omega
      have n1 : 0 < r.length + 1 := by omega
      have n2 : ((r.length : Int) + 1 == 0) = false := by rw [beq_eq_false_iff_ne]; omega
      obtain ⟨b, o, a2, rfl, hce, hr2, h1c, hi2, hsl⟩ := mgE.head' HR.out HHI.out
      have d0 := hce 0 _ rfl
      have d1 := hce 1 _ rfl
      have d2 := hce 2 _ rfl
      have d3 := hce 3 _ rfl
      have d4 := hce 4 _ rfl
      rw [Nat.add_zero] at d0
      have HR2 := Lib.hid hr2
      have HI2 := Lib.hid hi2
      clear hr2 hi2
      have HNO : Hid (¬ OkAll s.ms (p ++ [x]) → decide (OkAll s.ms (allF s)) = false) := Lib.hid fun h => decide_eq_false fun g => h (by rw [HALL.out, show p ++ x :: r = (p ++ [x]) ++ r by simp] at g; exact g.front)
      have hfi := fun n => find_any ma mc s.ms x.pub x.key (w'.drewN n) (HMS1.out.below (Below.drewN (Below.refl _ _) n))
      have hmm := fun wx => mayMsg_any x wx
      cases hq : fnd s.ms x.pub x.key with
      | none =>
        rw [hq] at hfi
        have HR0 := Lib.hid (HNO.out fun h => ahd_none hq h)
        have hpl : (pl none != -1) = false := rfl
        generalize pl none = z at *
        clear hq hmm
        go_wp2_with fail
        go_quiet ((go_at_call 96; exact Calls.quiet_of_same ((hfi _).mono fun e w' h => ⟨h.1, h.2.symm⟩)))
        go_wp2_with fail
        go_quiet (fail)
        go_wp2_with fail
        simp only [Exit.jump]
        go_ret
        exact ⟨by rw [HR0.out]; rfl, Below.drewN (Below.drewN HB.out _) _⟩
      | some j =>
        rw [hq] at hfi
        obtain ⟨hjl, -⟩ := fnd_lt hq
        have hj64 : j < 64 := by omega
        have hj64i : (j : Int) < 64 := by omega
        have h0j : (0 : Int) ≤ (j : Int) := by omega
        have hjli : (j : Int) < (s.ms.length : Int) := by omega
        have HQ := Lib.hid hq
        have hpl : ((j : Int) != -1) = true := by rw [bne_iff_ne]; omega
        have hpl2 : ((j : Int) == -1) = false := by rw [beq_eq_false_iff_ne]; omega
        rw [show pl (some j) = (j : Int) from rfl] at hfi
        clear hq
        go_wp2_with fail
        go_quiet ((go_at_call 96; exact Calls.quiet_of_same ((hfi _).mono fun e w' h => ⟨h.1, h.2.symm⟩)))
        obtain ⟨mb, mo, rfl, -, -, e2⟩ := MksAt.get HMS1.out j hjl
        have HG := Lib.hid (Below.drewN HB.out nq)
        have hc2 : ∀ (r : Nat) (v : Value), (mgC x)[r]? = some v → (w'.drewN nq).cell? ⟨b, o + r, none⟩ = some v := fun r v hv => hce r v hv
        have d1' : (w'.drewN nq).cell? ⟨b, o + 1, none⟩ = some (.int .i64 x.seq) := d1
        have x4' : (w'.drewN nq).cell? ⟨w.heap.size, 4, none⟩ = some (.slice (some ⟨mb, mo, none⟩) s.ms.length mc) := x4
        have e2' : (w'.drewN nq).cell? ⟨mb, mo + j * 3 + 2, none⟩ = some (.int .i64 (s.ms[j]).seq) := e2
        have HR3 := Lib.hid (HR2.out.below (Below.drewN (Below.refl _ _) nq))
        have HRW := Lib.hid (show (w'.drewN nq).rowIs (w.heap.size + 1) 137 64 (fun i => .int .i64 (A i)) from HROW.out)
        have HBX2 := Lib.hid (show (w'.drewN nq).heap[w.heap.size]? = some (.cells #[.bool s.fr, .int .i64 s.nx, .slice ra s.rd.length rc, .slice ha s.hd.length hc, .slice (some ⟨mb, mo, none⟩) s.ms.length mc] 26 (0, 0)) from HBX.out)
        clear d0 d1 d2 d3 d4 x0 x1 x2 x3 x4 e2 hfi HMS1 hce HR2 HROW HBX
        generalize w'.drewN nq = w2 at *
        have mixed : Try.prog.follows .mixedOrders = true := by kernel_rfl
        have k0 := fun n os => cell_grown (a := ⟨b, o, none⟩) (lt_of_cell (hc2 0 _ rfl)) (hc2 0 _ rfl) n os
        have k2 := fun n os => cell_grown (a := ⟨b, o + 2, none⟩) (lt_of_cell (hc2 2 _ rfl)) (hc2 2 _ rfl) n os
        have k3 := fun n os => cell_grown (a := ⟨b, o + 3, none⟩) (lt_of_cell (hc2 3 _ rfl)) (hc2 3 _ rfl) n os
        have k4 := fun n os => cell_grown (a := ⟨b, o + 4, none⟩) (lt_of_cell (hc2 4 _ rfl)) (hc2 4 _ rfl) n os
        have k1 := fun n os => cell_grown (a := ⟨b, o + 1, none⟩) (lt_of_cell d1') d1' n os
        have k5 := fun n os => cell_grown (a := ⟨w.heap.size + 1, j, none⟩) HRW.out.lt (HRW.out.cell hj64) n os
        have k6 := fun n os => cell_grown (a := ⟨w.heap.size, 4, none⟩) (lt_of_cell x4') x4' n os
        have k7 := fun n os => cell_grown (a := ⟨mb, mo + j * 3 + 2, none⟩) (lt_of_cell e2') e2' n os
        have HC2 := Lib.hid hc2
        have HD1 := Lib.hid d1'
        clear d1' x4' e2' hc2
        by_cases g1 : MayMg x
        case neg =>
          have HR0 := Lib.hid (HNO.out fun h => g1 (h.1 x (by simp)).1)
          have hmm := Lib.hid hmm
          rw [decide_eq_false g1] at hmm
          go_wp2_with fail
          (refine wp_region_quiet_grown (by assumption) (by kernel_rfl) ?_; (repeat (go_big_quiet_step ((go_at_call 62; exact Calls.grown_of (hmm.out _))))); refine wpQuiet_nil ?_; intro wq hw'; obtain ⟨gq, hw''⟩ := hw'; have HGQ := Lib.hid (show Grew _ wq from ⟨gq.n, gq.os, hw''⟩); clear hw'' gq)
          go_wp2_with fail
          simp only [Exit.jump]
          go_ret
          exact ⟨by rw [HR0.out]; rfl, HG.out.trans (HGQ.out.below.mono HG.out.size)⟩
        have hmm := Lib.hid hmm
        rw [decide_eq_true g1] at hmm
        have G1 := Lib.hid g1
        by_cases g2 : A j < x.seq
        case neg =>
          have HR0 := Lib.hid (HNO.out fun h => g2 (ahd_no HAD.out HQ.out hjl h).1)
          have g2' : decide (A j < x.seq) = false := decide_eq_false g2
          go_wp2_with fail
          (refine wp_region_quiet_grown (by assumption) (by kernel_rfl) ?_; (repeat (go_big_quiet_step ((go_at_call 62; exact Calls.grown_of (hmm.out _))))); refine wpQuiet_nil ?_; intro wq hw'; obtain ⟨gq, hw''⟩ := hw'; have HGQ := Lib.hid (show Grew _ wq from ⟨gq.n, gq.os, hw''⟩); clear hw'' gq)
          go_wp2_with fail
          simp only [Exit.jump]
          go_ret
          exact ⟨by rw [HR0.out]; rfl, HG.out.trans (HGQ.out.below.mono HG.out.size)⟩
        by_cases g3 : x.seq ≤ (s.ms[j]).seq
        case neg =>
          have HR0 := Lib.hid (HNO.out fun h => g3 (ahd_no HAD.out HQ.out hjl h).2)
          have g3' : decide (x.seq ≤ (s.ms[j]).seq) = false := decide_eq_false g3
          go_wp2_with fail
          (refine wp_region_quiet_grown (by assumption) (by kernel_rfl) ?_; (repeat (go_big_quiet_step ((go_at_call 62; exact Calls.grown_of (hmm.out _))))); refine wpQuiet_nil ?_; intro wq hw'; obtain ⟨gq, hw''⟩ := hw'; have HGQ := Lib.hid (show Grew _ wq from ⟨gq.n, gq.os, hw''⟩); clear hw'' gq)
          go_wp2_with fail
          simp only [Exit.jump]
          go_ret
          exact ⟨by rw [HR0.out]; rfl, HG.out.trans (HGQ.out.below.mono HG.out.size)⟩
        have HY := Lib.hid (ahd_yes HOK.out HAD.out HQ.out hjl g1 g2 g3)
        go_wp2_with fail
        (refine wp_region_quiet_grown (by assumption) (by kernel_rfl) ?_; (repeat (go_big_quiet_step ((go_at_call 62; exact Calls.grown_of (hmm.out _))))); refine wpQuiet_nil ?_; intro wq hw'; obtain ⟨gq, hw''⟩ := hw'; have HGQ := Lib.hid (show Grew _ wq from ⟨gq.n, gq.os, hw''⟩); clear hw'' gq)
        have hg := HGQ.out.below
        have HB4 := Lib.hid (HG.out.trans (hg.mono HG.out.size))
        have z1 := (hg.cell (p := ⟨b, o + 1, none⟩) (lt_of_cell HD1.out)).trans HD1.out
        have HRW4 := Lib.hid (HRW.out.of_block (hg.block _ HRW.out.lt))
        have HBX4 := Lib.hid ((hg.block _ (Array.getElem?_eq_some_iff.1 HBX2.out).1).trans HBX2.out)
        have HR4 := Lib.hid (HR3.out.below hg)
        have y1 := HRW4.out.cell hj64
        have y2 := HRW4.out.frozen j
        clear hg k0 k1 k2 k3 k4 k5 k6 k7 HC2 HD1 HGQ HRW HBX2 HR3
        go_wp2_with fail
        go_step3
        refine ⟨rfl, HH.out r.length _ _ (by simp) ⟨p ++ [x], r, (fun i => if i = j then x.seq else A i), a2, cap - 1, ?_⟩⟩
        repeat apply Exists.intro
        refine ⟨rfl, rfl, by rw [HALL.out]; simp, HY.out.1, HY.out.2, ?_, HI2.out, ?_, ?_, HB4.out.setCell (p := ⟨w.heap.size + 1, j, none⟩) (by show _ ≤ w.heap.size + 1; omega) _⟩
        · exact rows_kept HR4.out HI2.out fun b hb _ => Below.heap_setCell wq ⟨w.heap.size + 1, j, none⟩ _ b (by show b ≠ w.heap.size + 1; omega)
        · exact (HRW4.out.set j _).congr fun i hi => by dsimp only; split <;> rfl
        · exact (Below.heap_setCell wq ⟨w.heap.size + 1, j, none⟩ _ _ (by show w.heap.size ≠ w.heap.size + 1; omega)).trans HBX4.out

end Go.Proofs.Ythohjcfpobeplaa.Sh
