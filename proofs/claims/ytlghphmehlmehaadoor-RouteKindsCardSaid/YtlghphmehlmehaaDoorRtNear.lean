/-
  route.nearest, walked.
-/
import Derived.Test.YtlghphmehlmehaaDoorRtWay
namespace Go.Proofs.YtlghphmehlmehaaDoor.Rt
open Go.RowKit Top
set_option linter.unusedVariables false

/-- the nearest so far: none, or its queue and how far it is. -/
def nearB (ex : List UInt8) (src : Int) (s : Option (List UInt8 × Int)) (b : Bd) : Option (List UInt8 × Int) :=
  if b.ex = ex then (match s with
    | none => some (b.q, wayB src b)
    | some (q, m) => if wayB src b < m then some (b.q, wayB src b) else some (q, m))
  else s
def nearS (ex : List UInt8) (src : Int) (s : Option (List UInt8 × Int)) (l : List Bd) : Option (List UInt8 × Int) := l.foldl (nearB ex src) s
def nearL (ex key : List UInt8) (l : List Bd) : Option (List UInt8 × Int) := nearS ex (ofB key) none l
/-- the queue, in memory. -/
def nearQ (w : World) (base : Nat) (v : Value) (s : Option (List UInt8 × Int)) : Prop :=
  match s with
  | none => v = .slice none 0 0
  | some (q, _) => ∃ g, v = .slice (some ⟨g, 0, none⟩) 1 1 ∧ base ≤ g ∧ w.cell? ⟨g, 0, none⟩ = some (.string ⟨q.toArray⟩)
theorem nearQ.below {w w' : World} {base : Nat} {v : Value} {s : Option (List UInt8 × Int)} (h : nearQ w base v s) (hb : Below w.heap.size w w') : nearQ w' base v s := by
  match s with
  | none => exact h
  | some (q, m) =>
    obtain ⟨g, hv, hg, hc⟩ := h
    exact ⟨g, hv, hg, (hb.cell (lt_of_cell hc)).trans hc⟩
theorem nearQ.mono {w : World} {base base' : Nat} {v : Value} {s : Option (List UInt8 × Int)} (h : nearQ w base v s) (hb : base' ≤ base) : nearQ w base' v s := by
  match s with
  | none => exact h
  | some (q, m) =>
    obtain ⟨g, hv, hg, hc⟩ := h
    exact ⟨g, hv, Nat.le_trans hb hg, hc⟩
def nearM (s : Option (List UInt8 × Int)) : Int := match s with | none => 0 | some (_, m) => m

def nearRel (ex key : List UInt8) (l : List Bd) (w : World) (m : Nat) (a' : Act) (w' : World) : Prop :=
  ∃ (rest : List Bd) (s : Option (List UInt8 × Int)) (a : Option Addr) (cap : Nat) (v : Value) (u10 u11 u12 u13 u14 u15 u16 u17 u18 u19 u20 u21 u22 u23 u24 u25 u26 u27 u28 u29 u30 u31 u32 u33 u34 u35 u36 u37 u38 u39 u40 : Value), a' = { tmps := #[.slice a rest.length cap, .string ⟨ex.toArray⟩, .string ⟨key.toArray⟩, undef, undef, undef, .slice none 0 0, v, .int .u32 (ofB key), .int .u32 (nearM s), u10, u11, u12, u13, u14, u15, u16, u17, u18, u19, u20, u21, u22, u23, u24, u25, u26, u27, u28, u29, u30, u31, u32, u33, u34, u35, u36, u37, u38, u39, u40], defers := [] } ∧
    m = rest.length ∧ nearS ex (ofB key) s rest = nearL ex key l ∧ BsAt w a cap rest ∧ (∀ b ∈ rest, b ∈ l) ∧ Below w.heap.size w w' ∧ nearQ w' w.heap.size v s

set_option maxRecDepth 100000 in
set_option maxHeartbeats 1000000 in
theorem nearest_any (a : Option Addr) (cap : Nat) (l : List Bd) (ex key : List UInt8) (hk : key.length ≤ 1000000) (hq : ∀ b ∈ l, b.q.length ≤ 1000000) (w : World) (hl : BsAt w a cap l) :
    Calls Tryd.prog 17 #[.slice a l.length cap, .string ⟨ex.toArray⟩, .string ⟨key.toArray⟩] w fun r w' => Below w.heap.size w w' ∧ ∃ v, r = .returned v ∧ nearQ w' w.heap.size v (nearL ex key l) := by
  have HL := Lib.hid hl
  have HQ := Lib.hid hq
  have hksz : (⟨key.toArray⟩ : ByteArray).size ≤ maxLen := by show key.toArray.size ≤ maxLen; simp [maxLen]; omega
  have HOF := Lib.hid (of_any ⟨key.toArray⟩ hksz)
  clear hl hq hksz
  go_enter Tryd.func17, Tryd.ntmps17
  go_wp2_with fail
  refine wp_scope_ghost 0 (nearRel ex key l w) rfl ?_ ?_
  · intro H hb'
    have HBK := Lib.hid hb'
    clear hb'
    go_wp2_with (go_at_call 31; refine (HOF.out _).mono ?_; rintro r w2 ⟨rfl, rfl⟩)
    go_step3
    rename_i hK
    refine hK _ _ (HBK.out l.length _ _ ⟨l, none, a, cap, .slice none 0 0, ?_⟩)
    repeat apply Exists.intro
    exact ⟨rfl, rfl, rfl, HL.out, fun b h => h, Below.refl _ _, rfl⟩
  · rintro m a' w' ⟨rest, s, a, cap, v, u10, u11, u12, u13, u14, u15, u16, u17, u18, u19, u20, u21, u22, u23, u24, u25, u26, u27, u28, u29, u30, u31, u32, u33, u34, u35, u36, u37, u38, u39, u40, rfl, rfl, hsp, hat, hsub, hb, hv⟩ H hH
    have HH := Lib.hid hH
    have HSP := Lib.hid hsp
    have HSUB := Lib.hid hsub
    have HB := Lib.hid hb
    have HV := Lib.hid hv
    clear hH hsp hsub
    cases rest with
    | nil =>
      clear hat hb hv
      go_wp2_with fail
      simp only [Exit.jump]
      go_ret
      refine ⟨HB.out, v, rfl, ?_⟩
      rw [← HSP.out]
      exact HV.out
    | cons b rest =>
      obtain ⟨lb, lo, a2, rfl, c0, c1, c2, c3, hat2, hcap1, hrun⟩ := BsAt.head hat
      have HAT2 := Lib.hid hat2
      have d0 := (hb.cell (lt_of_cell c0)).trans c0
      have d1 := (hb.cell (lt_of_cell c1)).trans c1
      have d2 := (hb.cell (lt_of_cell c2)).trans c2
      have d3 := (hb.cell (lt_of_cell c3)).trans c3
      have hbq := HQ.out b (HSUB.out b (by simp))
      have hbN : Below w'.heap.size w' (w'.alloc (.cells #[.string ⟨b.ex.toArray⟩, .string ⟨b.q.toArray⟩, .string ⟨b.key.toArray⟩, .int .i64 b.wt] 28)) := (Below.refl _ _).alloc (Nat.le_refl _) _
      have HBN := Lib.hid hbN
      have HBB := Lib.hid (boxB w' b)
      have hl0 : ((rest.length : Int) + 1 == 0) = false := by simp; omega
      clear c0 c1 c2 c3 hat hat2 hb hv hbN
      by_cases hx : b.ex = ex
      · have hxb : (b.ex == ex) = true := by simpa using hx
        have HX := Lib.hid hx
        have HWAY := Lib.hid (wayTo_any (ofB key) b hbq (w'.alloc (.cells #[.string ⟨b.ex.toArray⟩, .string ⟨b.q.toArray⟩, .string ⟨b.key.toArray⟩, .int .i64 b.wt] 28)))
        have wWAY := Lib.hid (show ∀ Q : Ending → World → Prop, (∀ w2, Below w'.heap.size w' w2 → BoxB w2 w'.heap.size b → Q (.returned (.int .u32 (wayB (ofB key) b))) w2) → Calls Tryd.prog 32 #[.int .u32 (ofB key), .agg #[.string ⟨b.ex.toArray⟩, .string ⟨b.q.toArray⟩, .string ⟨b.key.toArray⟩, .int .i64 b.wt]] (w'.alloc (.cells #[.string ⟨b.ex.toArray⟩, .string ⟨b.q.toArray⟩, .string ⟨b.key.toArray⟩, .int .i64 b.wt] 28)) Q from fun Q hQ => by
          refine HWAY.out.mono ?_
          rintro r w2 ⟨rfl, hb2⟩
          exact hQ w2 (HBN.out.trans (hb2.mono HBN.out.size)) (HBB.out.below hb2))
        have hst := show nearS ex (ofB key) (nearB ex (ofB key) s b) rest = nearL ex key l from HSP.out
        have HST := Lib.hid hst
        clear hx HWAY HBB hst HSP
        generalize hWW : wayB (ofB key) b = W at wWAY
        have HWW := Lib.hid hWW
        clear hWW
        cases s with
        | none =>
          obtain rfl : v = .slice none 0 0 := HV.out
          have hnil : ∀ wx, (binOp .eql 31 (.slice none 0 0) (.slice none 0 0)).run Tryd.prog wx = .ok (.bool true) wx := fun wx => Lib.run_eql_slice_nil wx 31 9 none 0 0 0 0 Tryd.underlying31
          go_wp2_with (go_at_call 32; refine wWAY.out _ ?_; intro w2 hb2 hbb2; have HB2 := Lib.hid hb2; obtain ⟨f0, f1, f2, f3⟩ := hbb2; clear hb2)
          go_step3
          have hb3 : Below w'.heap.size w' (w2.alloc (.cells #[.string ⟨b.q.toArray⟩] 9)) := HB2.out.alloc HB2.out.size _
          refine ⟨rfl, HH.out rest.length _ _ (by simp) ⟨rest, some (b.q, W), a2, cap - 1, .slice (some ⟨w2.heap.size, 0, none⟩) 1 1, ?_⟩⟩
          repeat apply Exists.intro
          refine ⟨rfl, rfl, ?_, HAT2.out, fun c hc => HSUB.out c (by simp [hc]), HB.out.trans (hb3.mono HB.out.size), w2.heap.size, rfl, Nat.le_trans HB.out.size HB2.out.size, by rw [cell_of_row _ _ _ _ _ _ (heap_alloc_new w2 _)]; rfl⟩
          rw [← HST.out]
          unfold nearB
          rw [if_pos HX.out, HWW.out]
        | some qm =>
          obtain ⟨q, m⟩ := qm
          obtain ⟨g, rfl, hgb, hgc⟩ : ∃ g, v = .slice (some ⟨g, 0, none⟩) 1 1 ∧ w.heap.size ≤ g ∧ w'.cell? ⟨g, 0, none⟩ = some (.string ⟨q.toArray⟩) := HV.out
          have hnil : ∀ wx, (binOp .eql 31 (.slice (some ⟨g, 0, none⟩) 1 1) (.slice none 0 0)).run Tryd.prog wx = .ok (.bool false) wx := fun wx => Lib.run_eql_slice_nil wx 31 9 (some ⟨g, 0, none⟩) 1 1 0 0 Tryd.underlying31
          have hm : nearM (some (q, m)) = m := rfl
          clear hgb hgc
          by_cases hlt : W < m
          · go_wp2_with (go_at_call 32; refine wWAY.out _ ?_; intro w2 hb2 hbb2; have HB2 := Lib.hid hb2; obtain ⟨f0, f1, f2, f3⟩ := hbb2; clear hb2)
            go_step3
            have hb3 : Below w'.heap.size w' (w2.alloc (.cells #[.string ⟨b.q.toArray⟩] 9)) := HB2.out.alloc HB2.out.size _
            refine ⟨rfl, HH.out rest.length _ _ (by simp) ⟨rest, some (b.q, W), a2, cap - 1, .slice (some ⟨w2.heap.size, 0, none⟩) 1 1, ?_⟩⟩
            repeat apply Exists.intro
            refine ⟨rfl, rfl, ?_, HAT2.out, fun c hc => HSUB.out c (by simp [hc]), HB.out.trans (hb3.mono HB.out.size), w2.heap.size, rfl, Nat.le_trans HB.out.size HB2.out.size, by rw [cell_of_row _ _ _ _ _ _ (heap_alloc_new w2 _)]; rfl⟩
            rw [← HST.out]
            unfold nearB
            rw [if_pos HX.out, HWW.out]
            show _ = nearS ex (ofB key) (if W < m then some (b.q, W) else some (q, m)) rest
            rw [if_pos hlt]
          · have hltb : decide (W < m) = false := decide_eq_false hlt
            have HLT := Lib.hid hlt
            clear hlt
            go_wp2_with (go_at_call 32; refine wWAY.out _ ?_; intro w2 hb2 hbb2; have HB2 := Lib.hid hb2; obtain ⟨f0, f1, f2, f3⟩ := hbb2; clear hb2)
            go_step3
            refine ⟨rfl, HH.out rest.length _ _ (by simp) ⟨rest, some (q, m), a2, cap - 1, .slice (some ⟨g, 0, none⟩) 1 1, ?_⟩⟩
            repeat apply Exists.intro
            refine ⟨rfl, rfl, ?_, HAT2.out, fun c hc => HSUB.out c (by simp [hc]), HB.out.trans (HB2.out.mono HB.out.size), HV.out.below HB2.out⟩
            rw [← HST.out]
            unfold nearB
            rw [if_pos HX.out, HWW.out]
            show _ = nearS ex (ofB key) (if W < m then some (b.q, W) else some (q, m)) rest
            rw [if_neg (by have := HLT.out; omega)]
      · have hxb : (b.ex == ex) = false := by simpa using hx
        have HX := Lib.hid hx
        clear hx
        go_wp2_with fail
        go_step3
        refine ⟨rfl, HH.out rest.length _ _ (by simp) ⟨rest, s, a2, cap - 1, v, ?_⟩⟩
        repeat apply Exists.intro
        exact ⟨rfl, rfl, by rw [← HSP.out]; show _ = nearS ex (ofB key) (nearB ex (ofB key) s b) rest; unfold nearB; rw [if_neg HX.out], HAT2.out, fun c hc => HSUB.out c (by simp [hc]), HB.out.trans (HBN.out.mono HB.out.size), HV.out.below HBN.out⟩

end Go.Proofs.YtlghphmehlmehaaDoor.Rt
