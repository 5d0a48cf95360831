/-
  Records of a shard's log as plain data, and in memory; what each makes of a shard; opened shards.
  slip.Same of two records that are alike, walked.
  slip.mayTag, slip.mayBatch, slip.May of records that may be, walked.
-/
import Derived.Test.YthohjcfpobeplaaShSame
import Derived.Test.YthohjcfpobeplaaShGetG
import Derived.Test.YthohjcfpobeplaaShMay

namespace Go.Proofs.Ythohjcfpobeplaa.Sl
open Go.RowKit Rg Sh
set_option linter.unusedVariables false
set_option linter.unusedSimpArgs false

/-- a record. -/
structure Rc where
  kd : Int
  tag : Int
  back : Bool
  bt : List Mg
  sd : Sd
  deriving DecidableEq
def MayRc (r : Rc) : Prop := r.back = false ∧
  (r.kd = 1 ∧ r.tag = 0 ∧ r.sd = ⟨false, 0, [], [], []⟩ ∧ 1 ≤ r.bt.length ∧ r.bt.length ≤ 8 ∧ (∀ m ∈ r.bt, MayMg m) ∨
   (r.kd = 2 ∨ r.kd = 3 ∨ r.kd = 4) ∧ 1 ≤ r.tag ∧ r.tag ≤ 1073741824 ∧ r.bt = [] ∧ r.sd = ⟨false, 0, [], [], []⟩ ∨
   (r.kd = 5 ∨ r.kd = 6) ∧ r.tag = 0 ∧ r.bt = [] ∧ r.sd = ⟨false, 0, [], [], []⟩ ∨
   r.kd = 7 ∧ r.tag = 0 ∧ r.bt = [] ∧ MaySd r.sd)
/-- what a record that may be makes of a shard. -/
def appC (s : Sd) (r : Rc) : Int :=
  if r.kd = 1 then putC s r.bt
  else if r.kd = 2 then (if getC s = 0 ∧ s.nx ≠ r.tag then 1 else getC s)
  else if r.kd = 3 then outC s r.tag
  else if r.kd = 4 then outC s r.tag
  else if r.kd = 5 then setC s true
  else if r.kd = 6 then setC s false
  else 0
def appS (s : Sd) (r : Rc) : Sd :=
  if r.kd = 1 then putS s r.bt
  else if r.kd = 2 then (if getC s = 0 ∧ s.nx ≠ r.tag then s else getS s)
  else if r.kd = 3 then ackS s r.tag
  else if r.kd = 4 then nackS s r.tag
  else if r.kd = 5 then setS s true
  else if r.kd = 6 then setS s false
  else r.sd
/-- the shard that records tell. -/
def openF (s : Sd) (l : List Rc) : Sd × Int :=
  match l with
  | [] => (s, 0)
  | r :: l => if appC s r = 0 then openF (appS s r) l else (s, appC s r)
theorem open_nil (s : Sd) : openF s [] = (s, 0) := rfl
theorem open_cons (s : Sd) (r : Rc) (l : List Rc) : openF s (r :: l) = if appC s r = 0 then openF (appS s r) l else (s, appC s r) := rfl
theorem app_not {s : Sd} {r : Rc} (h : appC s r ≠ 0) : appS s r = s := by
  unfold appC at h
  unfold appS
  by_cases h1 : r.kd = 1
  · rw [if_pos h1] at h; rw [if_pos h1]; unfold putS; rw [if_neg h]
  rw [if_neg h1] at h; rw [if_neg h1]
  by_cases h2 : r.kd = 2
  · rw [if_pos h2] at h; rw [if_pos h2]
    by_cases h3 : getC s = 0 ∧ s.nx ≠ r.tag
    · rw [if_pos h3]
    · rw [if_neg h3] at h; rw [if_neg h3]; unfold getS; rw [if_neg h]
  rw [if_neg h2] at h; rw [if_neg h2]
  by_cases h3 : r.kd = 3
  · rw [if_pos h3] at h; rw [if_pos h3]; unfold ackS; rw [if_neg h]
  rw [if_neg h3] at h; rw [if_neg h3]
  by_cases h4 : r.kd = 4
  · rw [if_pos h4] at h; rw [if_pos h4]; unfold nackS; rw [if_neg h]
  rw [if_neg h4] at h; rw [if_neg h4]
  by_cases h5 : r.kd = 5
  · rw [if_pos h5] at h; rw [if_pos h5]; unfold setS; rw [if_neg h]
  rw [if_neg h5] at h; rw [if_neg h5]
  by_cases h6 : r.kd = 6
  · rw [if_pos h6] at h; rw [if_pos h6]; unfold setS; rw [if_neg h]
  rw [if_neg h6] at h
  exact absurd rfl h
theorem open_snoc {s : Sd} {l : List Rc} (r : Rc) (h : (openF s l).2 = 0) : openF s (l ++ [r]) = if appC (openF s l).1 r = 0 then (appS (openF s l).1 r, 0) else ((openF s l).1, appC (openF s l).1 r) := by
  induction l generalizing s with
  | nil => rw [List.nil_append, open_cons]; rfl
  | cons x l ih =>
    rw [open_cons] at h
    by_cases hx : appC s x = 0
    · rw [if_pos hx] at h
      rw [List.cons_append, open_cons, if_pos hx, open_cons, if_pos hx]
      exact ih h
    · rw [if_neg hx] at h
      exact absurd h hx
theorem open_front {s : Sd} {l : List Rc} (k : Nat) (h : (openF s l).2 = 0) : (openF s (l.take k)).2 = 0 := by
  induction l generalizing s k with
  | nil => simp [open_nil]
  | cons x l ih =>
    cases k with
    | zero => rfl
    | succ k =>
      rw [open_cons] at h
      by_cases hx : appC s x = 0
      · rw [if_pos hx] at h
        rw [List.take_succ_cons, open_cons, if_pos hx]
        exact ih k h
      · rw [if_neg hx] at h
        exact absurd h hx

/-! ### in memory -/
/-- a record and where its rows are. -/
structure Rx where
  r : Rc
  ba : Option Addr
  bc : Nat
  ra : Option Addr
  rc : Nat
  ha : Option Addr
  hc : Nat
  ma : Option Addr
  mc : Nat
def rxC (x : Rx) : List Value := [.int .i64 x.r.kd, .int .i64 x.r.tag, .bool x.r.back, .slice x.ba x.r.bt.length x.bc, .bool x.r.sd.fr, .int .i64 x.r.sd.nx, .slice x.ra x.r.sd.rd.length x.rc, .slice x.ha x.r.sd.hd.length x.hc, .slice x.ma x.r.sd.ms.length x.mc]
structure RcAt (w : World) (ba : Option Addr) (bc : Nat) (ra : Option Addr) (rc : Nat) (ha : Option Addr) (hc : Nat) (ma : Option Addr) (mc : Nat) (r : Rc) : Prop where
  bt : MgsAt w ba bc r.bt
  bn : ba = none → bc = 0
  bl : r.bt.length ≤ 1000
  sd : SdAt w ra rc ha hc ma mc r.sd
theorem RcAt.below {w w' : World} (ba : Option Addr) (bc : Nat) (ra : Option Addr) (rc : Nat) (ha : Option Addr) (hc : Nat) (ma : Option Addr) (mc : Nat) {r : Rc} (h : RcAt w ba bc ra rc ha hc ma mc r) (hb : Below w.heap.size w w') : RcAt w' ba bc ra rc ha hc ma mc r := ⟨h.bt.below hb, h.bn, h.bl, h.sd.below _ _ _ _ _ _ hb⟩
def RxAt (w : World) (x : Rx) : Prop := RcAt w x.ba x.bc x.ra x.rc x.ha x.hc x.ma x.mc x.r
theorem rx_one (l : List Rx) : ∀ u ∈ l.flatMap rxC, u.oneCell' = true := by
  intro u hu
  obtain ⟨e, _, he⟩ := List.mem_flatMap.1 hu
  simp only [rxC, List.mem_cons, List.not_mem_nil, or_false] at he
  rcases he with rfl | rfl | rfl | rfl | rfl | rfl | rfl | rfl | rfl <;> rfl
theorem rxE : El 9 rxC 89 84 :=
  ⟨by decide, fun _ => rfl, rx_one, Try.underlying84, fun w => by kernel_rfl, el_info (by' := 136) (z := .agg #[.int .i64 0, .int .i64 0, .bool false, .slice none 0 0, .bool false, .int .i64 0, .slice none 0 0, .slice none 0 0, .slice none 0 0]) (by kernel_rfl) (by decide) rfl⟩
/-- a slice of records. -/
structure RlAt (w : World) (a : Option Addr) (cap : Nat) (l : List Rx) : Prop where
  at' : RowsAt 9 rxC w a cap l
  nil : a = none → cap = 0
  all : ∀ x ∈ l, RxAt w x
theorem RxAt.below {w w' : World} {x : Rx} (h : RxAt w x) (hb : Below w.heap.size w w') : RxAt w' x := RcAt.below _ _ _ _ _ _ _ _ h hb
theorem RlAt.below {w w' : World} {a : Option Addr} {cap : Nat} {l : List Rx} (h : RlAt w a cap l) (hb : Below w.heap.size w w') : RlAt w' a cap l := ⟨h.at'.below hb, h.nil, fun x hx => (h.all x hx).below hb⟩
def rcs (l : List Rx) : List Rc := l.map (·.r)

theorem box9 {w : World} {g : Nat} {x0 x1 x2 x3 x4 x5 x6 x7 x8 : Value} {t : TypeId} (h : w.heap[g]? = some (.cells #[x0, x1, x2, x3, x4, x5, x6, x7, x8] t (0, 0))) :
    (w.cell? ⟨g, 0, none⟩ = some x0 ∧ w.cell? ⟨g, 1, none⟩ = some x1 ∧ w.cell? ⟨g, 2, none⟩ = some x2 ∧ w.cell? ⟨g, 3, none⟩ = some x3 ∧ w.cell? ⟨g, 4, none⟩ = some x4 ∧ w.cell? ⟨g, 5, none⟩ = some x5 ∧ w.cell? ⟨g, 6, none⟩ = some x6 ∧ w.cell? ⟨g, 7, none⟩ = some x7 ∧ w.cell? ⟨g, 8, none⟩ = some x8) ∧
    w.frozen? ⟨g, 0, none⟩ = false ∧ w.frozen? ⟨g, 1, none⟩ = false ∧ w.frozen? ⟨g, 2, none⟩ = false ∧ w.frozen? ⟨g, 3, none⟩ = false ∧ w.frozen? ⟨g, 4, none⟩ = false ∧ w.frozen? ⟨g, 5, none⟩ = false ∧ w.frozen? ⟨g, 6, none⟩ = false ∧ w.frozen? ⟨g, 7, none⟩ = false ∧ w.frozen? ⟨g, 8, none⟩ = false := by
  refine ⟨⟨?_, ?_, ?_, ?_, ?_, ?_, ?_, ?_, ?_⟩, ?_, ?_, ?_, ?_, ?_, ?_, ?_, ?_, ?_⟩
  all_goals first | (rw [cell_of_row w _ _ _ _ _ h]; rfl) | simp [World.frozen?, h]

end Go.Proofs.Ythohjcfpobeplaa.Sl

namespace Go.Proofs.Ythohjcfpobeplaa.Sl
open Go.RowKit Rg Sh
set_option linter.unusedVariables false
set_option linter.unusedSimpArgs false

set_option maxHeartbeats 2000000 in
theorem same_eq (r : Rc) (ba : Option Addr) (bc : Nat) (ra : Option Addr) (rc : Nat) (ha : Option Addr) (hc : Nat) (ma : Option Addr) (mc : Nat) (ba2 : Option Addr) (bc2 : Nat) (ra2 : Option Addr) (rc2 : Nat) (ha2 : Option Addr) (hc2 : Nat) (ma2 : Option Addr) (mc2 : Nat) (w : World) (hs : RcAt w ba bc ra rc ha hc ma mc r) (ht : RcAt w ba2 bc2 ra2 rc2 ha2 hc2 ma2 mc2 r) :
    Calls Try.prog 99 #[.agg #[.int .i64 r.kd, .int .i64 r.tag, .bool r.back, .slice ba r.bt.length bc, .bool r.sd.fr, .int .i64 r.sd.nx, .slice ra r.sd.rd.length rc, .slice ha r.sd.hd.length hc, .slice ma r.sd.ms.length mc], .agg #[.int .i64 r.kd, .int .i64 r.tag, .bool r.back, .slice ba2 r.bt.length bc2, .bool r.sd.fr, .int .i64 r.sd.nx, .slice ra2 r.sd.rd.length rc2, .slice ha2 r.sd.hd.length hc2, .slice ma2 r.sd.ms.length mc2]] w fun e w' => e = .returned (.bool true) ∧ Below w.heap.size w w' := by
  obtain ⟨hx, hy, hb0, hWs⟩ := two_box (w := w) (.cells #[.int .i64 r.kd, .int .i64 r.tag, .bool r.back, .slice ba r.bt.length bc, .bool r.sd.fr, .int .i64 r.sd.nx, .slice ra r.sd.rd.length rc, .slice ha r.sd.hd.length hc, .slice ma r.sd.ms.length mc] 89) (.cells #[.int .i64 r.kd, .int .i64 r.tag, .bool r.back, .slice ba2 r.bt.length bc2, .bool r.sd.fr, .int .i64 r.sd.nx, .slice ra2 r.sd.rd.length rc2, .slice ha2 r.sd.hd.length hc2, .slice ma2 r.sd.ms.length mc2] 89)
  obtain ⟨W, hW⟩ : ∃ W, W = (w.alloc (.cells #[.int .i64 r.kd, .int .i64 r.tag, .bool r.back, .slice ba r.bt.length bc, .bool r.sd.fr, .int .i64 r.sd.nx, .slice ra r.sd.rd.length rc, .slice ha r.sd.hd.length hc, .slice ma r.sd.ms.length mc] 89)).alloc (.cells #[.int .i64 r.kd, .int .i64 r.tag, .bool r.back, .slice ba2 r.bt.length bc2, .bool r.sd.fr, .int .i64 r.sd.nx, .slice ra2 r.sd.rd.length rc2, .slice ha2 r.sd.hd.length hc2, .slice ma2 r.sd.ms.length mc2] 89) := ⟨_, rfl⟩
  rw [← hW] at hx hy hb0 hWs
  have HS1 := Lib.hid (RcAt.below ba bc ra rc ha hc ma mc hs hb0)
  have HT1 := Lib.hid (RcAt.below ba2 bc2 ra2 rc2 ha2 hc2 ma2 mc2 ht hb0)
  have HBX := Lib.hid (fun (wx : World) (h : Below W.heap.size W wx) => And.intro (box9 (box_bl hx h)).1 (box9 (box_bl hy h)).1)
  have HB0 := Lib.hid hb0
  have HW := Lib.hid hW
  clear hs ht hx hy hb0 hW
  have HM := Lib.hid fun wx (h : Below W.heap.size W wx) => mg_eqs ba ba2 bc bc2 r.bt r.bt wx (HS1.out.bt.below h) (HT1.out.bt.below h)
  have HH := Lib.hid fun wx (h : Below W.heap.size W wx) => psame_any r.sd r.sd ra rc ha hc ma mc ra2 rc2 ha2 hc2 ma2 mc2 wx (HS1.out.sd.below _ _ _ _ _ _ h) (HT1.out.sd.below _ _ _ _ _ _ h)
  obtain ⟨⟨x0, x1, x2, x3, x4, x5, x6, x7, x8⟩, ⟨y0, y1, y2, y3, y4, y5, y6, y7, y8⟩⟩ := HBX.out W (Below.refl _ _)
  rw [HW.out] at x0 x1 x2 x3 x4 x5 x6 x7 x8 y0 y1 y2 y3 y4 y5 y6 y7 y8
  have D2 : Hid (decide (r.bt = r.bt) = true) := Lib.hid (decide_eq_true rfl)
  have D3 : Hid (decide (r.sd = r.sd) = true) := Lib.hid (decide_eq_true rfl)
  have HD0 : Hid (Below W.heap.size W ((w.alloc (.cells #[.int .i64 r.kd, .int .i64 r.tag, .bool r.back, .slice ba r.bt.length bc, .bool r.sd.fr, .int .i64 r.sd.nx, .slice ra r.sd.rd.length rc, .slice ha r.sd.hd.length hc, .slice ma r.sd.ms.length mc] 89)).alloc (.cells #[.int .i64 r.kd, .int .i64 r.tag, .bool r.back, .slice ba2 r.bt.length bc2, .bool r.sd.fr, .int .i64 r.sd.nx, .slice ra2 r.sd.rd.length rc2, .slice ha2 r.sd.hd.length hc2, .slice ma2 r.sd.ms.length mc2] 89))) := Lib.hid (by rw [← HW.out]; exact Below.refl _ _)
  go_enter Try.func99, Try.ntmps99
  go_wp2_with (first | (go_at_call 85; refine (HM.out _ HD0.out).mono ?_; rintro e w1 ⟨rfl, hd⟩; have HD1 := Lib.hid (HD0.out.trans (hd.below.mono HD0.out.size)); clear hd; rw [D2.out]; obtain ⟨⟨x0, x1, x2, x3, x4, x5, x6, x7, x8⟩, ⟨y0, y1, y2, y3, y4, y5, y6, y7, y8⟩⟩ := HBX.out _ HD1.out) | (go_at_call 37; refine (HH.out _ HD1.out).mono ?_; rintro e w2 ⟨rfl, hd⟩; have HD2 := Lib.hid (HD1.out.trans (hd.mono HD1.out.size)); clear hd; rw [D3.out]; obtain ⟨⟨x0, x1, x2, x3, x4, x5, x6, x7, x8⟩, ⟨y0, y1, y2, y3, y4, y5, y6, y7, y8⟩⟩ := HBX.out _ HD2.out))
  go_ret
  exact ⟨rfl, HB0.out.trans (HD2.out.mono HB0.out.size)⟩

end Go.Proofs.Ythohjcfpobeplaa.Sl

namespace Go.Proofs.Ythohjcfpobeplaa.Sl
open Go.RowKit Rg Sh
set_option linter.unusedVariables false
set_option linter.unusedSimpArgs false

set_option maxHeartbeats 400000 in
theorem mayTag_good (t : Int) (h1 : 1 ≤ t) (h2 : t ≤ 1073741824) (w : World) : Calls Try.prog 124 #[.int .i64 t] w fun e w' => e = .returned (.bool true) ∧ w = w' := by
  go_enter Try.func124, Try.ntmps124
  go_wp2_with fail
  go_ret
  exact ⟨rfl, rfl⟩

def mbRel (w : World) (m : Nat) (a' : Act) (w' : World) : Prop :=
  ∃ (r : List Mg) (ta : Option Addr) (tc : Nat) (u1 : Value) (u3 u4 u5 u6 u7 u8 u9 u10 u11 u12 u13 u14 u15 u16 u17 u18 u19 : Value), a' = { tmps := #[.slice ta r.length tc, u1, .bool false, u3, u4, u5, u6, u7, u8, u9, u10, u11, u12, u13, u14, u15, u16, u17, u18, u19], defers := [] } ∧
    m = r.length ∧ MgsAt w ta tc r ∧ (ta = none → tc = 0) ∧ Grew w w' ∧ (∀ m ∈ r, MayMg m)

set_option maxRecDepth 100000 in
set_option maxHeartbeats 4000000 in
theorem mayBatch_good (a : Option Addr) (cap : Nat) (l : List Mg) (w : World) (hf : MgsAt w a cap l) (hn : a = none → cap = 0) (h1 : 1 ≤ l.length) (h8 : l.length ≤ 8) (hm : ∀ m ∈ l, MayMg m) :
    Calls Try.prog 123 #[.slice a l.length cap] w fun e w' => e = .returned (.bool true) ∧ Grew w w' := by
  have HF := Lib.hid hf
  have HN := Lib.hid hn
  have HM := Lib.hid hm
  have hlen := hf.len
  have hmax := hf.max
  unfold maxLen at hmax
  clear hf hn hm
  have e1 : ((l.length : Int) == 0) = false := by rw [beq_eq_false_iff_ne]; omega
  have e2 : ¬ (8 : Int) < (l.length : Int) := by omega
  go_enter Try.func123, Try.ntmps123
  go_wp2_with fail
  refine wp_scope_ghost 0 (mbRel w) rfl ?_ ?_
  · intro H hb'
    have HBK := Lib.hid hb'
    clear hb'
    go_wp2_with fail
    go_step3
    rename_i hK
    refine hK _ _ (HBK.out l.length _ _ ⟨l, a, cap, ?_⟩)
    repeat apply Exists.intro
    exact ⟨rfl, rfl, HF.out, HN.out, Grew.refl _, HM.out⟩
  · clear e1 e2 hlen hmax
    rintro m a' w' ⟨r, ta, tc, u1, u3, u4, u5, u6, u7, u8, u9, u10, u11, u12, u13, u14, u15, u16, u17, u18, u19, rfl, rfl, hr, hn, hg, hm⟩ H hH
    have HH := Lib.hid hH
    have HR := Lib.hid hr
    have HNN := Lib.hid hn
    have HG := Lib.hid hg
    have HMM := Lib.hid hm
    clear hH hr hn hg hm
    cases r with
    | nil =>
      go_wp2_with fail
      simp only [Exit.jump]
      go_ret
      exact ⟨rfl, HG.out⟩
    | cons x rest =>
      have n0 : (((rest.length : Int) + 1) == 0) = false := by rw [beq_eq_false_iff_ne]; omega
      have n1 : 0 < rest.length + 1 := by omega
      have hmax := HR.out.max
      have hlen := HR.out.len
      unfold maxLen at hmax
      simp only [List.length_cons] at hlen
      have HX : Hid (decide (MayMg x) = true) := Lib.hid (decide_eq_true (HMM.out x (by simp)))
      obtain ⟨b, o, a2, rfl, hcl, hr2, h1c, hn2, hsl⟩ := mgE.head HR.out
      have d0 := hcl 0 _ rfl
      have d1 := hcl 1 _ rfl
      have d2 := hcl 2 _ rfl
      have d3 := hcl 3 _ rfl
      have d4 := hcl 4 _ rfl
      rw [Nat.add_zero] at d0
      have x0 := (HG.out.below.cell (p := ⟨b, o, none⟩) (lt_of_cell d0)).trans d0
      have x1 := (HG.out.below.cell (p := ⟨b, o + 1, none⟩) (lt_of_cell d1)).trans d1
      have x2 := (HG.out.below.cell (p := ⟨b, o + 2, none⟩) (lt_of_cell d2)).trans d2
      have x3 := (HG.out.below.cell (p := ⟨b, o + 3, none⟩) (lt_of_cell d3)).trans d3
      have x4 := (HG.out.below.cell (p := ⟨b, o + 4, none⟩) (lt_of_cell d4)).trans d4
      have HR2 := Lib.hid hr2
      have HN2 := Lib.hid hn2
      have HC := Lib.hid (mayMsg_any x w')
      clear hr2 hcl hn2 d0 d1 d2 d3 d4
      go_wp2_with (go_at_call 62; refine HC.out.mono ?_; rintro e w2 ⟨rfl, hg2⟩; rw [HX.out]; have HG2 := Lib.hid (HG.out.trans hg2); clear hg2)
      go_step3
      refine ⟨rfl, HH.out rest.length _ _ (by simp) ⟨rest, a2, tc - 1, ?_⟩⟩
      repeat apply Exists.intro
      exact ⟨rfl, rfl, HR2.out, HN2.out, HG2.out, fun m hm => HMM.out m (by simp [hm])⟩

theorem mgs_nil (w : World) : MgsAt w none 0 [] := RowsAt.nil _ _ _ _ _ (by simp [maxLen])
theorem sd_zero (w : World) : SdAt w none 0 none 0 none 0 ⟨false, 0, [], [], []⟩ := ⟨RowsAt.nil _ _ _ _ _ (by simp [maxLen]), RowsAt.nil _ _ _ _ _ (by simp [maxLen]), RowsAt.nil _ _ _ _ _ (by simp [maxLen]), fun _ => rfl, fun _ => rfl, fun _ => rfl, by decide⟩

set_option maxRecDepth 100000 in
set_option maxHeartbeats 4000000 in
theorem may_put (bt : List Mg) (ba : Option Addr) (bc : Nat) (ra : Option Addr) (rc : Nat) (ha : Option Addr) (hc : Nat) (ma : Option Addr) (mc : Nat) (w : World) (hr : RcAt w ba bc ra rc ha hc ma mc ⟨1, 0, false, bt, ⟨false, 0, [], [], []⟩⟩) (h1 : 1 ≤ bt.length) (h2 : bt.length ≤ 8) (h3 : ∀ m ∈ bt, MayMg m) :
    Calls Try.prog 100 #[.agg #[.int .i64 1, .int .i64 0, .bool false, .slice ba bt.length bc, .bool false, .int .i64 0, .slice ra 0 rc, .slice ha 0 hc, .slice ma 0 mc]] w fun e w' => e = .returned (.bool true) ∧ Below w.heap.size w w' := by
  obtain ⟨hx, hb0, hWs⟩ := one_box (w := w) (.cells #[.int .i64 1, .int .i64 0, .bool false, .slice ba bt.length bc, .bool false, .int .i64 0, .slice ra 0 rc, .slice ha 0 hc, .slice ma 0 mc] 89)
  obtain ⟨W, hW⟩ : ∃ W, W = w.alloc (.cells #[.int .i64 1, .int .i64 0, .bool false, .slice ba bt.length bc, .bool false, .int .i64 0, .slice ra 0 rc, .slice ha 0 hc, .slice ma 0 mc] 89) := ⟨_, rfl⟩
  rw [← hW] at hx hb0 hWs
  have hr1 := RcAt.below ba bc ra rc ha hc ma mc hr hb0
  have HB0 := Lib.hid hb0
  have HBX := Lib.hid (fun (wx : World) (h : Below W.heap.size W wx) => (box9 (box_bl hx h)).1)
  have HD0 : Hid (Below W.heap.size W (w.alloc (.cells #[.int .i64 1, .int .i64 0, .bool false, .slice ba bt.length bc, .bool false, .int .i64 0, .slice ra 0 rc, .slice ha 0 hc, .slice ma 0 mc] 89))) := Lib.hid (by rw [← hW]; exact Below.refl _ _)
  have HS : Hid (∀ (wx : World), Below W.heap.size W wx → Calls Try.prog 99 #[.agg #[.int .i64 1, .int .i64 0, .bool false, .slice ba bt.length bc, .bool false, .int .i64 0, .slice ra 0 rc, .slice ha 0 hc, .slice ma 0 mc], .agg #[.int .i64 1, .int .i64 0, .bool false, .slice ba bt.length bc, .bool false, .int .i64 0, .slice none 0 0, .slice none 0 0, .slice none 0 0]] wx fun e w' => e = .returned (.bool true) ∧ Below wx.heap.size wx w') := Lib.hid fun (wx : World) (h : Below W.heap.size W wx) => same_eq ⟨1, 0, false, bt, ⟨false, 0, [], [], []⟩⟩ ba bc ra rc ha hc ma mc ba bc none 0 none 0 none 0 wx (RcAt.below ba bc ra rc ha hc ma mc hr1 h) ⟨hr1.bt.below h, hr1.bn, hr1.bl, sd_zero wx⟩
  have HMB := Lib.hid (mayBatch_good ba bc bt W hr1.bt hr1.bn h1 h2 h3)
  rw [hW] at HMB
  obtain ⟨x0, x1, x2, x3, x4, x5, x6, x7, x8⟩ := HBX.out _ HD0.out
  clear hr1 hr hx hb0 hW hWs h1 h2 h3
  go_enter Try.func100, Try.ntmps100
  go_wp2_with (first | (go_at_call 123; refine HMB.out.mono ?_; rintro e w1 ⟨rfl, hg⟩; have HD1 := Lib.hid (HD0.out.trans (hg.below.mono HD0.out.size)); clear hg; obtain ⟨x0, x1, x2, x3, x4, x5, x6, x7, x8⟩ := HBX.out _ HD1.out) | (go_at_call 99; refine (HS.out _ HD1.out).mono ?_; rintro e w2 ⟨rfl, hd⟩; have HD2 := Lib.hid (HD1.out.trans (hd.mono HD1.out.size)); clear hd))
  go_ret
  exact ⟨rfl, HB0.out.trans (HD2.out.mono HB0.out.size)⟩

set_option maxRecDepth 100000 in
set_option maxHeartbeats 4000000 in
theorem may_get (t : Int) (ba : Option Addr) (bc : Nat) (ra : Option Addr) (rc : Nat) (ha : Option Addr) (hc : Nat) (ma : Option Addr) (mc : Nat) (w : World) (hr : RcAt w ba bc ra rc ha hc ma mc ⟨2, t, false, [], ⟨false, 0, [], [], []⟩⟩) (h1 : 1 ≤ t) (h2 : t ≤ 1073741824) :
    Calls Try.prog 100 #[.agg #[.int .i64 2, .int .i64 t, .bool false, .slice ba 0 bc, .bool false, .int .i64 0, .slice ra 0 rc, .slice ha 0 hc, .slice ma 0 mc]] w fun e w' => e = .returned (.bool true) ∧ Below w.heap.size w w' := by
  obtain ⟨hx, hb0, hWs⟩ := one_box (w := w) (.cells #[.int .i64 2, .int .i64 t, .bool false, .slice ba 0 bc, .bool false, .int .i64 0, .slice ra 0 rc, .slice ha 0 hc, .slice ma 0 mc] 89)
  obtain ⟨W, hW⟩ : ∃ W, W = w.alloc (.cells #[.int .i64 2, .int .i64 t, .bool false, .slice ba 0 bc, .bool false, .int .i64 0, .slice ra 0 rc, .slice ha 0 hc, .slice ma 0 mc] 89) := ⟨_, rfl⟩
  rw [← hW] at hx hb0 hWs
  have hr1 := RcAt.below ba bc ra rc ha hc ma mc hr hb0
  have HB0 := Lib.hid hb0
  have HBX := Lib.hid (fun (wx : World) (h : Below W.heap.size W wx) => (box9 (box_bl hx h)).1)
  have HD0 : Hid (Below W.heap.size W (w.alloc (.cells #[.int .i64 2, .int .i64 t, .bool false, .slice ba 0 bc, .bool false, .int .i64 0, .slice ra 0 rc, .slice ha 0 hc, .slice ma 0 mc] 89))) := Lib.hid (by rw [← hW]; exact Below.refl _ _)
  have HS : Hid (∀ (wx : World), Below W.heap.size W wx → Calls Try.prog 99 #[.agg #[.int .i64 2, .int .i64 t, .bool false, .slice ba 0 bc, .bool false, .int .i64 0, .slice ra 0 rc, .slice ha 0 hc, .slice ma 0 mc], .agg #[.int .i64 2, .int .i64 t, .bool false, .slice none 0 0, .bool false, .int .i64 0, .slice none 0 0, .slice none 0 0, .slice none 0 0]] wx fun e w' => e = .returned (.bool true) ∧ Below wx.heap.size wx w') := Lib.hid fun (wx : World) (h : Below W.heap.size W wx) => same_eq ⟨2, t, false, [], ⟨false, 0, [], [], []⟩⟩ ba bc ra rc ha hc ma mc none 0 none 0 none 0 none 0 wx (RcAt.below ba bc ra rc ha hc ma mc hr1 h) ⟨mgs_nil wx, fun _ => rfl, Nat.zero_le _, sd_zero wx⟩
  have HMB := Lib.hid (mayTag_good t h1 h2 W)
  rw [hW] at HMB
  obtain ⟨x0, x1, x2, x3, x4, x5, x6, x7, x8⟩ := HBX.out _ HD0.out
  clear hr1 hr hx hb0 hW hWs h1 h2
  go_enter Try.func100, Try.ntmps100
  go_wp2_with (first | (go_at_call 124; refine HMB.out.mono ?_; rintro e w1 ⟨rfl, rfl⟩; have HD1 := HD0) | (go_at_call 99; refine (HS.out _ HD1.out).mono ?_; rintro e w2 ⟨rfl, hd⟩; have HD2 := Lib.hid (HD1.out.trans (hd.mono HD1.out.size)); clear hd))
  go_ret
  exact ⟨rfl, HB0.out.trans (HD2.out.mono HB0.out.size)⟩

set_option maxRecDepth 100000 in
set_option maxHeartbeats 4000000 in
theorem may_ack (t : Int) (ba : Option Addr) (bc : Nat) (ra : Option Addr) (rc : Nat) (ha : Option Addr) (hc : Nat) (ma : Option Addr) (mc : Nat) (w : World) (hr : RcAt w ba bc ra rc ha hc ma mc ⟨3, t, false, [], ⟨false, 0, [], [], []⟩⟩) (h1 : 1 ≤ t) (h2 : t ≤ 1073741824) :
    Calls Try.prog 100 #[.agg #[.int .i64 3, .int .i64 t, .bool false, .slice ba 0 bc, .bool false, .int .i64 0, .slice ra 0 rc, .slice ha 0 hc, .slice ma 0 mc]] w fun e w' => e = .returned (.bool true) ∧ Below w.heap.size w w' := by
  obtain ⟨hx, hb0, hWs⟩ := one_box (w := w) (.cells #[.int .i64 3, .int .i64 t, .bool false, .slice ba 0 bc, .bool false, .int .i64 0, .slice ra 0 rc, .slice ha 0 hc, .slice ma 0 mc] 89)
  obtain ⟨W, hW⟩ : ∃ W, W = w.alloc (.cells #[.int .i64 3, .int .i64 t, .bool false, .slice ba 0 bc, .bool false, .int .i64 0, .slice ra 0 rc, .slice ha 0 hc, .slice ma 0 mc] 89) := ⟨_, rfl⟩
  rw [← hW] at hx hb0 hWs
  have hr1 := RcAt.below ba bc ra rc ha hc ma mc hr hb0
  have HB0 := Lib.hid hb0
  have HBX := Lib.hid (fun (wx : World) (h : Below W.heap.size W wx) => (box9 (box_bl hx h)).1)
  have HD0 : Hid (Below W.heap.size W (w.alloc (.cells #[.int .i64 3, .int .i64 t, .bool false, .slice ba 0 bc, .bool false, .int .i64 0, .slice ra 0 rc, .slice ha 0 hc, .slice ma 0 mc] 89))) := Lib.hid (by rw [← hW]; exact Below.refl _ _)
  have HS : Hid (∀ (wx : World), Below W.heap.size W wx → Calls Try.prog 99 #[.agg #[.int .i64 3, .int .i64 t, .bool false, .slice ba 0 bc, .bool false, .int .i64 0, .slice ra 0 rc, .slice ha 0 hc, .slice ma 0 mc], .agg #[.int .i64 3, .int .i64 t, .bool false, .slice none 0 0, .bool false, .int .i64 0, .slice none 0 0, .slice none 0 0, .slice none 0 0]] wx fun e w' => e = .returned (.bool true) ∧ Below wx.heap.size wx w') := Lib.hid fun (wx : World) (h : Below W.heap.size W wx) => same_eq ⟨3, t, false, [], ⟨false, 0, [], [], []⟩⟩ ba bc ra rc ha hc ma mc none 0 none 0 none 0 none 0 wx (RcAt.below ba bc ra rc ha hc ma mc hr1 h) ⟨mgs_nil wx, fun _ => rfl, Nat.zero_le _, sd_zero wx⟩
  have HMB := Lib.hid (mayTag_good t h1 h2 W)
  rw [hW] at HMB
  obtain ⟨x0, x1, x2, x3, x4, x5, x6, x7, x8⟩ := HBX.out _ HD0.out
  clear hr1 hr hx hb0 hW hWs h1 h2
  go_enter Try.func100, Try.ntmps100
  go_wp2_with (first | (go_at_call 124; refine HMB.out.mono ?_; rintro e w1 ⟨rfl, rfl⟩; have HD1 := HD0) | (go_at_call 99; refine (HS.out _ HD1.out).mono ?_; rintro e w2 ⟨rfl, hd⟩; have HD2 := Lib.hid (HD1.out.trans (hd.mono HD1.out.size)); clear hd))
  go_ret
  exact ⟨rfl, HB0.out.trans (HD2.out.mono HB0.out.size)⟩

set_option maxRecDepth 100000 in
set_option maxHeartbeats 4000000 in
theorem may_nack (t : Int) (ba : Option Addr) (bc : Nat) (ra : Option Addr) (rc : Nat) (ha : Option Addr) (hc : Nat) (ma : Option Addr) (mc : Nat) (w : World) (hr : RcAt w ba bc ra rc ha hc ma mc ⟨4, t, false, [], ⟨false, 0, [], [], []⟩⟩) (h1 : 1 ≤ t) (h2 : t ≤ 1073741824) :
    Calls Try.prog 100 #[.agg #[.int .i64 4, .int .i64 t, .bool false, .slice ba 0 bc, .bool false, .int .i64 0, .slice ra 0 rc, .slice ha 0 hc, .slice ma 0 mc]] w fun e w' => e = .returned (.bool true) ∧ Below w.heap.size w w' := by
  obtain ⟨hx, hb0, hWs⟩ := one_box (w := w) (.cells #[.int .i64 4, .int .i64 t, .bool false, .slice ba 0 bc, .bool false, .int .i64 0, .slice ra 0 rc, .slice ha 0 hc, .slice ma 0 mc] 89)
  obtain ⟨W, hW⟩ : ∃ W, W = w.alloc (.cells #[.int .i64 4, .int .i64 t, .bool false, .slice ba 0 bc, .bool false, .int .i64 0, .slice ra 0 rc, .slice ha 0 hc, .slice ma 0 mc] 89) := ⟨_, rfl⟩
  rw [← hW] at hx hb0 hWs
  have hr1 := RcAt.below ba bc ra rc ha hc ma mc hr hb0
  have HB0 := Lib.hid hb0
  have HBX := Lib.hid (fun (wx : World) (h : Below W.heap.size W wx) => (box9 (box_bl hx h)).1)
  have HD0 : Hid (Below W.heap.size W (w.alloc (.cells #[.int .i64 4, .int .i64 t, .bool false, .slice ba 0 bc, .bool false, .int .i64 0, .slice ra 0 rc, .slice ha 0 hc, .slice ma 0 mc] 89))) := Lib.hid (by rw [← hW]; exact Below.refl _ _)
  have HS : Hid (∀ (wx : World), Below W.heap.size W wx → Calls Try.prog 99 #[.agg #[.int .i64 4, .int .i64 t, .bool false, .slice ba 0 bc, .bool false, .int .i64 0, .slice ra 0 rc, .slice ha 0 hc, .slice ma 0 mc], .agg #[.int .i64 4, .int .i64 t, .bool false, .slice none 0 0, .bool false, .int .i64 0, .slice none 0 0, .slice none 0 0, .slice none 0 0]] wx fun e w' => e = .returned (.bool true) ∧ Below wx.heap.size wx w') := Lib.hid fun (wx : World) (h : Below W.heap.size W wx) => same_eq ⟨4, t, false, [], ⟨false, 0, [], [], []⟩⟩ ba bc ra rc ha hc ma mc none 0 none 0 none 0 none 0 wx (RcAt.below ba bc ra rc ha hc ma mc hr1 h) ⟨mgs_nil wx, fun _ => rfl, Nat.zero_le _, sd_zero wx⟩
  have HMB := Lib.hid (mayTag_good t h1 h2 W)
  rw [hW] at HMB
  obtain ⟨x0, x1, x2, x3, x4, x5, x6, x7, x8⟩ := HBX.out _ HD0.out
  clear hr1 hr hx hb0 hW hWs h1 h2
  go_enter Try.func100, Try.ntmps100
  go_wp2_with (first | (go_at_call 124; refine HMB.out.mono ?_; rintro e w1 ⟨rfl, rfl⟩; have HD1 := HD0) | (go_at_call 99; refine (HS.out _ HD1.out).mono ?_; rintro e w2 ⟨rfl, hd⟩; have HD2 := Lib.hid (HD1.out.trans (hd.mono HD1.out.size)); clear hd))
  go_ret
  exact ⟨rfl, HB0.out.trans (HD2.out.mono HB0.out.size)⟩

set_option maxRecDepth 100000 in
set_option maxHeartbeats 4000000 in
theorem may_frz  (ba : Option Addr) (bc : Nat) (ra : Option Addr) (rc : Nat) (ha : Option Addr) (hc : Nat) (ma : Option Addr) (mc : Nat) (w : World) (hr : RcAt w ba bc ra rc ha hc ma mc ⟨5, 0, false, [], ⟨false, 0, [], [], []⟩⟩)  :
    Calls Try.prog 100 #[.agg #[.int .i64 5, .int .i64 0, .bool false, .slice ba 0 bc, .bool false, .int .i64 0, .slice ra 0 rc, .slice ha 0 hc, .slice ma 0 mc]] w fun e w' => e = .returned (.bool true) ∧ Below w.heap.size w w' := by
  obtain ⟨hx, hb0, hWs⟩ := one_box (w := w) (.cells #[.int .i64 5, .int .i64 0, .bool false, .slice ba 0 bc, .bool false, .int .i64 0, .slice ra 0 rc, .slice ha 0 hc, .slice ma 0 mc] 89)
  obtain ⟨W, hW⟩ : ∃ W, W = w.alloc (.cells #[.int .i64 5, .int .i64 0, .bool false, .slice ba 0 bc, .bool false, .int .i64 0, .slice ra 0 rc, .slice ha 0 hc, .slice ma 0 mc] 89) := ⟨_, rfl⟩
  rw [← hW] at hx hb0 hWs
  have hr1 := RcAt.below ba bc ra rc ha hc ma mc hr hb0
  have HB0 := Lib.hid hb0
  have HBX := Lib.hid (fun (wx : World) (h : Below W.heap.size W wx) => (box9 (box_bl hx h)).1)
  have HD0 : Hid (Below W.heap.size W (w.alloc (.cells #[.int .i64 5, .int .i64 0, .bool false, .slice ba 0 bc, .bool false, .int .i64 0, .slice ra 0 rc, .slice ha 0 hc, .slice ma 0 mc] 89))) := Lib.hid (by rw [← hW]; exact Below.refl _ _)
  have HS : Hid (∀ (wx : World), Below W.heap.size W wx → Calls Try.prog 99 #[.agg #[.int .i64 5, .int .i64 0, .bool false, .slice ba 0 bc, .bool false, .int .i64 0, .slice ra 0 rc, .slice ha 0 hc, .slice ma 0 mc], .agg #[.int .i64 5, .int .i64 0, .bool false, .slice none 0 0, .bool false, .int .i64 0, .slice none 0 0, .slice none 0 0, .slice none 0 0]] wx fun e w' => e = .returned (.bool true) ∧ Below wx.heap.size wx w') := Lib.hid fun (wx : World) (h : Below W.heap.size W wx) => same_eq ⟨5, 0, false, [], ⟨false, 0, [], [], []⟩⟩ ba bc ra rc ha hc ma mc none 0 none 0 none 0 none 0 wx (RcAt.below ba bc ra rc ha hc ma mc hr1 h) ⟨mgs_nil wx, fun _ => rfl, Nat.zero_le _, sd_zero wx⟩
  obtain ⟨x0, x1, x2, x3, x4, x5, x6, x7, x8⟩ := HBX.out _ HD0.out
  clear hr1 hr hx hb0 hW hWs
  go_enter Try.func100, Try.ntmps100
  go_wp2_with (go_at_call 99; refine (HS.out _ HD0.out).mono ?_; rintro e w2 ⟨rfl, hd⟩; have HD2 := Lib.hid (HD0.out.trans (hd.mono HD0.out.size)); clear hd)
  go_ret
  exact ⟨rfl, HB0.out.trans (HD2.out.mono HB0.out.size)⟩

set_option maxRecDepth 100000 in
set_option maxHeartbeats 4000000 in
theorem may_thaw  (ba : Option Addr) (bc : Nat) (ra : Option Addr) (rc : Nat) (ha : Option Addr) (hc : Nat) (ma : Option Addr) (mc : Nat) (w : World) (hr : RcAt w ba bc ra rc ha hc ma mc ⟨6, 0, false, [], ⟨false, 0, [], [], []⟩⟩)  :
    Calls Try.prog 100 #[.agg #[.int .i64 6, .int .i64 0, .bool false, .slice ba 0 bc, .bool false, .int .i64 0, .slice ra 0 rc, .slice ha 0 hc, .slice ma 0 mc]] w fun e w' => e = .returned (.bool true) ∧ Below w.heap.size w w' := by
  obtain ⟨hx, hb0, hWs⟩ := one_box (w := w) (.cells #[.int .i64 6, .int .i64 0, .bool false, .slice ba 0 bc, .bool false, .int .i64 0, .slice ra 0 rc, .slice ha 0 hc, .slice ma 0 mc] 89)
  obtain ⟨W, hW⟩ : ∃ W, W = w.alloc (.cells #[.int .i64 6, .int .i64 0, .bool false, .slice ba 0 bc, .bool false, .int .i64 0, .slice ra 0 rc, .slice ha 0 hc, .slice ma 0 mc] 89) := ⟨_, rfl⟩
  rw [← hW] at hx hb0 hWs
  have hr1 := RcAt.below ba bc ra rc ha hc ma mc hr hb0
  have HB0 := Lib.hid hb0
  have HBX := Lib.hid (fun (wx : World) (h : Below W.heap.size W wx) => (box9 (box_bl hx h)).1)
  have HD0 : Hid (Below W.heap.size W (w.alloc (.cells #[.int .i64 6, .int .i64 0, .bool false, .slice ba 0 bc, .bool false, .int .i64 0, .slice ra 0 rc, .slice ha 0 hc, .slice ma 0 mc] 89))) := Lib.hid (by rw [← hW]; exact Below.refl _ _)
  have HS : Hid (∀ (wx : World), Below W.heap.size W wx → Calls Try.prog 99 #[.agg #[.int .i64 6, .int .i64 0, .bool false, .slice ba 0 bc, .bool false, .int .i64 0, .slice ra 0 rc, .slice ha 0 hc, .slice ma 0 mc], .agg #[.int .i64 6, .int .i64 0, .bool false, .slice none 0 0, .bool false, .int .i64 0, .slice none 0 0, .slice none 0 0, .slice none 0 0]] wx fun e w' => e = .returned (.bool true) ∧ Below wx.heap.size wx w') := Lib.hid fun (wx : World) (h : Below W.heap.size W wx) => same_eq ⟨6, 0, false, [], ⟨false, 0, [], [], []⟩⟩ ba bc ra rc ha hc ma mc none 0 none 0 none 0 none 0 wx (RcAt.below ba bc ra rc ha hc ma mc hr1 h) ⟨mgs_nil wx, fun _ => rfl, Nat.zero_le _, sd_zero wx⟩
  obtain ⟨x0, x1, x2, x3, x4, x5, x6, x7, x8⟩ := HBX.out _ HD0.out
  clear hr1 hr hx hb0 hW hWs
  go_enter Try.func100, Try.ntmps100
  go_wp2_with (go_at_call 99; refine (HS.out _ HD0.out).mono ?_; rintro e w2 ⟨rfl, hd⟩; have HD2 := Lib.hid (HD0.out.trans (hd.mono HD0.out.size)); clear hd)
  go_ret
  exact ⟨rfl, HB0.out.trans (HD2.out.mono HB0.out.size)⟩

set_option maxRecDepth 100000 in
set_option maxHeartbeats 4000000 in
theorem may_state (s : Sd) (ba : Option Addr) (bc : Nat) (ra : Option Addr) (rc : Nat) (ha : Option Addr) (hc : Nat) (ma : Option Addr) (mc : Nat) (w : World) (hr : RcAt w ba bc ra rc ha hc ma mc ⟨7, 0, false, [], s⟩) (h1 : MaySd s) :
    Calls Try.prog 100 #[.agg #[.int .i64 7, .int .i64 0, .bool false, .slice ba 0 bc, .bool s.fr, .int .i64 s.nx, .slice ra s.rd.length rc, .slice ha s.hd.length hc, .slice ma s.ms.length mc]] w fun e w' => e = .returned (.bool true) ∧ Below w.heap.size w w' := by
  obtain ⟨hx, hb0, hWs⟩ := one_box (w := w) (.cells #[.int .i64 7, .int .i64 0, .bool false, .slice ba 0 bc, .bool s.fr, .int .i64 s.nx, .slice ra s.rd.length rc, .slice ha s.hd.length hc, .slice ma s.ms.length mc] 89)
  obtain ⟨W, hW⟩ : ∃ W, W = w.alloc (.cells #[.int .i64 7, .int .i64 0, .bool false, .slice ba 0 bc, .bool s.fr, .int .i64 s.nx, .slice ra s.rd.length rc, .slice ha s.hd.length hc, .slice ma s.ms.length mc] 89) := ⟨_, rfl⟩
  rw [← hW] at hx hb0 hWs
  have hr1 := RcAt.below ba bc ra rc ha hc ma mc hr hb0
  have HB0 := Lib.hid hb0
  have HBX := Lib.hid (fun (wx : World) (h : Below W.heap.size W wx) => (box9 (box_bl hx h)).1)
  have HD0 : Hid (Below W.heap.size W (w.alloc (.cells #[.int .i64 7, .int .i64 0, .bool false, .slice ba 0 bc, .bool s.fr, .int .i64 s.nx, .slice ra s.rd.length rc, .slice ha s.hd.length hc, .slice ma s.ms.length mc] 89))) := Lib.hid (by rw [← hW]; exact Below.refl _ _)
  have HS : Hid (∀ (wx : World), Below W.heap.size W wx → Calls Try.prog 99 #[.agg #[.int .i64 7, .int .i64 0, .bool false, .slice ba 0 bc, .bool s.fr, .int .i64 s.nx, .slice ra s.rd.length rc, .slice ha s.hd.length hc, .slice ma s.ms.length mc], .agg #[.int .i64 7, .int .i64 0, .bool false, .slice none 0 0, .bool s.fr, .int .i64 s.nx, .slice ra s.rd.length rc, .slice ha s.hd.length hc, .slice ma s.ms.length mc]] wx fun e w' => e = .returned (.bool true) ∧ Below wx.heap.size wx w') := Lib.hid fun (wx : World) (h : Below W.heap.size W wx) => same_eq ⟨7, 0, false, [], s⟩ ba bc ra rc ha hc ma mc none 0 ra rc ha hc ma mc wx (RcAt.below ba bc ra rc ha hc ma mc hr1 h) ⟨mgs_nil wx, fun _ => rfl, Nat.zero_le _, hr1.sd.below _ _ _ _ _ _ h⟩
  have HMB : Hid (Calls Try.prog 24 #[.agg #[.bool s.fr, .int .i64 s.nx, .slice ra s.rd.length rc, .slice ha s.hd.length hc, .slice ma s.ms.length mc]] W fun e w' => e = .returned (.bool true) ∧ Below W.heap.size W w') := Lib.hid (by have := may_any s ra rc ha hc ma mc W hr1.sd; rwa [decide_eq_true h1] at this)
  rw [hW] at HMB
  obtain ⟨x0, x1, x2, x3, x4, x5, x6, x7, x8⟩ := HBX.out _ HD0.out
  clear hr1 hr hx hb0 hW hWs h1
  go_enter Try.func100, Try.ntmps100
  go_wp2_with (first | (go_at_call 24; refine HMB.out.mono ?_; rintro e w1 ⟨rfl, hg⟩; have HD1 := Lib.hid (HD0.out.trans (hg.mono HD0.out.size)); clear hg; obtain ⟨x0, x1, x2, x3, x4, x5, x6, x7, x8⟩ := HBX.out _ HD1.out) | (go_at_call 99; refine (HS.out _ HD1.out).mono ?_; rintro e w2 ⟨rfl, hd⟩; have HD2 := Lib.hid (HD1.out.trans (hd.mono HD1.out.size)); clear hd))
  go_ret
  exact ⟨rfl, HB0.out.trans (HD2.out.mono HB0.out.size)⟩

theorem may_good (r : Rc) (ba : Option Addr) (bc : Nat) (ra : Option Addr) (rc : Nat) (ha : Option Addr) (hc : Nat) (ma : Option Addr) (mc : Nat) (w : World) (hr : RcAt w ba bc ra rc ha hc ma mc r) (hm : MayRc r) :
    Calls Try.prog 100 #[.agg #[.int .i64 r.kd, .int .i64 r.tag, .bool r.back, .slice ba r.bt.length bc, .bool r.sd.fr, .int .i64 r.sd.nx, .slice ra r.sd.rd.length rc, .slice ha r.sd.hd.length hc, .slice ma r.sd.ms.length mc]] w fun e w' => e = .returned (.bool true) ∧ Below w.heap.size w w' := by
  obtain ⟨kd, tag, back, bt, sd⟩ := r
  obtain ⟨hbk, hm⟩ := hm
  obtain rfl : back = false := hbk
  rcases hm with ⟨h1, h2, h3, h4, h5, h6⟩ | ⟨h1, h2, h3, h4, h5⟩ | ⟨h1, h2, h3, h4⟩ | ⟨h1, h2, h3, h4⟩
  · obtain rfl : kd = 1 := h1
    obtain rfl : tag = 0 := h2
    obtain rfl : sd = ⟨false, 0, [], [], []⟩ := h3
    exact may_put bt ba bc ra rc ha hc ma mc w hr h4 h5 h6
  · obtain rfl : bt = [] := h4
    obtain rfl : sd = ⟨false, 0, [], [], []⟩ := h5
    rcases h1 with h1 | h1 | h1
    · obtain rfl : kd = 2 := h1
      exact may_get tag ba bc ra rc ha hc ma mc w hr h2 h3
    · obtain rfl : kd = 3 := h1
      exact may_ack tag ba bc ra rc ha hc ma mc w hr h2 h3
    · obtain rfl : kd = 4 := h1
      exact may_nack tag ba bc ra rc ha hc ma mc w hr h2 h3
  · obtain rfl : tag = 0 := h2
    obtain rfl : bt = [] := h3
    obtain rfl : sd = ⟨false, 0, [], [], []⟩ := h4
    rcases h1 with h1 | h1
    · obtain rfl : kd = 5 := h1
      exact may_frz ba bc ra rc ha hc ma mc w hr
    · obtain rfl : kd = 6 := h1
      exact may_thaw ba bc ra rc ha hc ma mc w hr
  · obtain rfl : kd = 7 := h1
    obtain rfl : tag = 0 := h2
    obtain rfl : bt = [] := h3
    exact may_state sd ba bc ra rc ha hc ma mc w hr h4

end Go.Proofs.Ythohjcfpobeplaa.Sl
