/-
  RingStays, walked.
-/
import Derived.Test.YtphamgnafhmelaaDoorR9Build
namespace Go.Proofs.YtphamgnafhmelaaDoor.Rg
open Go.RowKit
set_option linter.unusedVariables false

/-! ### rows of numbers of the call's own -/
theorem wC_one (l : List Int) : ∀ u ∈ l.flatMap wC, u.oneCell' = true := by
  intro u hu
  obtain ⟨e, _, he⟩ := List.mem_flatMap.1 hu
  simp only [wC, List.mem_cons, List.not_mem_nil, or_false] at he
  subst he; rfl
def OwnW (w : World) (base : Nat) (v : Value) (l : List Int) : Prop := w.ownsRow base 3 1 v l.length (l.flatMap wC)
theorem OwnW.nil (w : World) (base : Nat) : OwnW w base (.slice none 0 0) [] := World.ownsRow_nil w base _ _
theorem OwnW.at {w : World} {base : Nat} {v : Value} {l : List Int} (h : OwnW w base v l) : ∃ a cap, v = .slice a l.length cap ∧ WsAt w a cap l := rows_of_own wC_len h
theorem OwnW.below1 {w w' : World} {base : Nat} {v : Value} {l : List Int} (h : OwnW w base v l) (hb : Below w.heap.size w w') : OwnW w' base v l := owns_below1 h hb
theorem OwnW.grown {w w' w0 : World} {base : Nat} {v : Value} {l : List Int} (h : Below base w0 w) (hb : OwnW w base v l) (hg : w.grownBy w' v.ownBlock) (hbase : base ≤ w.heap.size) : Below base w0 w' :=
  h.grown hg hbase (fun k e => (World.ownsRow.lt hb k e).1)
theorem int_info : (Tryd.prog.info? 3).map (fun i => (i.zero, i.size, i.bytes)) = some (some (.int .i64 0), 1, 8) := by kernel_rfl
theorem put_w {ops : Array Oper} {rest : List Oper} {o : Oper} {a : Act} {Q : Exit → Act → World → Prop} {w : World} {base : Nat} {v : Value} {l : List Int} (x : Int) (hgd : o.guard = none) (s y : Operand)
    (ho : o.op = .call { callee := .builtin .append, args := #[s, y], argTypes := #[32, 32] }) (hb : OwnW w base v l) (hbase : base ≤ w.heap.size) (hl : l.length ≤ 1000000)
    (hs : a.eval s = v) (H : Nat) (hH : w.heap.size = H) (hx : a.eval y = .slice (some ⟨H, 0, none⟩) 1 1)
    (h : ∀ g cap w', OwnW w' base (.slice (some ⟨g, 0, none⟩) (l.length + 1) cap) (l ++ [x]) → OwnW w' base v l → w.grownBy w' v.ownBlock →
      wpList Tryd.prog ops Q rest (a.put o.dst (.slice (some ⟨g, 0, none⟩) (l.length + 1) cap)) w') :
    wpList Tryd.prog ops Q (o :: rest) a (w.alloc (.cells #[.int .i64 x] 3)) := by
  subst hH
  obtain ⟨i0, hi, hz0, hz1, hz2⟩ := info_parts int_info
  refine put_both (w.alloc _) hgd s y 32 ho base 3 i0 _ 1 8 Tryd.underlying32 hi hz0 hz1 hz2 rfl (by decide) v l.length (l.flatMap wC) hs (World.ownsRow.alloc hb _) ⟨w.heap.size, 0, none⟩ 1 1 (wC x) hx (by simp [wC]) (World.news_of_block (heap_alloc_new w _)) (by simpa using wC_one [x]) (by decide) (by unfold maxLen; omega) (by omega) (by simp; omega) ?_
  intro g cap w' hown hold hg
  refine h g cap w' ?_ hold (alloc_before hg)
  unfold OwnW
  rw [List.length_append, List.flatMap_append]
  simpa using hown
theorem wrows_src {w : World} {x : Addr} {cap : Nat} {l : List Int} (h : WsAt w (some x) cap l) :
    ∀ j u, (l.flatMap wC)[j]? = some u → w.cell? (x.add j) = some u := by
  by_cases hl : 0 < l.length
  · obtain ⟨b, o, he, _⟩ := h.at' hl
    injection he with he
    subst he
    exact rows_news wC_len (by decide) hl h
  · obtain rfl : l = [] := List.eq_nil_of_length_eq_zero (by omega)
    intro j u hu
    simp at hu
/-- all of a row, onto one of the call's own. -/
theorem put_ws {ops : Array Oper} {rest : List Oper} {o : Oper} {a : Act} {Q : Exit → Act → World → Prop} {w : World} {base : Nat} {v : Value} {l m : List Int} {x : Addr} {cap : Nat} (hgd : o.guard = none) (s y : Operand)
    (ho : o.op = .call { callee := .builtin .append, args := #[s, y], argTypes := #[32, 32] }) (hb : OwnW w base v l) (hbase : base ≤ w.heap.size)
    (hs : a.eval s = v) (n : Nat) (hx : a.eval y = .slice (some x) n cap) (hn : n = m.length) (hat : WsAt w (some x) cap m) (hsz : l.length + m.length ≤ 1000000)
    (h : ∀ v' w', OwnW w' base v' (l ++ m) → w.grownBy w' v.ownBlock → wpList Tryd.prog ops Q rest (a.put o.dst v') w') : wpList Tryd.prog ops Q (o :: rest) a w := by
  subst hn
  refine wpList_plain hgd fun K hK => ?_
  obtain ⟨i0, hi, hz0, hz1, hz2⟩ := info_parts int_info
  obtain ⟨v', w', hr, h2, h3, _, _⟩ := run_append_own_at (P := Tryd.prog) w base 32 o.type 3 i0 _ 1 8 Tryd.underlying32 hi hz0 hz1 hz2 rfl (by decide) v l.length (l.flatMap wC) hb x m.length cap (m.flatMap wC) (flats_length wC_len m) (wrows_src hat) (wC_one m) (by unfold maxLen; omega) (by omega) hbase
  unfold Oper.wp execOp
  simp only [ho, resolve, invoke, builtin, Sem.run_bind, Sem.run_pure, Result.andThen_ok, List.map_toArray, List.map_cons, List.map_nil, hs, hx, hr]
  refine hK _ _ (h v' w' ?_ h3)
  unfold OwnW
  rw [List.length_append, List.flatMap_append]
  exact h2

/-! ### the weights that are made -/
def vf (x : Int) : Int := 1 + IntKind.u64.wrap x % 4
theorem vf_in (x : Int) : 1 ≤ vf x ∧ vf x ≤ 4 := by unfold vf; omega
theorem mod4 (x : Int) : ∃ k : Nat, (IntKind.u64.wrap x).tmod 4 = (k : Int) ∧ k < 4 ∧ vf x = 1 + (k : Int) := by
  have h : 0 ≤ IntKind.u64.wrap x := by rw [IntKind.wrap_u64]; omega
  unfold vf
  rw [Int.tmod_eq_emod_of_nonneg h]
  exact ⟨(IntKind.u64.wrap x % 4).toNat, by omega, by omega, by omega⟩
theorem may_vf {l : List Int} (h1 : 1 ≤ l.length) (h2 : l.length ≤ 16) : MayW (l.map vf) := by
  refine ⟨by simpa using h1, by simpa using h2, fun x hx => ?_, ?_⟩
  · obtain ⟨y, _, rfl⟩ := List.mem_map.1 hx
    have := vf_in y
    omega
  · refine ⟨vf l[0], List.mem_map.2 ⟨_, List.getElem_mem (by omega), rfl⟩, ?_⟩
    have := vf_in l[0]
    omega
/-- a shard more: who owns a point. -/
theorem stays {l : List Int} (x : Int) (h1 : 1 ≤ l.length) (h2 : l.length ≤ 15) {p : Int} (hp : 0 ≤ p ∧ p < 4294967296) :
    (ownerF (ringW (l.map vf)) p = ownerF (ringW (l.map vf ++ [vf x])) p ∨ ownerF (ringW (l.map vf ++ [vf x])) p = (l.length : Int)) ∧ 0 ≤ ownerF (ringW (l.map vf)) p ∧ ownerF (ringW (l.map vf)) p < (l.length : Int) := by
  have hA := may_vf h1 (by omega : l.length ≤ 16)
  have hB : MayW ((l ++ [x]).map vf) := may_vf (by simp) (by simp; omega)
  rw [List.map_append, List.map_cons, List.map_nil] at hB
  have hm : marksF (l.map vf ++ [vf x]) = marksF (l.map vf) ++ (codes [vf x] (0 + (l.map vf).length)).map arN := by
    unfold marksF
    rw [codes_app, List.map_append]
  have hN : ∀ b ∈ (codes [vf x] (0 + (l.map vf).length)).map arN, b.s = (l.length : Int) := fun b hb => by
    obtain ⟨n, hn, rfl⟩ := List.mem_map.1 hb
    have := codes_in [vf x] (fun y hy => by simp at hy; subst hy; have := vf_in x; omega) _ n hn
    simp only [List.length_map, List.length_cons, List.length_nil] at this
    simp only [arN]
    omega
  have hw := marks_wf hB.2.2.1 hB.2.1
  have ha := marks_apartF hB.2.2.1 hB.2.1
  rw [hm] at hw ha
  have hmo := more_owner (l.length : Int) hw ha (marks_some hA.2.2.2) hN hp
  rw [← hm] at hmo
  obtain ⟨b, hb, e⟩ := owner_shard (ringW_may hA).1 p
  have hs := marks_shard hA.2.2.1 ((srt_perm _).mem_iff.1 hb)
  rw [List.length_map, ← e] at hs
  refine ⟨?_, hs.1, hs.2⟩
  rcases hmo with h | h
  · exact .inl h.symm
  · exact .inr h
def stayRel (w : World) (l : List Int) (n : Nat) (m : Nat) (u v : Value) (wr : World) : Prop :=
  ∃ i : Nat, i ≤ n ∧ v = .int .i64 i ∧ m = n - i ∧ OwnW wr w.heap.size u ((l.take i).map vf) ∧ Below w.heap.size w wr

set_option maxRecDepth 100000 in
set_option maxHeartbeats 4000000 in
theorem stays_any (a : Option Addr) (len cap : Nat) (z : List Int) (more p : Int) (w : World) (h0 : IsRow .i64 w a len cap z) (h2 : (Lit.int .u32 p).wf = true) :
    Calls Tryd.prog 7 #[.slice a len cap, .int .i64 more, .int .u32 p] w fun e w' => e = .returned (.bool true) ∧ Below w.heap.size w w' := by
  have hp := in_u32 h2
  obtain ⟨hl, hws⟩ := ws_of_row h0
  have HT := Lib.hid told_any
  clear h0 h2
  generalize z.take len = ws at hl hws
  subst hl
  have hcap := hws.max
  have hlen := hws.len
  unfold maxLen at hcap
  obtain ⟨n, hn, hn6, hnl⟩ : ∃ n : Nat, min (ws.length : Int) 6 = (n : Int) ∧ n ≤ 6 ∧ n = min ws.length 6 := ⟨min ws.length 6, by omega, by omega, rfl⟩
  by_cases h1 : n < 1
  · have h1i : (n : Int) < 1 := by omega
    clear hws
    go_enter Tryd.func7, Tryd.ntmps7
    go_wp2_with (go_at_call 11; refine (HT.out _).mono ?_; rintro e w2 ⟨rfl, hb2⟩; have HB2 := Lib.hid hb2; clear hb2)
    go_ret
    exact ⟨rfl, HB2.out⟩
  have h1i : ¬ (n : Int) < 1 := by omega
  have HWS := Lib.hid hws
  have HNL := Lib.hid hnl
  clear hws hnl
  go_enter Tryd.func7, Tryd.ntmps7
  go_wp2_with fail
  clear hn
  go_loopg [8, 9] n (stayRel w ws n)
  case atStart => exact ⟨0, Nat.zero_le _, rfl, rfl, OwnW.nil _ _, Below.refl _ _⟩
  case round =>
    obtain ⟨i, hi, rfl, rfl, hown, hb⟩ := hrel
    have HOWN := Lib.hid hown
    have HB := Lib.hid hb
    clear hown hb
    by_cases hlt : i < n
    · have hil : i < ws.length := by have := HNL.out; omega
      have hlti : (i : Int) < (n : Int) := by omega
      have hlw : (i : Int) < (ws.length : Int) := by omega
      have h0i : (0 : Int) ≤ (i : Int) := by omega
      obtain ⟨b, o, rfl, c0⟩ := WsAt.get (HWS.out.below HB.out) i hil
      obtain ⟨k, hk, hk4, hv⟩ := mod4 ws[i]
      have HV : Hid ((ws.take (i + 1)).map vf = (ws.take i).map vf ++ [1 + (k : Int)]) := Lib.hid (by
        rw [List.take_succ_eq_append_getElem hil, List.map_append, List.map_cons, List.map_nil, hv])
      clear hv
      generalize ws[i] = x at *
      obtain ⟨q, hq⟩ : ∃ q, IntKind.u64.wrap x = q := ⟨_, rfl⟩
      rw [hq] at hk
      have hk3 : (k : Int) < 4 := by omega
      have hk0 : (0 : Int) ≤ (k : Int) := by omega
      have hlw2 : ((ws.take i).map vf).length ≤ 6 := by rw [List.length_map, List.length_take]; omega
      generalize (ws.take i).map vf = A at *
      go_wp2_with (at_builtin; refine put_w (1 + (k : Int)) rfl (.tmp 28) (.tmp 37) rfl HOWN.out HB.out.size (by omega) rfl _ rfl rfl ?_; intro g1 cap1 w1 hown1 hold1 hg1; have HOWN1 := Lib.hid hown1; have HB1 := Lib.hid (OwnW.grown HB.out HOWN.out hg1 HB.out.size); clear hown1 hold1 hg1)
      go_roundg (n - (i + 1))
      case measure => omega
      case rel => exact ⟨i + 1, by omega, by go_num, by simp, by rw [HV.out]; exact HOWN1.out, HB1.out⟩
    · obtain rfl : i = n := by omega
      obtain ⟨k, hk, hk4, hv⟩ := mod4 more
      have hlA : (ws.take i).length = i := by rw [List.length_take]; have := HNL.out; omega
      obtain ⟨t1, t2, t3⟩ := stays (l := ws.take i) more (by omega) (by omega) hp
      have mA : MayW ((ws.take i).map vf) := may_vf (by omega) (by omega)
      have mB : MayW ((ws.take i).map vf ++ [vf more]) := by
        have := may_vf (l := ws.take i ++ [more]) (by simp) (by simp; omega)
        rwa [List.map_append, List.map_cons, List.map_nil] at this
      rw [hlA] at t1 t3
      rw [hv] at t1 mB
      have hAl : ((ws.take i).map vf).length = i := by rw [List.length_map, hlA]
      generalize (ws.take i).map vf = A at *
      have HX := Lib.hid fun (wx : World) (a : Option Addr) (c : Nat) (h : WsAt wx a c A) => build_any a c A wx h
      have HY := Lib.hid fun (wx : World) (a : Option Addr) (c : Nat) (h : WsAt wx a c (A ++ [1 + (k : Int)])) => build_any a c (A ++ [1 + (k : Int)]) wx h
      unfold BuildR buildL buildC at HX HY
      rw [if_pos mA, if_pos mA, hAl] at HX
      rw [if_pos mB, if_pos mB, List.length_append] at HY
      have HOA := Lib.hid fun (wx : World) (a : Option Addr) (c : Nat) (h : AsAt wx a c (ringW A)) => owner_any a c (ringW A) p wx h
      have HOB := Lib.hid fun (wx : World) (a : Option Addr) (c : Nat) (h : AsAt wx a c (ringW (A ++ [1 + (k : Int)]))) => owner_any a c (ringW (A ++ [1 + (k : Int)])) p wx h
      unfold ownerA at HOA HOB
      rw [if_pos (ringW_may mA)] at HOA
      rw [if_pos (ringW_may mB)] at HOB
      obtain ⟨a3, cap3, rfl, hat3⟩ := OwnW.at HOWN.out
      obtain ⟨x3, rfl⟩ := hat3.pos (by omega)
      have HAT3 := Lib.hid hat3
      obtain ⟨q, hq⟩ : ∃ q, IntKind.u64.wrap more = q := ⟨_, rfl⟩
      rw [hq] at hk
      have hk3 : (k : Int) < 4 := by omega
      have hk0 : (0 : Int) ≤ (k : Int) := by omega
      have HO1 := Lib.hid (show OwnW (wr.alloc (.cells #[] 3)) wr.heap.size (.slice (some ⟨wr.heap.size, 0, none⟩) 0 0) [] from World.ownsRow_made wr #[] 0 (Nat.le_refl _) (by decide) (by simp))
      have HBW := Lib.hid (show Below wr.heap.size wr (wr.alloc (.cells #[] 3)) from (Below.refl _ _).alloc (Nat.le_refl _) _)
      have HT1 := Lib.hid t1
      have HAL := Lib.hid hAl
      have hA6 : A.length ≤ 6 := by omega
      clear hat3 t1 hv mA mB hlA hAl
      generalize ringW A = RA at *
      generalize ringW (A ++ [1 + (k : Int)]) = RB at *
      rw [HAL.out]
      go_wp2_with (first | (at_builtin; refine put_ws (m := A) rfl (.tmp 39) (.tmp 40) rfl HO1.out HBW.out.size rfl _ rfl HAL.out.symm (HAT3.out.below HBW.out) (by rw [List.length_nil]; omega) ?_; intro v4 w4 hown4 hg4; rw [List.nil_append] at hown4; have HB4 := Lib.hid (OwnW.grown HBW.out HO1.out hg4 HBW.out.size); have HOWN4 := Lib.hid hown4; clear hown4 hg4) | (at_builtin; refine put_w (1 + (k : Int)) rfl (.tmp 41) (.tmp 47) rfl HOWN4.out HB4.out.size (by omega) rfl _ rfl rfl ?_; intro g5 cap5 w5 hown5 hold5 hg5; have HB5 := Lib.hid (OwnW.grown HB4.out HOWN4.out hg5 HB4.out.size); have HOWN5 := Lib.hid hown5; clear hown5 hold5 hg5))
      refine (HX.out _ (some x3) cap3 (HAT3.out.below HB5.out)).mono ?_
      rintro e w6 ⟨b6, c6, rfl, hat6, _, hb6⟩
      have HAT6 := Lib.hid hat6
      have HL6 := Lib.hid (HB5.out.trans (hb6.mono HB5.out.size))
      have HOWN6 := Lib.hid (OwnW.below1 HOWN5.out hb6)
      clear hat6 hb6
      go_wp2_with fail
      obtain ⟨a7, cap7, he7, hat7⟩ := OwnW.at HOWN6.out
      injection he7 with he7 he8 he9
      subst he7 he9
      refine (HY.out _ _ _ hat7).mono ?_
      rintro e w8 ⟨b8, c8, rfl, hat8, _, hb8⟩
      have HAT8 := Lib.hid hat8
      have HL8 := Lib.hid (HL6.out.trans (hb8.mono HL6.out.size))
      have HAT6b := Lib.hid (HAT6.out.below hb8)
      clear hat8 hb8 hat7 he8
      go_wp2_with fail
      refine (HOA.out _ _ _ HAT6b.out).mono ?_
      rintro e w9 ⟨rfl, hd⟩
      have HL9 := Lib.hid (HL8.out.trans (hd.below.mono HL8.out.size))
      have HAT8b := Lib.hid (HAT8.out.below hd.below)
      clear hd
      go_wp2_with fail
      refine (HOB.out _ _ _ HAT8b.out).mono ?_
      rintro e w10 ⟨rfl, hd⟩
      have HL10 := Lib.hid (HL9.out.trans (hd.below.mono HL9.out.size))
      clear hd
      generalize ownerF RA p = X at *
      generalize ownerF RB p = Y at *
      rcases HT1.out with g | g
      · have e1 : (X == Y) = true := by rw [beq_iff_eq]; exact g
        clear g
        go_wp2_with (go_at_call 11; refine (HT.out _).mono ?_; rintro e w12 ⟨rfl, hb⟩; have HB12 := Lib.hid (HL10.out.trans (hb.mono HL10.out.size)); clear hb)
        go_ret
        exact ⟨rfl, HB.out.trans (HB12.out.mono HB.out.size)⟩
      · have e1 : (Y == (i : Int)) = true := by rw [beq_iff_eq]; exact g
        have e2 : (X == Y) = false := by rw [beq_eq_false_iff_ne]; omega
        clear g
        go_wp2_with (go_at_call 11; refine (HT.out _).mono ?_; rintro e w12 ⟨rfl, hb⟩; have HB12 := Lib.hid (HL10.out.trans (hb.mono HL10.out.size)); clear hb)
        go_ret
        exact ⟨rfl, HB.out.trans (HB12.out.mono HB.out.size)⟩

end Go.Proofs.YtphamgnafhmelaaDoor.Rg
