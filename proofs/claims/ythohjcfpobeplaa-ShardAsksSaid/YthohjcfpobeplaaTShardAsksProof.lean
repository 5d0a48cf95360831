/-
  ShardAsks: for every input the law's Go function returns true, and the input reads behind the call as it read before. No conditions.
-/
import Derived.Test.YthohjcfpobeplaaRow
import Derived.Test.YthohjcfpobeplaaTShAsk
import Derived.Test.YthohjcfpobeplaaShArg
namespace Go.Proofs.Ythohjcfpobeplaa.shardAsks
open Go.ChangeShapes Go.WideShapes Go.ChangeAt Go.RowKit
set_option linter.unusedVariables false

theorem walk (s0 : Sh.Sd) (ra0 : Option Addr) (rc0 : Nat) (ha0 : Option Addr) (hc0 : Nat) (ma0 : Option Addr) (mc0 : Nat) (s1 : Sh.Sd) (ra1 : Option Addr) (rc1 : Nat) (ha1 : Option Addr) (hc1 : Nat) (ma1 : Option Addr) (mc1 : Nat) (a2 : Option Addr) (cap2 : Nat) (l2 : List Sh.Mg) (p3 : Int) (a4 : Option Addr) (cap4 : Nat) (l4 : List Rg.Ar) (p5 : Int) (w : World) (w0 : Sh.SdArg w ra0 rc0 ha0 hc0 ma0 mc0 s0) (w1 : Sh.SdArg w ra1 rc1 ha1 hc1 ma1 mc1 s1) (w2 : Sh.MgsAt w a2 cap2 l2 ∧ (a2 = none → cap2 = 0)) (w3 : (Lit.int .i64 p3).wf = true) (w4 : Rg.AArg w a4 cap4 l4) (w5 : (Lit.int .i64 p5).wf = true) :
    Calls Try.prog 3 #[.agg #[.bool s0.fr, .int .i64 s0.nx, .slice ra0 s0.rd.length rc0, .slice ha0 s0.hd.length hc0, .slice ma0 s0.ms.length mc0], .agg #[.bool s1.fr, .int .i64 s1.nx, .slice ra1 s1.rd.length rc1, .slice ha1 s1.hd.length hc1, .slice ma1 s1.ms.length mc1], .slice a2 l2.length cap2, .int .i64 p3, .slice a4 l4.length cap4, .int .i64 p5] w fun e w' => e = .returned (.bool true) ∧ Below w.heap.size w w' := by
  exact Sh.asks_any s0 ra0 rc0 ha0 hc0 ma0 mc0 s1 ra1 rc1 ha1 hc1 ma1 mc1 a2 cap2 l2 p3 a4 cap4 l4 p5 w ⟨w0.rd, w0.hd, w0.ms, w0.nr, w0.nh, w0.nm⟩ ⟨w1.rd, w1.hd, w1.ms, w1.nr, w1.nh, w1.nm⟩ w2 w4

set_option maxRecDepth 100000 in
theorem lifted (os : Os) (started : os.Started) (H : Type) (enc : TypeId × Value → H) :
    ReturnsInHanded {} Try.checked os 3 .any (Rows.shardAsksSpec.pre6 enc Try.prog Try.f3 Rows.shardAsksRow.domain false) (Rows.shardAsksSpec.post enc Try.prog Try.f3 false true false false) := by
  refine returnsInHanded_of_change (C := Try.checked) Row.own started (by kernel_rfl) Try.func3
    (ChangeSpec.witness6 (enc := enc) (C := Try.checked) false ⟨#[], #[.agg #[.bool false, .int .i64 0, .slice none 0 0, .slice none 0 0, .slice none 0 0], .agg #[.bool false, .int .i64 0, .slice none 0 0, .slice none 0 0, .slice none 0 0], .slice none 0 0, .int .i64 0, .slice none 0 0, .int .i64 0], []⟩ 8 (by kernel_rfl) (by kernel_rfl) (by kernel_rfl) (by kernel_rfl)) ?_
  intro W base args ds gs before hval0 hW hcnd _
  have hval : ∀ (j : Nat) t v, Try.f3.params[j]? = some t → args[j]? = some v → Value.okWide Try.prog W .any base t v := hval0
  have hW' := hW
  obtain ⟨p, q, hA0, hV, rfl, hfz, hnd⟩ := hW
  have hA : DataW.TrodAll enc Try.prog W 0 (fun _ => true) true Try.f3.params.toList args.toList ds p := hA0
  rw [Try.params3] at hA hval
  obtain ⟨v0, vs0, d0, ds0, q0, t0, hargs, rfl, rfl, h0, r0⟩ := trodAll_cons hA
  obtain ⟨v1, vs1, d1, ds1, q1, t1, rfl, rfl, rfl, h1, r1⟩ := trodAll_cons r0
  obtain ⟨v2, vs2, d2, ds2, q2, t2, rfl, rfl, rfl, h2, r2⟩ := trodAll_cons r1
  obtain ⟨v3, vs3, d3, ds3, q3, t3, rfl, rfl, rfl, h3, r3⟩ := trodAll_cons r2
  obtain ⟨v4, vs4, d4, ds4, q4, t4, rfl, rfl, rfl, h4, r4⟩ := trodAll_cons r3
  obtain ⟨v5, vs5, d5, ds5, q5, t5, rfl, rfl, rfl, h5, r5⟩ := trodAll_cons r4
  obtain ⟨rfl, rfl, rfl⟩ := trodAll_nil r5
  obtain rfl : args = #[v0, v1, v2, v3, v4, v5] := by cases args; simp_all
  obtain ⟨rfl, rfl⟩ := trodVars_none hV
  have k0 := h0
  have lt0 : ∀ x ∈ q0, x.block < W.heap.size := by obtain ⟨m, hm⟩ := k0; exact DataW.trod_lt m _ _ _ hm
  have k1 := h1
  have lt1 : ∀ x ∈ q1, x.block < W.heap.size := by obtain ⟨m, hm⟩ := k1; exact DataW.trod_lt m _ _ _ hm
  have k2 := h2
  have lt2 : ∀ x ∈ q2, x.block < W.heap.size := by obtain ⟨m, hm⟩ := k2; exact DataW.trod_lt m _ _ _ hm
  have k3 := h3
  have lt3 : ∀ x ∈ q3, x.block < W.heap.size := by obtain ⟨m, hm⟩ := k3; exact DataW.trod_lt m _ _ _ hm
  have k4 := h4
  have lt4 : ∀ x ∈ q4, x.block < W.heap.size := by obtain ⟨m, hm⟩ := k4; exact DataW.trod_lt m _ _ _ hm
  have k5 := h5
  have lt5 : ∀ x ∈ q5, x.block < W.heap.size := by obtain ⟨m, hm⟩ := k5; exact DataW.trod_lt m _ _ _ hm
  obtain ⟨s0, ra0, rc0, ha0, hc0, ma0, mc0, rfl, w0⟩ := Sh.shard_arg h0 (hval 0 26 v0 rfl rfl)
  obtain ⟨s1, ra1, rc1, ha1, hc1, ma1, mc1, rfl, w1⟩ := Sh.shard_arg h1 (hval 1 26 v1 rfl rfl)
  obtain ⟨a2, cap2, l2, rfl, w2⟩ := Sh.msgs_arg h2 (okWide_slice Try.underlying22 (hval 2 22 v2 rfl rfl))
  obtain ⟨p3, rfl, _, _, w3⟩ := open_int Try.underlying3 (hval 3 3 v3 rfl rfl) h3
  obtain ⟨a4, cap4, l4, rfl, w4⟩ := Rg.ars_arg h4 (okWide_slice Try.underlying27 (hval 4 27 v4 rfl rfl))
  obtain ⟨p5, rfl, _, _, w5⟩ := open_int Try.underlying3 (hval 5 3 v5 rfl rfl) h5
  clear hA0 hval0
  refine (walk s0 ra0 rc0 ha0 hc0 ma0 mc0 s1 ra1 rc1 ha1 hc1 ma1 mc1 a2 cap2 l2 p3 a4 cap4 l4 p5 W w0 w1 w2 w3 w4 w5).mono fun e W' ⟨he, bel⟩ => ?_
  subst he
  exact ⟨_, rfl, _, _, _, [], _, [], hW', trodAll_mk1 (shut_bool Try.underlying4 _), (trodAll_cons_mk (Below.trod Row.laidOut (by kernel_rfl) (of_decide_eq_true (by kernel_rfl)) k0 bel lt0) (trodAll_cons_mk (Below.trod Row.laidOut (by kernel_rfl) (of_decide_eq_true (by kernel_rfl)) k1 bel lt1) (trodAll_cons_mk (Below.trod Row.laidOut (by kernel_rfl) (of_decide_eq_true (by kernel_rfl)) k2 bel lt2) (trodAll_cons_mk (Below.trod Row.laidOut (by kernel_rfl) (of_decide_eq_true (by kernel_rfl)) k3 bel lt3) (trodAll_cons_mk (Below.trod Row.laidOut (by kernel_rfl) (of_decide_eq_true (by kernel_rfl)) k4 bel lt4) (trodAll_cons_mk (Below.trod Row.laidOut (by kernel_rfl) (of_decide_eq_true (by kernel_rfl)) k5 bel lt5) trodAll_mk0)))))), rfl, bel.frame _, fun h => by cases h⟩

theorem over : Rows.shardAsksRow.holds Try.pinned (OpenSpec.ofChange Rows.shardAsksSpec) :=
  OpenClaim.holds_of_wide 3 Try.f3 rfl rfl rfl rfl rfl rfl rfl ⟨rfl, rfl, rfl, rfl, rfl⟩ rfl rfl rfl rfl rfl (by kernel_rfl) Try.func3 (by kernel_rfl)
    (of_decide_eq_true (by kernel_rfl)) (by unfold Func.isWrapper; first | (rw [if_pos (by decide +kernel)]; kernel_rfl) | (rw [if_neg (by decide +kernel)]; exact ⟨rfl, rfl⟩))
    (fun os started H enc _ => lifted os started H enc)

theorem proved : Rows.ShardAsksSaid := over
#print axioms proved
end Go.Proofs.Ythohjcfpobeplaa.shardAsks
