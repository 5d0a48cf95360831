/-
  table.Put, walked.
-/
import Derived.Test.YtkcccfllkgjdiaaDoorTlSame
import Derived.Test.YtkcccfllkgjdiaaDoorOctN
namespace Go.Proofs.YtkcccfllkgjdiaaDoor.Tl
open Go.RowKit Rg
set_option linter.unusedVariables false

def putC (t : Ta) : Int := if MayT t then 0 else 1
def putL (t : Ta) : List UInt8 := if MayT t then putT t else []
def nodesB (t : Ta) (i : Nat) : List UInt8 := (be 4 t.ep.toNat ++ be 1 t.nodes.length) ++ (t.nodes.take i).flatMap nodeB
def arcsB (t : Ta) (i : Nat) : List UInt8 := (nodesB t t.nodes.length ++ be 2 t.arcs.length) ++ (t.arcs.take i).flatMap arcB
theorem nodesB_succ (t : Ta) (i : Nat) (h : i < t.nodes.length) : nodesB t (i + 1) = nodesB t i ++ be 1 (t.nodes[i] + 1).toNat := by
  unfold nodesB
  rw [List.take_succ_eq_append_getElem h, List.flatMap_append, List.append_assoc]
  simp [nodeB]
theorem arcsB_succ (t : Ta) (i : Nat) (h : i < t.arcs.length) : arcsB t (i + 1) = (arcsB t i ++ be 4 t.arcs[i].f.toNat) ++ be 1 t.arcs[i].s.toNat := by
  unfold arcsB
  rw [List.take_succ_eq_append_getElem h, List.flatMap_append, List.append_assoc, List.append_assoc, List.append_assoc]
  simp [arcB]
theorem arcsB_all (t : Ta) : arcsB t t.arcs.length = putT t := by
  unfold arcsB nodesB putT
  rw [List.take_length, List.take_length]
  simp [List.append_assoc]
theorem nodesB_le (t : Ta) (i : Nat) : (nodesB t i).length ≤ 5 + t.nodes.length := by
  unfold nodesB
  rw [List.length_append, List.length_append, be_length, be_length, nodesB_length, List.length_take]
  omega
theorem arcsB_le (t : Ta) (i : Nat) : (arcsB t i).length ≤ 7 + t.nodes.length + 5 * t.arcs.length := by
  unfold arcsB
  have := nodesB_le t t.nodes.length
  rw [List.length_append, List.length_append, be_length, arcsB_length, List.length_take]
  omega
def TBox (w : World) (g : Nat) (t : Ta) (aa : Option Addr) (ac : Nat) (na : Option Addr) (nc : Nat) : Prop := w.heap[g]? = some (.cells #[.int .i64 t.ep, .slice aa t.arcs.length ac, .slice na t.nodes.length nc] 26 (0, 0))
def pn1Rel (W : World) (t : Ta) (m : Nat) (u v : Value) (wr : World) : Prop :=
  ∃ i : Nat, i ≤ t.nodes.length ∧ v = .int .i64 i ∧ m = t.nodes.length - i ∧ Buf wr W.heap.size u (nodesB t i) ∧ Below W.heap.size W wr
def pn2Rel (W : World) (t : Ta) (m : Nat) (u v : Value) (wr : World) : Prop :=
  ∃ i : Nat, i ≤ t.arcs.length ∧ v = .int .i64 i ∧ m = t.arcs.length - i ∧ Buf wr W.heap.size u (arcsB t i) ∧ Below W.heap.size W wr
def PutBR (t : Ta) (w : World) (e : Ending) (w' : World) : Prop := ∃ v, e = .returned (.tuple #[v, .int .i64 (putC t)]) ∧ Buf w' w.heap.size v (putL t) ∧ Below w.heap.size w w'

set_option maxRecDepth 100000 in
set_option maxHeartbeats 4000000 in
theorem put_any (t : Ta) (aa : Option Addr) (ac : Nat) (na : Option Addr) (nc : Nat) (w : World) (ht : TaAt w aa ac na nc t) (hw : Wf t.arcs) :
    Calls Tryd.prog 10 #[.agg #[.int .i64 t.ep, .slice aa t.arcs.length ac, .slice na t.nodes.length nc]] w (PutBR t w) := by
  obtain ⟨W, hW⟩ : ∃ W, W = w.alloc (.cells #[.int .i64 t.ep, .slice aa t.arcs.length ac, .slice na t.nodes.length nc] 26) := ⟨_, rfl⟩
  have hb0 : Below w.heap.size w W := by rw [hW]; exact (Below.refl _ _).alloc (Nat.le_refl _) _
  have hWs : W.heap.size = w.heap.size + 1 := by rw [hW]; simp
  have hx : TBox W w.heap.size t aa ac na nc := by rw [hW]; exact heap_alloc_new _ _
  have HB0 := Lib.hid hb0
  have HWS := Lib.hid hWs
  have HX := Lib.hid hx
  have HW := Lib.hid hW
  have HT := Lib.hid (ht.below hb0)
  have HMY := Lib.hid (may_any t aa ac na nc W (ht.below hb0).arcs (ht.below hb0).nodes)
  obtain ⟨⟨c0, c1, c2⟩, -⟩ := box3 hx
  clear ht hb0 hWs hx hW
  by_cases h1 : MayT t
  case neg =>
    have HR1 : Hid (putC t = 1) := Lib.hid (if_neg h1)
    have HR2 : Hid (putL t = []) := Lib.hid (if_neg h1)
    rw [decide_eq_false h1] at HMY
    clear h1
    go_enter Tryd.func10, Tryd.ntmps10
    go_wp2_with fail
    rw [← HW.out]
    go_wp2_with fail
    refine HMY.out.mono ?_
    rintro e w1 ⟨rfl, hb1⟩
    have HB1 := Lib.hid (HB0.out.trans (hb1.mono HB0.out.size))
    clear hb1
    go_wp2_with fail
    go_ret2
    exact ⟨_, by rw [HR1.out]; rfl, by rw [HR2.out]; exact Buf.nil _ _, HB1.out⟩
  have HR1 : Hid (putC t = 0) := Lib.hid (if_pos h1)
  have HR2 : Hid (putL t = putT t) := Lib.hid (if_pos h1)
  rw [decide_eq_true h1] at HMY
  have hep := h1.1
  have HNO := Lib.hid fun x hx => h1.node (x := x) hx
  have HSH := Lib.hid fun a ha => h1.shard (a := a) ha
  have hnl := h1.2.1.2.1
  have hal := h1.2.2.1.2.1
  obtain ⟨E, hE⟩ : ∃ E : Nat, t.ep = E := ⟨t.ep.toNat, by omega⟩
  have hEu : IntKind.u64.wrap t.ep = (E : Int) := by rw [IntKind.wrap_u64]; omega
  have hNu : IntKind.u64.wrap (t.nodes.length : Int) = ((t.nodes.length : Nat) : Int) := by rw [IntKind.wrap_u64]; omega
  have hAu : IntKind.u64.wrap (t.arcs.length : Int) = ((t.arcs.length : Nat) : Int) := by rw [IntKind.wrap_u64]; omega
  have HEE : Hid (t.ep.toNat = E) := Lib.hid (by omega)
  have HBN : Hid (nodesB t 0 = be 4 E ++ be 1 t.nodes.length) := Lib.hid (by unfold nodesB; rw [HEE.out]; simp)
  have HBA : Hid (arcsB t 0 = nodesB t t.nodes.length ++ be 2 t.arcs.length) := Lib.hid (by unfold arcsB; simp)
  have hE9 : E ≤ 1073741824 := by omega
  clear h1 hE hep
  go_enter Tryd.func10, Tryd.ntmps10
  go_wp2_with fail
  rw [← HW.out]
  go_wp2_with fail
  refine HMY.out.mono ?_
  rintro e w1 ⟨rfl, hb1⟩
  have HB1 := Lib.hid hb1
  obtain ⟨⟨d0, d1, d2⟩, -⟩ := box3 ((hb1.block _ (by rw [HWS.out]; omega)).trans HX.out)
  clear hb1 c0 c1 c2
  go_wp2_with fail
  refine (putNum_any W.heap.size _ [] E 4 (by omega) (by omega) w1 (Buf.nil _ _) HB1.out.size (by simp)).mono ?_
  rintro e w2 ⟨v2, rfl, hbuf2, hon2⟩
  have HB2 := Lib.hid (HB1.out.trans (hon2.below (Buf.nil _ _) HB1.out.size))
  have HF2 := Lib.hid hbuf2
  obtain ⟨⟨e0, e1, e2⟩, -⟩ := box3 ((HB2.out.block _ (by rw [HWS.out]; omega)).trans HX.out)
  clear hbuf2 hon2 d0 d1 d2
  go_wp2_with fail
  refine (putNum_any W.heap.size _ _ t.nodes.length 1 (by omega) (by omega) w2 HF2.out HB2.out.size (by simp)).mono ?_
  rintro e w3 ⟨v3, rfl, hbuf3, hon3⟩
  have HB3 := Lib.hid (HB2.out.trans (hon3.below HF2.out HB2.out.size))
  have HF3 := Lib.hid hbuf3
  obtain ⟨⟨f0, f1, f2⟩, -⟩ := box3 ((HB3.out.block _ (by rw [HWS.out]; omega)).trans HX.out)
  clear hbuf3 hon3 e0 e1 e2
  go_wp2_with fail
  clear f0 f1 f2
  go_loopg [4, 25] t.nodes.length (pn1Rel W t)
  case atStart => exact ⟨0, Nat.zero_le _, rfl, rfl, by rw [HBN.out]; exact HF3.out, HB3.out⟩
  case round =>
    obtain ⟨i, hi, rfl, rfl, hbuf, hb⟩ := hrel
    have HF := Lib.hid hbuf
    have HB := Lib.hid hb
    have HTr := Lib.hid (HT.out.below hb)
    obtain ⟨⟨c0, c1, c2⟩, -⟩ := box3 ((hb.block _ (by rw [HWS.out]; omega)).trans HX.out)
    clear hbuf hb
    by_cases hlt : i < t.nodes.length
    · have hlti : (i : Int) < (t.nodes.length : Int) := by omega
      have h0i : (0 : Int) ≤ (i : Int) := by omega
      obtain ⟨b, o, rfl, k0⟩ := WsAt.get HTr.out.nodes i hlt
      have hno := HNO.out _ (List.getElem_mem hlt)
      have HS := Lib.hid (nodesB_succ t i hlt)
      have hle := nodesB_le t i
      generalize t.nodes[i] = x at *
      obtain ⟨m, hm⟩ : ∃ m : Nat, x + 1 = m := ⟨(x + 1).toNat, by omega⟩
      have hw1 : IntKind.i64.wrap (x + 1) = (m : Int) := by rw [hm]; exact IntWalk.i64_in _ (by omega)
      have hw2 : IntKind.u64.wrap (m : Int) = (m : Int) := by rw [IntKind.wrap_u64]; omega
      have hm5 : m < 6 := by omega
      have HM : Hid ((x + 1).toNat = m) := Lib.hid (by omega)
      clear hm
      go_wp2_with fail
      refine (putNum_any W.heap.size _ _ m 1 (by omega) (by omega) wr HF.out HB.out.size (by omega)).mono ?_
      rintro e w4 ⟨v4, rfl, hbuf4, hon4⟩
      have HB4 := Lib.hid (HB.out.trans (hon4.below HF.out HB.out.size))
      have HF4 := Lib.hid hbuf4
      clear hbuf4 hon4
      go_wp2_with fail
      go_roundg (t.nodes.length - (i + 1))
      case measure => omega
      case rel => exact ⟨i + 1, by omega, by go_num, by simp, by rw [HS.out, HM.out]; exact HF4.out, HB4.out⟩
    · obtain rfl : i = t.nodes.length := by omega
      have hle := nodesB_le t t.nodes.length
      go_wp2_with fail
      refine (putNum_any W.heap.size _ _ t.arcs.length 2 (by omega) (by omega) wr HF.out HB.out.size (by omega)).mono ?_
      rintro e w4 ⟨v4, rfl, hbuf4, hon4⟩
      have HB4 := Lib.hid (HB.out.trans (hon4.below HF.out HB.out.size))
      have HF4 := Lib.hid hbuf4
      obtain ⟨⟨f0, f1, f2⟩, -⟩ := box3 ((HB4.out.block _ (by rw [HWS.out]; omega)).trans HX.out)
      clear hbuf4 hon4 c0 c1 c2
      go_wp2_with fail
      clear f0 f1 f2
      go_loopg [4, 44] t.arcs.length (pn2Rel W t)
      case atStart => exact ⟨0, Nat.zero_le _, rfl, rfl, by rw [HBA.out]; exact HF4.out, HB4.out⟩
      case round =>
        obtain ⟨i, hi, rfl, rfl, hbuf, hb⟩ := hrel
        have HF := Lib.hid hbuf
        have HB := Lib.hid hb
        have HTr := Lib.hid (HT.out.below hb)
        clear hbuf hb
        by_cases hlt : i < t.arcs.length
        · have hlti : (i : Int) < (t.arcs.length : Int) := by omega
          have h0i : (0 : Int) ≤ (i : Int) := by omega
          obtain ⟨b, o, rfl, k0, k1⟩ := AsAt.get HTr.out.arcs i hlt
          have hno := HSH.out _ (List.getElem_mem hlt)
          have hfw := hw _ (List.getElem_mem hlt)
          have HS := Lib.hid (arcsB_succ t i hlt)
          have hle := arcsB_le t i
          generalize t.arcs[i] = x at *
          obtain ⟨F, S⟩ := x
          have hF0 : 0 ≤ F ∧ F < 4294967296 := hfw
          have hS0 : 0 ≤ S ∧ S < 16 := hno
          obtain ⟨f, rfl⟩ : ∃ f : Nat, F = f := ⟨F.toNat, by omega⟩
          obtain ⟨s, rfl⟩ : ∃ s : Nat, S = s := ⟨S.toNat, by omega⟩
          have hf9 : f < 4294967296 := by omega
          have hs9 : s < 16 := by omega
          have hw1 : IntKind.u64.wrap (f : Int) = (f : Int) := by rw [IntKind.wrap_u64]; omega
          have hw2 : IntKind.u64.wrap (s : Int) = (s : Int) := by rw [IntKind.wrap_u64]; omega
          simp only [Int.toNat_natCast] at HS
          have k0' : wr.cell? ⟨b, o + i * 2, none⟩ = some (.int .u32 (f : Int)) := k0
          have k1' : wr.cell? ⟨b, o + i * 2 + 1, none⟩ = some (.int .i64 (s : Int)) := k1
          obtain ⟨W5, hW5⟩ : ∃ W5, W5 = wr.alloc (.cells #[.int .u32 (f : Int), .int .i64 (s : Int)] 52) := ⟨_, rfl⟩
          have hal5 : Below wr.heap.size wr W5 := by rw [hW5]; exact (Below.refl _ _).alloc (Nat.le_refl _) _
          have hbx5 : W5.heap[wr.heap.size]? = some (.cells #[.int .u32 (f : Int), .int .i64 (s : Int)] 52 (0, 0)) := by rw [hW5]; exact heap_alloc_new _ _
          have HW5 := Lib.hid hW5
          have HAL5 := Lib.hid hal5
          have HBX5 := Lib.hid hbx5
          clear k0 k1 hno hfw hF0 hS0 hW5 hal5 hbx5
          go_wp2_with fail
          rw [← HW5.out]
          refine (putNum_any W.heap.size _ _ f 4 (by omega) (by omega) W5 (own_kept HF.out fun k _ hk => HAL5.out.block k hk) (Nat.le_trans HB.out.size HAL5.out.size) (by omega)).mono ?_
          rintro e w6 ⟨v6, rfl, hbuf6, hon6⟩
          have hHF5 : Buf W5 W.heap.size u4 (arcsB t i) := own_kept HF.out fun k _ hk => HAL5.out.block k hk
          have HB5 := Lib.hid (HB.out.trans (HAL5.out.mono HB.out.size))
          have HB6 := Lib.hid (HB5.out.trans (hon6.below hHF5 HB5.out.size))
          have HF6 := Lib.hid hbuf6
          have hne6 : u4.ownBlock ≠ some wr.heap.size := fun e => by
            have := (World.ownsRow.lt HF.out _ e).2
            omega
          have hbx6 := (hon6.block (Array.getElem?_eq_some_iff.1 HBX5.out).1 hne6).trans HBX5.out
          have q1 : w6.cell? ⟨wr.heap.size, 1, none⟩ = some (.int .i64 (s : Int)) := by rw [cell_of_row w6 _ _ _ _ _ hbx6]; rfl
          clear hbuf6 hon6 hHF5 hne6 hbx6
          go_wp2_with fail
          refine (putNum_any W.heap.size _ _ s 1 (by omega) (by omega) w6 HF6.out HB6.out.size (by simp; omega)).mono ?_
          rintro e w7 ⟨v7, rfl, hbuf7, hon7⟩
          have HB7 := Lib.hid (HB6.out.trans (hon7.below HF6.out HB6.out.size))
          have HF7 := Lib.hid hbuf7
          clear hbuf7 hon7
          go_wp2_with fail
          go_roundg (t.arcs.length - (i + 1))
          case measure => omega
          case rel => exact ⟨i + 1, by omega, by go_num, by simp, by rw [HS.out]; exact HF7.out, HB7.out⟩
        · obtain rfl : i = t.arcs.length := by omega
          have HA := Lib.hid (arcsB_all t)
          go_wp2_with fail
          go_ret2
          exact ⟨_, by rw [HR1.out]; rfl, by rw [HR2.out, ← HA.out]; exact own_mono HF.out (by rw [HWS.out]; omega), HB0.out.trans (HB.out.mono HB0.out.size)⟩

end Go.Proofs.YtkcccfllkgjdiaaDoor.Tl
