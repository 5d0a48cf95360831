/-
  slip.putFlag, putSource, putMsg, putMsgs, fitting, walked.
  slip.putMsg, putMsgs, walked.
  slip.putMsgs, slip.Put of a batch, slip.May and slip.Put of no record, walked.
-/
import Derived.Test.YthohjcfpobeplaaOctP
import Derived.Test.YthohjcfpobeplaaShTold
import Derived.Deep.RegionLaw
import Derived.Deep.CutRange
import Derived.Deep.CutBlock
import Derived.Deep.LoopGhost
import Derived.Test.YthohjcfpobeplaaShMem
import Derived.Test.YthohjcfpobeplaaKeptW
import Derived.Test.YthohjcfpobeplaaSlMay

namespace Go.Proofs.Ythohjcfpobeplaa.Sl
open Go.RowKit Rg Sh
set_option linter.unusedVariables false
set_option linter.unusedSimpArgs false

def flagB (f : Bool) : List UInt8 := [if f = true then 1 else 0]
/-- a message's bytes. -/
def msgB (m : Mg) : List UInt8 := be 1 m.pub.toNat ++ be 4 m.seq.toNat ++ flagB m.again ++ (be 1 m.key.length ++ m.key) ++ (be 1 m.body.length ++ m.body)
def msgsB (l : List Mg) : List UInt8 := be 1 l.length ++ l.flatMap msgB
theorem u64_nat (n : Nat) (h : n < 18446744073709551616) : IntKind.u64.wrap (n : Int) = (n : Int) := by rw [IntKind.wrap_u64]; omega

set_option maxRecDepth 100000 in
set_option maxHeartbeats 1000000 in
theorem putFlag_any (base : Nat) (v : Value) (l : List UInt8) (f : Bool) (w : World) (hb : Buf w base v l) (hbase : base ≤ w.heap.size) (hl : l.length ≤ 90000) :
    Calls Try.prog 129 #[v, .bool f] w fun e w' => ∃ v', e = .returned v' ∧ Buf w' base v' (l ++ flagB f) ∧ Onto w v w' v' := by
  cases f with
  | false =>
    have HP := Lib.hid (putNum_any base v l 0 1 (by omega) (by omega) w hb hbase (by omega))
    clear hb hbase hl
    go_enter Try.func129, Try.ntmps129
    go_wp2_with (go_at_call 117; refine HP.out.mono ?_; rintro e w2 ⟨v2, rfl, hb2, ho2⟩; have H2 := Lib.hid (And.intro hb2 ho2); clear hb2 ho2)
    go_ret
    exact ⟨_, rfl, H2.out.1, H2.out.2⟩
  | true =>
    have HP := Lib.hid (putNum_any base v l 1 1 (by omega) (by omega) w hb hbase (by omega))
    clear hb hbase hl
    go_enter Try.func129, Try.ntmps129
    go_wp2_with (go_at_call 117; refine HP.out.mono ?_; rintro e w2 ⟨v2, rfl, hb2, ho2⟩; have H2 := Lib.hid (And.intro hb2 ho2); clear hb2 ho2)
    go_ret
    exact ⟨_, rfl, H2.out.1, H2.out.2⟩

set_option maxRecDepth 100000 in
set_option maxHeartbeats 1000000 in
theorem putSource_any (base : Nat) (v : Value) (l : List UInt8) (p q : Nat) (hp : p < 256) (hq : q ≤ 1073741824) (w : World) (hb : Buf w base v l) (hbase : base ≤ w.heap.size) (hl : l.length ≤ 90000) :
    Calls Try.prog 131 #[v, .int .i64 p, .int .i64 q] w fun e w' => ∃ v', e = .returned v' ∧ Buf w' base v' (l ++ be 1 p ++ be 4 q) ∧ Onto w v w' v' := by
  have HBU := Lib.hid hb
  have HBA := Lib.hid hbase
  have HLE := Lib.hid hl
  have u1 := u64_nat p (by omega)
  have u2 := u64_nat q (by omega)
  have HP := Lib.hid hp
  have HQ := Lib.hid hq
  clear hb hbase hl hp hq
  go_enter Try.func131, Try.ntmps131
  go_wp2_with (first | (go_at_call 117; have hh : Calls Try.prog 117 #[v, .int .u64 p, .int .i64 1] w _ := putNum_any base v l p 1 (by have := HP.out; omega) (by omega) w HBU.out HBA.out (by have := HLE.out; omega); (with_reducible refine hh.mono ?_); clear hh; rintro e w2 ⟨v2, rfl, hb2, ho2⟩; have HB2 := Lib.hid hb2; have HO2 := Lib.hid ho2; clear hb2 ho2) | (go_at_call 117; have hh : Calls Try.prog 117 #[v2, .int .u64 q, .int .i64 4] w2 _ := putNum_any base v2 _ q 4 (by have := HQ.out; omega) (by omega) w2 HB2.out (Nat.le_trans HBA.out HO2.out.grew.size) (by have := HLE.out; simp; omega); (with_reducible refine hh.mono ?_); clear hh; rintro e w3 ⟨v3, rfl, hb3, ho3⟩; have HB3 := Lib.hid hb3; have HO3 := Lib.hid ho3; clear hb3 ho3))
  go_ret
  exact ⟨_, rfl, HB3.out, HO2.out.trans HO3.out⟩

set_option maxRecDepth 100000 in
set_option maxHeartbeats 400000 in
theorem fitting_any (a : Option Addr) (n cap : Nat) (hn : n ≤ 20000) (w : World) : Calls Try.prog 120 #[.slice a n cap] w fun e w' => e = .returned (.tuple #[.slice a n cap, .int .i64 0]) ∧ w = w' := by
  have e1 : ¬ (20000 : Int) < (n : Int) := by omega
  go_enter Try.func120, Try.ntmps120
  go_wp2_with fail
  refine bodyPost_ret (v := .tuple #[.slice a n cap, .int .i64 0]) (by simp [results, Try.results120, go_sem, *]) rfl ?_
  exact ⟨rfl, rfl⟩

end Go.Proofs.Ythohjcfpobeplaa.Sl

namespace Go.Proofs.Ythohjcfpobeplaa.Sl
open Go.RowKit Rg Sh
set_option linter.unusedVariables false
set_option linter.unusedSimpArgs false

theorem msgB_len (m : Mg) : (msgB m).length = 8 + m.key.length + m.body.length := by
  unfold msgB flagB
  simp
  omega
theorem Buf.drew' {w : World} {base : Nat} {v : Value} {l : List UInt8} (h : Buf w base v l) : Buf w.drew base v l := own_stay h fun _ _ => rfl
theorem Onto.undrew {w w' : World} {v v' : Value} (h : Onto w.drew v w' v') : Onto w v w' v' := ⟨⟨h.grew.os, h.grew.tape, h.grew.output, h.grew.size, h.grew.block⟩, h.own⟩
theorem text_len (k : List UInt8) : (⟨k.toArray⟩ : ByteArray).size = k.length ∧ (⟨k.toArray⟩ : ByteArray).data.toList = k := ⟨by simp [ByteArray.size], by simp⟩

set_option maxRecDepth 100000 in
set_option maxHeartbeats 4000000 in
theorem putMsg_in (base : Nat) (v : Value) (l : List UInt8) (p q : Nat) (key body : List UInt8) (again : Bool) (hp : p < 256) (hq : q ≤ 1073741824) (hk : key.length ≤ 1000) (hy : body.length ≤ 1000) (w : World) (hb : Buf w base v l) (hbase : base ≤ w.heap.size) (hl : l.length ≤ 50000) :
    Calls Try.prog 128 #[v, .agg #[.int .i64 p, .int .i64 q, .string ⟨key.toArray⟩, .string ⟨body.toArray⟩, .bool again]] w fun e w' => ∃ v', e = .returned v' ∧ Buf w' base v' (l ++ (be 1 p ++ be 4 q ++ flagB again ++ (be 1 key.length ++ key) ++ (be 1 body.length ++ body))) ∧ Onto w v w' v' := by
  obtain ⟨hx, hb0, hWs⟩ := one_box (w := w) (.cells #[.int .i64 p, .int .i64 q, .string ⟨key.toArray⟩, .string ⟨body.toArray⟩, .bool again] 35)
  obtain ⟨W, hW⟩ : ∃ W, W = w.alloc (.cells #[.int .i64 p, .int .i64 q, .string ⟨key.toArray⟩, .string ⟨body.toArray⟩, .bool again] 35) := ⟨_, rfl⟩
  rw [← hW] at hx hb0 hWs
  have hbu : Buf W base v l := by rw [hW]; exact World.ownsRow.alloc hb _
  have HBU := Lib.hid hbu
  have HX := Lib.hid hx
  have HW := Lib.hid hW
  have HBA : Hid (base ≤ W.heap.size) := Lib.hid (by omega)
  have HLE := Lib.hid hl
  have HKY := Lib.hid (And.intro hk hy)
  have HON : Hid (∀ w' v', Onto W v w' v' → Onto w v w' v') := Lib.hid fun w' v' h => by rw [hW] at h; exact Onto.alloc h
  have HSRC := Lib.hid (putSource_any base v l p q hp hq W.drew (Buf.drew' hbu) HBA.out (by omega))
  obtain ⟨⟨c0, c1, c2, c3, c4⟩, -⟩ := box5 hx
  clear hb hbase hl hx hb0 hWs hW hbu hk hy hp hq
  go_enter Try.func128, Try.ntmps128
  go_upto_region 1 with fail
  rw [← HW.out]
  go_cut [0] from 5 to 20 (fun v0 wx => Buf wx base v0 (l ++ be 1 p ++ be 4 q ++ flagB again) ∧ Onto W v wx v0)
  case first =>
    go_region_law (first | (go_simp; go_at_call 131; refine HSRC.out.mono ?_; rintro e w2 ⟨v2, rfl, hb2, ho2⟩; have HB2 := Lib.hid hb2; have HO2 := Lib.hid (Onto.undrew ho2); have HX2 := Lib.hid ((HO2.out.block (box_lt HX.out).1 (own_box HBU.out HX.out (by decide))).trans HX.out); obtain ⟨⟨d0, d1, d2, d3, d4⟩, -⟩ := box5 HX2.out; clear hb2 ho2) |
      (go_simp; go_at_call 129; refine (putFlag_any base v2 _ again w2 HB2.out (Nat.le_trans HBA.out HO2.out.grew.size) (by have := HLE.out; simp; omega)).mono ?_; rintro e w3 ⟨v3, rfl, hb3, ho3⟩; have HB3 := Lib.hid hb3; have HO3 := Lib.hid (HO2.out.trans ho3); clear hb3 ho3))
    all_goals
      go_wp2_with fail
      go_meet
      case rel => exact ⟨HB3.out, HO3.out⟩
  case rest =>
  obtain ⟨hb3, ho3⟩ := hcut
  have HB3 := Lib.hid hb3
  have HO3 := Lib.hid ho3
  have HX3 := Lib.hid ((ho3.block (box_lt HX.out).1 (own_box HBU.out HX.out (by decide))).trans HX.out)
  clear hb3 ho3 c0 c1 c2 c3 c4 HSRC
  generalize wc = W3 at *
  obtain ⟨⟨c0, c1, c2, c3, c4⟩, -⟩ := box5 HX3.out
  have ht4 : Calls Try.prog 130 #[u0, .string ⟨key.toArray⟩, .int .i64 1] W3.drew _ := (putText_any base u0 _ ⟨key.toArray⟩ 1 (by decide) (by decide) W3.drew (Buf.drew' HB3.out) (Nat.le_trans HBA.out HO3.out.grew.size) (by have := HLE.out; simp [flagB]; omega) (by rw [(text_len key).1]; have := HKY.out.1; omega))
  have HT4 := Lib.hid ht4
  clear ht4
  go_wp2_with fail
  go_region_law (first | (go_simp; go_at_call 130; (with_reducible refine HT4.out.mono ?_); rintro e w4 ⟨v4, rfl, hb4, ho4⟩; have HB4 := Lib.hid hb4; have HO4 := Lib.hid (Onto.undrew ho4); have HX4 := Lib.hid ((HO4.out.block (box_lt HX3.out).1 (own_box HB3.out HX3.out (by decide))).trans HX3.out); obtain ⟨⟨d0, d1, d2, d3, d4⟩, -⟩ := box5 HX4.out; clear hb4 ho4) |
    (go_simp; go_at_call 130; have hh : Calls Try.prog 130 #[v4, .string ⟨body.toArray⟩, .int .i64 1] w4 _ := (putText_any base v4 _ ⟨body.toArray⟩ 1 (by decide) (by decide) w4 HB4.out (Nat.le_trans (Nat.le_trans HBA.out HO3.out.grew.size) HO4.out.grew.size) (by have := HLE.out; have := HKY.out.1; simp [flagB]; omega) (by rw [(text_len body).1]; have := HKY.out.2; omega)); (with_reducible refine hh.mono ?_); clear hh; rintro e w5 ⟨v5, rfl, hb5, ho5⟩; have HB5 := Lib.hid hb5; have HO5 := Lib.hid ((HO3.out.trans HO4.out).trans ho5); clear hb5 ho5))
  all_goals
    go_wp2_with fail
    go_ret
    refine ⟨_, rfl, ?_, HON.out _ _ HO5.out⟩
    have := HB5.out
    simp only [(text_len key).1, (text_len key).2, (text_len body).1, (text_len body).2] at this
    simpa [List.append_assoc] using this

theorem putMsg_any (base : Nat) (v : Value) (l : List UInt8) (m : Mg) (hm : MayMg m) (w : World) (hb : Buf w base v l) (hbase : base ≤ w.heap.size) (hl : l.length ≤ 50000) :
    Calls Try.prog 128 #[v, .agg #[.int .i64 m.pub, .int .i64 m.seq, .string ⟨m.key.toArray⟩, .string ⟨m.body.toArray⟩, .bool m.again]] w fun e w' => ∃ v', e = .returned v' ∧ Buf w' base v' (l ++ msgB m) ∧ Onto w v w' v' := by
  obtain ⟨⟨h1, h2, h3, h4, h5, h6⟩, h7⟩ := hm
  obtain ⟨pub, seq, key, body, again⟩ := m
  dsimp only at h1 h2 h3 h4 h5 h6 h7
  obtain ⟨p, rfl⟩ : ∃ p : Nat, pub = p := ⟨pub.toNat, by omega⟩
  obtain ⟨q, rfl⟩ : ∃ q : Nat, seq = q := ⟨seq.toNat, by omega⟩
  exact putMsg_in base v l p q key body again (by omega) (by omega) (by omega) (by omega) w hb hbase hl

end Go.Proofs.Ythohjcfpobeplaa.Sl

namespace Go.Proofs.Ythohjcfpobeplaa.Sl
open Go.RowKit Rg Sh
set_option linter.unusedVariables false
set_option linter.unusedSimpArgs false

def pmRel (W : World) (base : Nat) (bs : List UInt8) (l : List Mg) (m : Nat) (v0 v14 : Value) (wr : World) : Prop :=
  ∃ i : Nat, i ≤ l.length ∧ v14 = .int .i64 i ∧ m = l.length - i ∧ Buf wr base v0 (bs ++ be 1 l.length ++ (l.take i).flatMap msgB) ∧ Below base W wr

theorem flat_len : ∀ (l : List Mg), (∀ m ∈ l, MayMg m) → (l.flatMap msgB).length ≤ 228 * l.length
  | [], _ => by simp
  | m :: l, h => by
    have h1 := h m (by simp)
    have h2 := flat_len l fun x hx => h x (by simp [hx])
    rw [List.flatMap_cons, List.length_append, msgB_len, List.length_cons]
    have := h1.1.2.2.2.2.2
    have := h1.2
    omega

set_option maxRecDepth 100000 in
set_option maxHeartbeats 4000000 in
theorem putMsgs_any (base : Nat) (v : Value) (bs : List UInt8) (a : Option Addr) (cap : Nat) (l : List Mg) (hm : ∀ m ∈ l, MayMg m) (hl : l.length ≤ 60) (w : World) (hb : Buf w base v bs) (hbase : base ≤ w.heap.size) (hbs : bs.length ≤ 20000)
    (hf : ∀ wx, Below base w wx → MgsAt wx a cap l) :
    Calls Try.prog 118 #[v, .slice a l.length cap] w fun e w' => ∃ v', e = .returned v' ∧ Buf w' base v' (bs ++ msgsB l) ∧ Below base w w' := by
  have HF := Lib.hid hf
  have HM := Lib.hid hm
  have HBU := Lib.hid hb
  have HLB := Lib.hid hbs
  have HFL : Hid (∀ i, ((l.take i).flatMap msgB).length ≤ 13680) := Lib.hid fun i => by
    have h1 := flat_len (l.take i) fun x hx => hm x (List.mem_of_mem_take hx)
    have h2 : (l.take i).length ≤ 60 := by rw [List.length_take]; omega
    omega
  have hmax := (hf w (Below.refl _ _)).max
  have hlen := (hf w (Below.refl _ _)).len
  unfold maxLen at hmax
  have hu : IntKind.u64.wrap (l.length : Int) = ((l.length : Nat) : Int) := u64_nat _ (by omega)
  have hp : Calls Try.prog 117 #[v, .int .u64 (l.length : Int), .int .i64 1] w _ := putNum_any base v bs l.length 1 (by omega) (by omega) w hb hbase (by omega)
  have HP := Lib.hid hp
  have HBA := Lib.hid hbase
  clear hf hm hb hp hbs hbase
  go_enter Try.func118, Try.ntmps118
  go_wp2_with (go_at_call 117; (with_reducible refine HP.out.mono ?_); rintro e w2 ⟨v2, rfl, hb2, ho2⟩; have HB2 := Lib.hid hb2; have HW2 := Lib.hid (ho2.below HBU.out HBA.out); clear hb2 ho2)
  go_loopg [0, 14] l.length (pmRel w base bs l)
  case atStart => exact ⟨0, Nat.zero_le _, rfl, rfl, by simpa using HB2.out, HW2.out⟩
  case round =>
    obtain ⟨i, hi, rfl, rfl, hb, hbw⟩ := hrel
    have HB := Lib.hid hb
    have HBW := Lib.hid hbw
    clear hb hbw HB2 HW2
    by_cases hlt : i < l.length
    · have hlti : (i : Int) < (l.length : Int) := by omega
      have h0i : (0 : Int) ≤ (i : Int) := by omega
      have h4 : IntKind.i64.wrap ((i : Int) + 1) = (i : Int) + 1 := IntWalk.i64_in _ (by omega)
      obtain ⟨b, o, haa, d0, d1, d2, d3, d4⟩ := MgsAt.get (HF.out wr HBW.out) i hlt
      subst haa
      have HMI := Lib.hid (HM.out _ (List.getElem_mem hlt))
      have HTK : Hid ((l.take (i + 1)).flatMap msgB = (l.take i).flatMap msgB ++ msgB l[i]) := Lib.hid (by rw [List.take_succ_eq_append_getElem hlt, List.flatMap_append]; simp)
      generalize l[i] = x at *
      go_upto_region 5 with fail
      have p1 := heap_alloc_new wr (.cells #[.int .i64 x.pub, .int .i64 x.seq, .string ⟨x.key.toArray⟩, .string ⟨x.body.toArray⟩, .bool x.again] 35)
      have p2 : Below wr.heap.size wr (wr.alloc (.cells #[.int .i64 x.pub, .int .i64 x.seq, .string ⟨x.key.toArray⟩, .string ⟨x.body.toArray⟩, .bool x.again] 35)) := (Below.refl _ _).alloc (Nat.le_refl _) _
      have p3 := World.ownsRow.alloc HB.out (.cells #[.int .i64 x.pub, .int .i64 x.seq, .string ⟨x.key.toArray⟩, .string ⟨x.body.toArray⟩, .bool x.again] 35)
      generalize wr.alloc (.cells #[.int .i64 x.pub, .int .i64 x.seq, .string ⟨x.key.toArray⟩, .string ⟨x.body.toArray⟩, .bool x.again] 35) = W3 at *
      clear d0 d1 d2 d3 d4
      obtain ⟨⟨d0, d1, d2, d3, d4⟩, -⟩ := box5 p1
      have hsz : base ≤ W3.heap.size := Nat.le_trans (Nat.le_trans HBA.out HBW.out.size) p2.size
      have HB3 : Hid (Below base w W3) := Lib.hid (HBW.out.trans (p2.mono (Nat.le_trans HBA.out HBW.out.size)))
      have hbuf3 : Buf W3 base u0 (bs ++ be 1 l.length ++ (l.take i).flatMap msgB) := p3
      have HC := Lib.hid (putMsg_any base u0 _ x HMI.out W3 hbuf3 hsz (by have := HFL.out i; have := HLB.out; simp only [List.length_append, be_length]; omega))
      have HBF3 := Lib.hid hbuf3
      have HSZ := Lib.hid hsz
      clear p1 p2 p3 hsz hbuf3
      go_wp2_with (go_at_call 128; refine HC.out.mono ?_; rintro e w4 ⟨v4, rfl, hb4, ho4⟩; have HB4 := Lib.hid hb4; have HW4 := Lib.hid (HB3.out.trans (ho4.below HBF3.out HSZ.out)); clear hb4 ho4)
      go_roundg (l.length - (i + 1))
      case measure => omega
      case rel => exact ⟨i + 1, by omega, by go_num, by simp, by rw [HTK.out]; simpa [List.append_assoc] using HB4.out, HW4.out⟩
    · obtain rfl : i = l.length := by omega
      go_wp2_with fail
      go_ret
      have h := HB.out
      rw [List.take_length] at h
      exact ⟨_, rfl, by unfold msgsB; simpa [List.append_assoc] using h, HBW.out⟩

set_option maxRecDepth 100000 in
set_option maxHeartbeats 4000000 in
theorem may_zero (w : World) :
    Calls Try.prog 100 #[.agg #[.int .i64 0, .int .i64 0, .bool false, .slice none 0 0, .bool false, .int .i64 0, .slice none 0 0, .slice none 0 0, .slice none 0 0]] w fun e w' => e = .returned (.bool false) ∧ Below w.heap.size w w' := by
  have hb := (Below.refl w.heap.size w).alloc (Nat.le_refl _) (.cells #[.int .i64 0, .int .i64 0, .bool false, .slice none 0 0, .bool false, .int .i64 0, .slice none 0 0, .slice none 0 0, .slice none 0 0] 89)
  have HB := Lib.hid hb
  clear hb
  go_enter Try.func100, Try.ntmps100
  go_wp2_with fail
  go_ret
  exact ⟨rfl, HB.out⟩

set_option maxRecDepth 100000 in
set_option maxHeartbeats 4000000 in
theorem put_zero_any (w : World) :
    Calls Try.prog 97 #[.agg #[.int .i64 0, .int .i64 0, .bool false, .slice none 0 0, .bool false, .int .i64 0, .slice none 0 0, .slice none 0 0, .slice none 0 0]] w fun e w' => e = .returned (.tuple #[.slice none 0 0, .int .i64 1]) ∧ Below w.heap.size w w' := by
  obtain ⟨hx, hb0, hWs⟩ := one_box (w := w) (.cells #[.int .i64 0, .int .i64 0, .bool false, .slice none 0 0, .bool false, .int .i64 0, .slice none 0 0, .slice none 0 0, .slice none 0 0] 89)
  have HB0 := Lib.hid hb0
  have HC := Lib.hid (may_zero (w.alloc (.cells #[.int .i64 0, .int .i64 0, .bool false, .slice none 0 0, .bool false, .int .i64 0, .slice none 0 0, .slice none 0 0, .slice none 0 0] 89)))
  clear hx hb0 hWs
  go_enter Try.func97, Try.ntmps97
  go_wp2_with (go_at_call 100; refine HC.out.mono ?_; rintro e w2 ⟨rfl, hb2⟩; have HB2 := Lib.hid (HB0.out.trans (hb2.mono HB0.out.size)); clear hb2)
  refine bodyPost_ret (v := .tuple #[.slice none 0 0, .int .i64 1]) (by simp [results, Try.results97, go_sem, *]) rfl ?_
  exact ⟨rfl, HB2.out⟩

set_option maxRecDepth 100000 in
set_option maxHeartbeats 4000000 in
theorem put_put_any (bt : List Mg) (ba : Option Addr) (bc : Nat) (ra : Option Addr) (rc : Nat) (ha : Option Addr) (hc : Nat) (ma : Option Addr) (mc : Nat) (w : World) (hr : RcAt w ba bc ra rc ha hc ma mc ⟨1, 0, false, bt, ⟨false, 0, [], [], []⟩⟩) (h1 : 1 ≤ bt.length) (h2 : bt.length ≤ 8) (h3 : ∀ m ∈ bt, MayMg m) :
    Calls Try.prog 97 #[.agg #[.int .i64 1, .int .i64 0, .bool false, .slice ba bt.length bc, .bool false, .int .i64 0, .slice ra 0 rc, .slice ha 0 hc, .slice ma 0 mc]] w
      fun e w' => ∃ v, e = .returned (.tuple #[v, .int .i64 0]) ∧ Buf w' w.heap.size v (be 1 1 ++ msgsB bt) ∧ Below w.heap.size w w' := by
  obtain ⟨hx, hb0, hWs⟩ := one_box (w := w) (.cells #[.int .i64 1, .int .i64 0, .bool false, .slice ba bt.length bc, .bool false, .int .i64 0, .slice ra 0 rc, .slice ha 0 hc, .slice ma 0 mc] 89)
  obtain ⟨W, hW⟩ : ∃ W, W = w.alloc (.cells #[.int .i64 1, .int .i64 0, .bool false, .slice ba bt.length bc, .bool false, .int .i64 0, .slice ra 0 rc, .slice ha 0 hc, .slice ma 0 mc] 89) := ⟨_, rfl⟩
  rw [← hW] at hx hb0 hWs
  have HR1 := Lib.hid (RcAt.below ba bc ra rc ha hc ma mc hr hb0)
  have HB0 := Lib.hid hb0
  have HW := Lib.hid hW
  have HWS := Lib.hid hWs
  have HBX := Lib.hid (fun (wx : World) (h : Below W.heap.size W wx) => (box9 (box_bl hx h)).1)
  have HMAY := Lib.hid (may_put bt ba bc ra rc ha hc ma mc W HR1.out h1 h2 h3)
  rw [hW] at HMAY
  have HFL : Hid ((msgsB bt).length ≤ 5000) := Lib.hid (by
    have := flat_len bt h3
    unfold msgsB
    rw [List.length_append, be_length]
    omega)
  have HLN : Hid ((be 1 1 ++ msgsB bt).length = 1 + (msgsB bt).length) := Lib.hid (by rw [List.length_append, be_length])
  have HPM := Lib.hid fun (v : Value) (wx : World) (hb : Below W.heap.size W wx) (hu : Buf wx W.heap.size v (be 1 1)) => putMsgs_any W.heap.size v (be 1 1) ba bc bt h3 (by omega) wx hu hb.size (by simp) fun wy hy => HR1.out.bt.below (hb.trans hy)
  have HPN : Hid (∀ wx, Below W.heap.size W wx → Calls Try.prog 117 #[.slice none 0 0, .int .u64 1, .int .i64 1] wx fun e w' => ∃ v', e = .returned v' ∧ Buf w' W.heap.size v' (be 1 1) ∧ Below W.heap.size wx w') := Lib.hid fun wx h => by
    refine (putNum_any W.heap.size (.slice none 0 0) [] 1 1 (by omega) (by omega) wx (Buf.nil _ _) h.size (by simp)).mono ?_
    rintro e w' ⟨v', rfl, hb, ho⟩
    exact ⟨v', rfl, by simpa using hb, ho.below (Buf.nil wx W.heap.size) h.size⟩
  obtain ⟨x0, x1, x2, x3, x4, x5, x6, x7, x8⟩ := HBX.out W (Below.refl _ _)
  rw [hW] at x0 x1 x2 x3 x4 x5 x6 x7 x8
  clear hr hx hb0 hWs hW h1 h2 h3
  go_enter Try.func97, Try.ntmps97
  go_wp2_with (first | (go_at_call 100; refine HMAY.out.mono ?_; rintro e w1 ⟨rfl, hb1⟩; rw [← HW.out] at hb1; have HB1 := Lib.hid hb1; clear hb1; obtain ⟨x0, x1, x2, x3, x4, x5, x6, x7, x8⟩ := HBX.out _ HB1.out) | (go_at_call 117; (with_reducible refine (HPN.out _ HB1.out).mono ?_); rintro e w2 ⟨v2, rfl, hu2, hb2⟩; have HU2 := Lib.hid hu2; have HB2 := Lib.hid (HB1.out.trans hb2); clear hu2 hb2; obtain ⟨x0, x1, x2, x3, x4, x5, x6, x7, x8⟩ := HBX.out _ HB2.out) |
    (go_at_call 118; refine (HPM.out _ _ HB2.out HU2.out).mono ?_; rintro e w3 ⟨v3, rfl, hu3, hb3⟩; obtain ⟨a3, c3, rfl, hlc, hcm⟩ := hu3.form; rw [HLN.out] at hu3 ⊢; have HU3 := Lib.hid hu3; have HB3 := Lib.hid (HB2.out.trans hb3); clear hu3 hb3 hlc hcm) |
    (go_at_call 120; refine (fitting_any a3 (1 + (msgsB bt).length) c3 (by have := HFL.out; omega) _).mono ?_; rintro e w4 ⟨rfl, rfl⟩))
  refine bodyPost_ret (v := .tuple #[.slice a3 (1 + (msgsB bt).length) c3, .int .i64 0]) (by simp [results, Try.results97, go_sem, *]) rfl ?_
  exact ⟨_, rfl, own_mono HU3.out (by have := HWS.out; omega), HB0.out.trans (HB3.out.mono HB0.out.size)⟩

end Go.Proofs.Ythohjcfpobeplaa.Sl
