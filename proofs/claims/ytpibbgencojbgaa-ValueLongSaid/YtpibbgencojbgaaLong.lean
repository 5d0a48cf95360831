/-
  ValueLong.
-/
import Derived.Test.YtpibbgencojbgaaLongD
import Derived.Test.YtpibbgencojbgaaGetT
import Derived.Test.YtpibbgencojbgaaPutT
import Derived.Test.YtpibbgencojbgaaTold
import Derived.Deep.LoopGhost
import Derived.Deep.OwnRows
import Derived.Deep.RegionHeld3
import Derived.IntWalk
import Derived.Deep.AppendLies
namespace Go.Proofs.Ytpibbgencojbgaa
open Go.RowKit
set_option linter.unusedVariables false

def longZ (j : Nat) : Z := (longIt j, (none, 0), [])
def longZs (i : Nat) : List Z := (List.range i).map longZ
def longRel (W : World) (n : Nat) (v4 v5 v6 : Value) (wr : World) : Prop :=
  ∃ i : Nat, i ≤ 14 ∧ n = 14 - i ∧ v5 = .int .i64 (4 + 207 * i : Nat) ∧ v6 = .int .i64 i ∧ Below W.heap.size W wr ∧ wr.ownsRow W.heap.size 28 5 v4 (longZs i).length ((longZs i).flatMap zc)


theorem conv_made {w : World} {g n : Nat} (h : w.heap[g]? = some (.cells (madeCells #[.int .u8 0] n) 5 (0, 0))) :
    (convert 25 9 (.slice (some ⟨g, 0, none⟩) n n)).run Try.prog w = .ok (.string (zeros n)) w := by
  have hc : BytesAt w.heap.size w (some ⟨g, 0, none⟩) (List.replicate n 0) := by
    intro h0
    refine ⟨g, 0, rfl, (Array.getElem?_eq_some_iff.1 h).1, fun i hi => ?_⟩
    rw [cell_of_row w _ _ _ _ _ h, Nat.zero_add]
    have e := toList_madeCells_one (.int .u8 0) n
    rw [← Array.getElem?_toList, e]
    simp only [List.length_replicate] at hi
    rw [List.getElem?_eq_getElem (by simpa using hi)]
    simp
  have hr := conv_str n hc
  rw [List.length_replicate] at hr
  rw [hr]
  simp [zeros]
theorem longZ_ok (j : Nat) (hj : j < 14) (w : World) : ZOk w (longZ j) := by
  refine ⟨SlAt.nil w none (Nat.zero_le _), ?_, (by decide : (-9223372036854775808 : Int) ≤ 4 ∧ (4 : Int) ≤ 9223372036854775807), (by decide : (-9223372036854775808 : Int) ≤ 0 ∧ (0 : Int) ≤ 9223372036854775807), ?_⟩
  · show (longName j).size ≤ maxLen; rw [longName_size j hj]; decide
  · show (zeros 200).size ≤ maxLen; rw [zeros_size]; decide
theorem longZs_succ (i : Nat) : longZs (i + 1) = longZs i ++ [longZ i] := by simp [longZs, List.range_succ]
theorem longZs_length (i : Nat) : (longZs i).length = i := by simp [longZs]
theorem longZs_fst (i : Nat) : (longZs i).map (·.1) = longs i := by simp [longZs, longs, longZ, Function.comp_def]

theorem slice_name (i : Nat) (hi : i < 14) (w : World) :
    (Instr.slice 9 (.string { data := #[48, 49, 50, 51, 52, 53, 54, 55, 56, 57, 97, 98, 99, 100] }) (some (.int .i64 i)) (some (.int .i64 ((i : Int) + 1))) none).run Try.prog w = .ok (.string (longName i)) w := by
  have h : i = 0 ∨ i = 1 ∨ i = 2 ∨ i = 3 ∨ i = 4 ∨ i = 5 ∨ i = 6 ∨ i = 7 ∨ i = 8 ∨ i = 9 ∨ i = 10 ∨ i = 11 ∨ i = 12 ∨ i = 13 := by omega
  rcases h with rfl | rfl | rfl | rfl | rfl | rfl | rfl | rfl | rfl | rfl | rfl | rfl | rfl | rfl
  all_goals (show _ = _; kernel_rfl)
theorem step_put_item {ops : Array Oper} {o : Oper} {a : Act} {K : Act → World → Prop} {Q : Exit → Act → World → Prop} {E : Prop} {w : World} {base : Nat} {v : Value} {zs : List Z} {cs : Array Value} (z : Z) (hgd : o.guard = none) (s x : Operand)
    (ho : o.op = .call { callee := .builtin .append, args := #[s, x], argTypes := #[22, 22] }) (hb : w.ownsRow base 28 5 v zs.length (zs.flatMap zc)) (hbase : base ≤ w.heap.size) (hl : zs.length ≤ 100000) (hcs : cs = (zc z).toArray)
    (hs : a.eval s = v) (H : Nat) (hH : w.heap.size = H) (hx : a.eval x = .slice (some ⟨H, 0, none⟩) 1 1)
    (h : ∀ g cap w', w'.ownsRow base 28 5 (.slice (some ⟨g, 0, none⟩) (zs.length + 1) cap) (zs ++ [z]).length ((zs ++ [z]).flatMap zc) → w.grownBy w' v.ownBlock → (v.ownBlock = some g ∨ w.heap.size ≤ g) →
      K (a.put o.dst (.slice (some ⟨g, 0, none⟩) (zs.length + 1) cap)) w') :
    if Region.wanted o (yielded ops a.tmps) = true then Oper.wp Try.prog o a (w.alloc (.cells cs 28)) K Q else E := by
  subst hcs
  subst hH
  obtain ⟨i0, hi, hz0, hz1, hz2⟩ := info_parts item_info
  have hb' := World.ownsRow.alloc hb (.cells (zc z).toArray 28)
  have hone : ∀ u ∈ zc z, u.oneCell' = true := by
    intro u hu
    simp only [zc, List.mem_cons, List.not_mem_nil, or_false] at hu
    rcases hu with rfl | rfl | rfl | rfl | rfl <;> rfl
  refine step_append_lies _ hgd s x 22 ho base 28 i0 _ 5 72 Try.underlying22 hi hz0 hz1 hz2 rfl (by decide) v zs.length (zs.flatMap zc) hs hb' ⟨w.heap.size, 0, none⟩ 1 1 (zc z) hx (by simp) (World.news_of_block (heap_alloc_new w _)) hone (by decide) (by unfold maxLen; omega) (by omega) (by simp; omega) _ rfl ?_
  intro g cap w' hown hg hat hlt
  refine h g cap w' ?_ (alloc_before hg) ?_
  · rw [List.length_append, List.flatMap_append]
    simpa using hown
  · rcases hat with h1 | h1
    · exact .inl h1
    · exact .inr (by simp at h1; omega)

set_option maxRecDepth 100000 in
set_option maxHeartbeats 4000000 in
theorem long_any (p0 : Int) (w : World) (w0 : (Lit.int .i64 p0).wf = true) :
    Calls Try.prog 9 #[.int .i64 p0] w fun e w' => e = .returned (.bool true) ∧ Below w.heap.size w w' := by
  clear w0
  obtain ⟨q, hq⟩ : ∃ q, IntKind.u64.wrap p0 = q := ⟨_, rfl⟩
  have hq2 : 0 ≤ q ∧ q ≤ 18446744073709551615 := by rw [← hq, IntKind.wrap_u64]; omega
  obtain ⟨k, hk, hk20⟩ : ∃ k : Nat, q.tmod 20 = (k : Int) ∧ k < 20 := by
    rw [Int.tmod_eq_emod_of_nonneg hq2.1]
    exact ⟨(q % 20).toNat, by omega, by omega⟩
  clear hq2
  go_enter Try.func9, Try.ntmps9
  go_wp2_with fail
  go_loopg [4, 5, 6] 14 (longRel w)
  case atStart => exact ⟨0, by omega, rfl, rfl, rfl, Below.refl _ _, World.ownsRow_nil _ _ _ _⟩
  case round =>
    obtain ⟨i, hi, rfl, rfl, rfl, hb, hown⟩ := hrel
    have HB := Lib.hid hb
    have HOWN := Lib.hid hown
    clear hb hown
    by_cases hlt : (i : Int) < 14
    · have hmk : (Instr.makeSlice 25 (.int .i64 200) (.int .i64 200)).run Try.prog wr = .ok (.slice (some ⟨wr.heap.size, 0, none⟩) 200 200) (wr.alloc (.cells (madeCells #[.int .u8 0] 200) 5)) := make_bytes 200 (by omega) wr
      go_wp2_with fail
      clear hmk
      have hnb : some wr.heap.size ≠ u4.ownBlock := fun e => by have := World.ownsRow.lt HOWN.out _ e.symm; omega
      have hz := heap_alloc_new wr (.cells (madeCells #[.int .u8 0] 200) 5)
      have hb2 : Below w.heap.size w (wr.alloc (.cells (madeCells #[.int .u8 0] 200) 5)) := HB.out.alloc HB.out.size _
      have ho2 := World.ownsRow.alloc HOWN.out (.cells (madeCells #[.int .u8 0] 200) 5)
      generalize wr.alloc (.cells (madeCells #[.int .u8 0] 200) 5) = w2 at *
      have hcv := conv_made hz
      have HB2 := Lib.hid hb2
      have HO2 := Lib.hid ho2
      clear hb2 ho2 HB HOWN
      have HNB := Lib.hid hnb
      clear hnb
      have hs2 : w.heap.size ≤ w2.heap.size := HB2.out.size
      have HZ := Lib.hid hz
      have hzl : (longZs i).length ≤ 100000 := by rw [longZs_length]; omega
      have h14 : (i : Int) + 1 ≤ 14 := by omega
      have h0i : (0 : Int) ≤ (i : Int) := by omega
      clear hz
      have hs1 : IntKind.i64.wrap ((i : Int) + 1) = (i : Int) + 1 := IntWalk.i64_in _ (by omega)
      have hsl := slice_name i (by omega)
      go_region_held3 (fun wx => (convert 25 9 (.slice (some ⟨wr.heap.size, 0, none⟩) 200 200)).run Try.prog wx = .ok (.string (zeros 200)) wx)
        (first | exact conv_made (w := w2.drew) HZ.out | exact conv_made (alloc_keep HZ.out) | assumption)
        ((refine step_put_item (w := w2.drew) (longZ i) rfl (.tmp 20) (.tmp 29) rfl HO2.out hs2 hzl rfl rfl _ rfl rfl ?_
          intro g4 cap4 w4 hown4 hg4 hat4
          have HOWN4 := Lib.hid hown4
          have HG4 := Lib.hid hg4
          have hcv4 := conv_made ((hg4.block _ (Array.getElem?_eq_some_iff.1 HZ.out).1 HNB.out).trans HZ.out)
          clear hown4 hg4 hat4))
      rename_i hHeld
      clear hHeld hcv hcv4 hsl
      go_wp2_with fail
      go_roundg (14 - (i + 1))
      case measure => omega
      case rel =>
        have ho := HOWN4.out
        have hb : Below w.heap.size w w4 := HB2.out.drew.grown HG4.out hs2 (fun k e => (World.ownsRow.lt HO2.out k e).1)
        refine ⟨i + 1, by omega, rfl, ?_, ?_, hb, ?_⟩
        · simp; omega
        · simp
        · rw [longZs_succ]
          simpa using ho
    · obtain rfl : i = 14 := by omega
      clear hlt hi
      have e1 : IntKind.i64.wrap (2990 + (k : Int)) = 2990 + (k : Int) := IntWalk.i64_in _ (by omega)
      obtain ⟨n, hn, hnk⟩ : ∃ n : Nat, (2990 : Int) + (k : Int) - 2902 - 7 = (n : Int) ∧ n = 81 + k := ⟨81 + k, by omega, rfl⟩
      have hmk := make_bytes n (by omega) wr
      have HNK := Lib.hid hnk
      clear hnk
      have hcv := conv_made (heap_alloc_new wr (.cells (madeCells #[.int .u8 0] n) 5))
      have HB2 := Lib.hid (HB.out.alloc HB.out.size (.cells (madeCells #[.int .u8 0] n) 5))
      have HO2 := Lib.hid (World.ownsRow.alloc HOWN.out (.cells (madeCells #[.int .u8 0] n) 5))
      clear HB HOWN
      have hs2 : w.heap.size ≤ (wr.alloc (.cells (madeCells #[.int .u8 0] n) 5)).heap.size := HB2.out.size
      have hzl : (longZs 14).length ≤ 100000 := by rw [longZs_length]; omega
      go_wp2_with (at_builtin; refine put_item (lastIt n, (none, 0), []) rfl (.tmp 38) (.tmp 44) rfl HO2.out hs2 hzl rfl rfl (wr.heap.size + 1) (by simp) rfl ?_; intro g4 cap4 w4 hown4 hg4 hat4; have HOWN4 := Lib.hid hown4; have HG4 := Lib.hid hg4; clear hown4 hg4 hat4)
      have hok : ∀ z ∈ longZs 14 ++ [(lastIt n, (none, 0), [])], ZOk w4 z := by
        intro z hz
        rcases List.mem_append.1 hz with hz | hz
        · simp only [longZs, List.mem_map, List.mem_range] at hz
          obtain ⟨j, hj, rfl⟩ := hz
          exact longZ_ok j hj w4
        · obtain rfl := List.mem_singleton.1 hz
          refine ⟨SlAt.nil w4 none (Nat.zero_le _), (by decide : (ByteArray.mk #[122]).size ≤ maxLen), (by decide : (-9223372036854775808 : Int) ≤ 4 ∧ (4 : Int) ≤ 9223372036854775807), (by decide : (-9223372036854775808 : Int) ≤ 0 ∧ (0 : Int) ≤ 9223372036854775807), ?_⟩
          show (zeros n).size ≤ maxLen
          rw [zeros_size]
          have := HNK.out
          unfold maxLen
          omega
      obtain ⟨a5, cap5, bs, h5, hsl, _⟩ := slAt_row HOWN4.out hok
      have hmap : (longZs 14 ++ [((lastIt n, (none, 0), []) : Z)]).map (·.1) = longL k := by
        rw [List.map_append, longZs_fst, HNK.out]
        rfl
      rw [hmap] at hsl
      have hlen : (longZs 14).length + 1 = (longL k).length := by rw [longZs_length]; simp [longL, longs_length]
      have hb4 : Below w.heap.size w w4 := HB2.out.grown HG4.out hs2 (fun k e => (World.ownsRow.lt HO2.out k e).1)
      obtain ⟨rfl, -, rfl⟩ := Value.slice.inj h5
      rw [hlen]
      clear hok h5 hmap HOWN4 HG4 HO2 HB2 hs2 hzl hcv hmk hn HNK
      have htb : Tb w4 (some ⟨g4, 0, none⟩) cap4 (longL k) := ⟨_, hsl⟩
      clear hsl hlen
      refine (put_any w4 htb).mono ?_
      rintro e w5 ⟨hb5, h⟩
      have hmay := longL_may k hk20
      have hplen := longL_put k
      have hb6 := hb4.trans (hb5.mono hb4.size)
      by_cases h3 : 3000 < 2990 + (k : Int)
      · obtain rfl : e = .returned (.tuple #[.slice none 0 0, .int .i64 502]) := by
          rcases h with ⟨h, _⟩ | ⟨_, _, h⟩ | ⟨_, h, _⟩
          · exact absurd hmay h
          · exact h
          · omega
        have HB6 := Lib.hid hb6
        clear h htb hmay hplen hb4 hb5 hb6
        go_wp2_with fail
        refine (told_any _).mono ?_
        rintro e w7 ⟨rfl, hb7⟩
        have HB7 := Lib.hid (HB6.out.trans (hb7.mono HB6.out.size))
        clear hb7 HB6
        go_wp2_with fail
        go_ret
        exact ⟨rfl, HB7.out⟩
      · obtain ⟨v, rfl, hbuf⟩ : ∃ v, e = .returned (.tuple #[v, .int .i64 0]) ∧ Buf w5 w4.heap.size v (putT (longL k)) := by
          rcases h with ⟨h, _⟩ | ⟨_, h, _⟩ | ⟨_, _, h⟩
          · exact absurd hmay h
          · omega
          · exact h
        obtain ⟨va, vc, rfl, _, _, _⟩ := hbuf.bytes
        rw [hplen]
        have HB6 := Lib.hid hb6
        clear h htb hmay hplen hb4 hb5 hb6 hbuf
        go_wp2_with fail
        refine (told_any _).mono ?_
        rintro e w7 ⟨rfl, hb7⟩
        have HB7 := Lib.hid (HB6.out.trans (hb7.mono HB6.out.size))
        clear hb7 HB6
        go_wp2_with fail
        go_ret
        exact ⟨by first | rfl | (simp; done) | (simp [*]; omega), HB7.out⟩

end Go.Proofs.Ytpibbgencojbgaa
