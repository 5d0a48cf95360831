/-
  FrameRows.
-/
import Derived.Test.YtpibbgencojbgaaTold4
import Derived.Test.YtpibbgencojbgaaArg4
import Derived.Test.YtpibbgencojbgaaRowD4
import Derived.Deep.LoopGhost
import Derived.Deep.RegionHeld3
namespace Go.Proofs.Ytpibbgencojbgaa
open Go.RowKit
set_option linter.unusedVariables false

theorem Buf.below {w w' : World} {base : Nat} {v : Value} {l : List UInt8} (h : Buf w base v l) (hb : Below w.heap.size w w') : Buf w' base v l := World.ownsRow.below1 h hb
theorem flat_le {l : List Fr} {k : Nat} (h : ∀ f ∈ l, (putF f).length ≤ k) : (l.flatMap putF).length ≤ l.length * k := by
  induction l with
  | nil => simp
  | cons f r ih =>
    rw [List.flatMap_cons, List.length_append, List.length_cons]
    have h1 := h f (by simp)
    have h2 := ih (fun g hg => h g (by simp [hg]))
    rw [Nat.add_mul]
    omega
theorem flat_snoc {l : List Fr} {i : Nat} (h : i < l.length) : (l.take (i + 1)).flatMap putF = (l.take i).flatMap putF ++ putF l[i] := by
  rw [List.take_succ_eq_append_getElem h, List.flatMap_append]
  simp
/-- the ends, as cells. -/
def endsC (l : List Fr) (i : Nat) : List Value := (List.range i).map fun j => .int .i64 (endAt l (j + 1))
theorem endsC_length (l : List Fr) (i : Nat) : (endsC l i).length = i := by simp [endsC]
theorem endsC_succ (l : List Fr) (i : Nat) : endsC l (i + 1) = endsC l i ++ [.int .i64 (endAt l (i + 1))] := by simp [endsC, List.range_succ]
theorem int_info : (Try.prog.info? 3).map (fun i => (i.zero, i.size, i.bytes)) = some (some (.int .i64 0), 1, 8) := by kernel_rfl
/-- a number more: it lies in the block made last. -/
theorem put_int {ops : Array Oper} {rest : List Oper} {o : Oper} {a : Act} {Q : Exit → Act → World → Prop} {w : World} {base n : Nat} {v : Value} {xs : List Value} {z : Int} (hgd : o.guard = none) (s x : Operand)
    (ho : o.op = .call { callee := .builtin .append, args := #[s, x], argTypes := #[61, 61] }) (hb : w.ownsRow base 3 1 v n xs) (hbase : base ≤ w.heap.size) (hl : n ≤ 100000)
    (hs : a.eval s = v) (H : Nat) (hH : w.heap.size = H) (hx : a.eval x = .slice (some ⟨H, 0, none⟩) 1 1)
    (h : ∀ v' w', w'.ownsRow base 3 1 v' (n + 1) (xs ++ [.int .i64 z]) → w.grownBy w' v.ownBlock → wpList Try.prog ops Q rest (a.put o.dst v') w') :
    wpList Try.prog ops Q (o :: rest) a (w.alloc (.cells #[.int .i64 z] 3)) := by
  subst hH
  obtain ⟨i0, hi, hz0, hz1, hz2⟩ := info_parts int_info
  have hb' := World.ownsRow.alloc hb (.cells #[.int .i64 z] 3)
  refine wpList_append_lies _ hgd s x 61 ho base 3 i0 _ 1 8 Try.underlying61 hi hz0 hz1 hz2 rfl (by decide) v n xs hs hb' ⟨w.heap.size, 0, none⟩ 1 1 [.int .i64 z] hx (by simp) (World.news_of_block (heap_alloc_new w _)) (by simp [Value.oneCell']) (by decide) (by unfold maxLen; omega) (by omega) (by simp; omega) _ rfl ?_
  intro g cap w' hown hg hat hlt
  exact h _ w' hown (alloc_before hg)
/-- rows of unlike elements lie apart. -/
theorem own_apart {w : World} {base base' n n' k k' : Nat} {t t' : TypeId} {v v' : Value} {xs xs' : List Value} (h : w.ownsRow base t k v n xs) (h' : w.ownsRow base' t' k' v' n' xs') (ht : t ≠ t') : v.ownBlock = none ∨ v.ownBlock ≠ v'.ownBlock := by
  rcases h.2 with ⟨rfl, _⟩ | ⟨g, cap, cur, rfl, _, hg, _⟩
  · exact .inl rfl
  · refine .inr fun e => ?_
    rcases h'.2 with ⟨rfl, _⟩ | ⟨g', cap', cur', rfl, _, hg', _⟩
    · simp [Value.ownBlock] at e
    · have : g = g' := by simpa [Value.ownBlock] using e
      subst this
      rw [hg] at hg'
      simp only [Option.some.injEq, Obj.cells.injEq] at hg'
      exact ht hg'.2.1
theorem ends_cell {w : World} {base i : Nat} {v : Value} {l : List Fr} (h : w.ownsRow base 3 1 v i (endsC l i)) {j : Nat} (hj : j < i) : ∃ g c, v = .slice (some ⟨g, 0, none⟩) i c ∧ w.cell? ⟨g, j, none⟩ = some (.int .i64 (endAt l (j + 1))) := by
  obtain ⟨g, c, rfl, _, _⟩ := h.form (by omega)
  refine ⟨g, c, rfl, ?_⟩
  rw [World.ownsRow.cellAt h j (by omega)]
  simp [endsC, List.getElem?_map, List.getElem?_range hj]
theorem ends_form {w : World} {base i : Nat} {v : Value} {xs : List Value} (h : w.ownsRow base 3 1 v i xs) : ∃ a c, v = .slice a i c := by
  rcases h.2 with ⟨rfl, hn⟩ | ⟨g, cap, cur, rfl, _⟩
  · exact ⟨none, 0, by rw [hn]⟩
  · exact ⟨_, _, rfl⟩

theorem all_open {l : List UInt8} {w : World} {e : Ending} {w' : World} (h : AllR l w e w') : Below w.heap.size w w' ∧ ∃ (am : Option Addr) (n1 cm : Nat) (R1 : List Fr) (R2 : Nat) (R3 : Int), e = .returned (.tuple #[.slice am n1 cm, .int .i64 R2, .int .i64 R3]) ∧ n1 = R1.length ∧ allP (l.length + 1) l = (R1, R2, R3) ∧ FrsAt w' am cm R1 := by
  obtain ⟨hb, a, c, he, hf⟩ := h
  exact ⟨hb, a, _, c, _, _, _, he, rfl, rfl, hf⟩

def rowsRel (W : World) (l : List Fr) (n : Nat) (v5 v6 v7 : Value) (wr : World) : Prop :=
  ∃ i : Nat, i ≤ l.length ∧ n = l.length - i ∧ v7 = .int .i64 i ∧ Below W.heap.size W wr ∧ Buf wr W.heap.size v5 ((l.take i).flatMap putF) ∧ wr.ownsRow W.heap.size 3 1 v6 i (endsC l i) ∧ ∀ f ∈ l.take i, MayF f ∧ (putF f).length ≤ 308
def countRel (W : World) (l : List Fr) (k : Nat) (n : Nat) (v14 v15 : Value) (wr : World) : Prop :=
  W = wr ∧ ∃ j : Nat, j ≤ l.length ∧ n = l.length - j ∧ v14 = .int .i64 j ∧ v15 = .int .i64 (endAt l j) ∧ endAt l j ≤ k
def sameRel (W : World) (j : Nat) (n : Nat) (v16 : Value) (wr : World) : Prop :=
  ∃ i : Nat, i ≤ j ∧ n = j - i ∧ v16 = .int .i64 i ∧ Below W.heap.size W wr

set_option maxRecDepth 100000 in
set_option maxHeartbeats 16000000 in
theorem rows_any (a0 : Option Addr) (cap0 : Nat) (l0 : List Fr) (p1 : Int) (w : World) (w0 : FrsAt w a0 cap0 l0) (w1 : (Lit.int .i64 p1).wf = true) :
    Calls Try.prog 11 #[.slice a0 l0.length cap0, .int .i64 p1] w fun e w' => e = .returned (.bool true) ∧ Below w.heap.size w w' := by
  clear w1
  have HF := Lib.hid w0
  have hcap := w0.max
  have hlen := w0.len
  unfold maxLen at hcap
  clear w0
  by_cases h10 : (10 : Int) < (l0.length : Int)
  · go_enter Try.func11, Try.ntmps11
    go_wp2_with fail
    refine (told_any _).mono ?_
    rintro e w1 ⟨rfl, hb⟩
    have HB := Lib.hid hb
    clear hb
    go_wp2_with fail
    go_ret
    exact ⟨rfl, HB.out⟩
  go_enter Try.func11, Try.ntmps11
  go_wp2_with fail
  go_loopg [5, 6, 7] l0.length (rowsRel w l0)
  case atStart => exact ⟨0, Nat.zero_le _, rfl, rfl, Below.refl _ _, by simpa using Buf.nil w w.heap.size, World.ownsRow_nil _ _ _ _, by simp⟩
  case round =>
    obtain ⟨i, hi, rfl, rfl, hb, hbuf, hown, hok⟩ := hrel
    have HB := Lib.hid hb
    have HBUF := Lib.hid hbuf
    have HOWN := Lib.hid hown
    have HOK := Lib.hid hok
    clear hb hbuf hown hok
    by_cases hlt : i < l0.length
    · have hlti : (i : Int) < (l0.length : Int) := by omega
      have h0i : (0 : Int) ≤ (i : Int) := by omega
      obtain ⟨b, o, da, dc, rfl, hbw, c0, c1, c2, hdl, hdm, hdat⟩ := (HF.out.below HB.out).get i hlt
      have HPUT := Lib.hid (put_any wr.heap.size l0[i] da dc hdl hdm wr (Nat.le_refl _) hdat)
      have HS := Lib.hid (flat_snoc hlt)
      have HE := Lib.hid (endAt_succ hlt)
      have hpl := putF_length l0[i]
      obtain ⟨d, hd⟩ : ∃ d, d = l0[i].data.length := ⟨_, rfl⟩
      rw [← hd] at hpl c2 HPUT
      have HPL := Lib.hid hpl.symm
      unfold maxLen at hdm
      clear hdl hdat hpl hd
      by_cases h300 : (300 : Int) < (d : Int)
      · go_wp2_with fail
        refine (told_any _).mono ?_
        rintro e w2 ⟨rfl, hb2⟩
        have HB2 := Lib.hid (HB.out.trans (hb2.mono HB.out.size))
        clear hb2
        go_wp2_with fail
        go_ret
        exact ⟨rfl, HB2.out⟩
      go_wp2_with fail
      refine HPUT.out.mono ?_
      rintro e w1 ⟨hb1, h⟩
      have HB1 := Lib.hid (HB.out.trans (hb1.mono HB.out.size))
      have HBUF1 := Lib.hid (HBUF.out.below hb1)
      have HOWN1 := Lib.hid (World.ownsRow.below1 HOWN.out hb1)
      have hsz1 := hb1.size
      clear hb1 HBUF HB HOWN c0 c1 c2 HPUT
      rcases h with ⟨hno, rfl⟩ | ⟨hm, v, rfl, hbuf⟩
      · clear hno
        go_wp2_with fail
        refine (told_any _).mono ?_
        rintro e w2 ⟨rfl, hb2⟩
        have HB2 := Lib.hid (HB1.out.trans (hb2.mono HB1.out.size))
        clear hb2
        go_wp2_with fail
        go_ret
        exact ⟨rfl, HB2.out⟩
      obtain ⟨gb, cb, rfl, hgb, hbb⟩ := hbuf.bytes1 (by have := HPL.out; omega)
      have HBB := Lib.hid hbb
      have HMAY := Lib.hid hm
      clear hbuf hbb hm
      have hfl : ((l0.take i).flatMap putF).length ≤ 4000 := by
        have h1 := flat_le (l := l0.take i) (k := 308) (fun f hf => (HOK.out f hf).2)
        have h2 : (l0.take i).length ≤ 10 := by simp; omega
        have : (l0.take i).length * 308 ≤ 10 * 308 := Nat.mul_le_mul_right _ h2
        omega
      have hfp : ((l0.take i).flatMap putF).length + (putF l0[i]).length ≤ 1000000 := by have := HPL.out; omega
      have hbs1 : w.heap.size ≤ w1.heap.size := HB1.out.size
      have e1 : IntKind.i64.wrap ((i : Int) + 1) = (i : Int) + 1 := IntWalk.i64_in _ (by omega)
      have hi10 : i ≤ 100000 := by omega
      go_wp2_with (at_builtin; first
        | (refine put_bytes (base := w.heap.size) (w := w1) (m := putF l0[i]) rfl (.tmp 46) (.tmp 47) rfl HBUF1.out hbs1 HBB.out.at hfp rfl rfl rfl ?_; intro v2 w2 hb2 hon2; rw [← HS.out] at hb2; have hown2 := World.ownsRow.kept HOWN1.out hon2.grew (own_apart HOWN1.out HBUF1.out (by decide)); have hbel2 := HB1.out.trans (hon2.below HBUF1.out hbs1); obtain ⟨a2, c2, rfl, hl2, hm2⟩ := hb2.form; rw [show ((l0.take (i + 1)).flatMap putF).length = endAt l0 (i + 1) from rfl] at hb2 ⊢; have hsz2 := hbel2.size; have HBUF2 := Lib.hid hb2; have HOWN2 := Lib.hid hown2; have HBEL2 := Lib.hid hbel2; clear hb2 hon2 hown2 hbel2)
        | (refine put_int (base := w.heap.size) (w := w2) rfl (.tmp 49) (.tmp 52) rfl HOWN2.out hsz2 hi10 rfl _ rfl rfl ?_; intro v3 w3 hown3 hg3; rw [← endsC_succ] at hown3; have hb3 := World.ownsRow.kept HBUF2.out hg3 (own_apart HBUF2.out HOWN2.out (by decide)); have hbel3 := HBEL2.out.grown hg3 hsz2 (fun k e => (World.ownsRow.lt HOWN2.out k e).1); have HBUF3 := Lib.hid hb3; have HOWN3 := Lib.hid hown3; have HBEL3 := Lib.hid hbel3; clear hb3 hg3 hown3 hbel3))
      go_roundg (l0.length - (i + 1))
      case measure => omega
      case rel =>
        refine ⟨i + 1, by omega, rfl, by simp, HBEL3.out, HBUF3.out, HOWN3.out, fun f hf => ?_⟩
        rw [List.take_succ_eq_append_getElem hlt, List.mem_append, List.mem_singleton] at hf
        rcases hf with hf | rfl
        · exact HOK.out f hf
        · exact ⟨HMAY.out, by have := HPL.out; omega⟩
    · obtain rfl : i = l0.length := by omega
      rw [List.take_length] at HOK HBUF
      obtain ⟨a5, c5, rfl, hl5, hm5⟩ := HBUF.out.form
      obtain ⟨a6, c6, rfl⟩ := ends_form HOWN.out
      have hfl : (l0.flatMap putF).length ≤ 4000 := by
        have h1 := flat_le (l := l0) (k := 308) (fun f hf => (HOK.out f hf).2)
        have : l0.length * 308 ≤ 10 * 308 := Nat.mul_le_mul_right _ (by omega)
        omega
      obtain ⟨N, hN⟩ : ∃ N, N = (l0.flatMap putF).length := ⟨_, rfl⟩
      rw [← hN] at hl5 hfl ⊢
      have HN := Lib.hid hN
      clear hN
      unfold maxLen at hm5
      obtain ⟨q, hq⟩ : ∃ q, IntKind.u64.wrap p1 = q := ⟨_, rfl⟩
      have hq0 : 0 ≤ q := by rw [← hq, IntKind.wrap_u64]; omega
      have hw1 : IntKind.u64.wrap ((N : Int) + 1) = (N : Int) + 1 := by rw [IntKind.wrap_u64]; omega
      obtain ⟨k, hk, hkN⟩ : ∃ k : Nat, q.tmod ((N : Int) + 1) = (k : Int) ∧ (k : Int) < (N : Int) + 1 := by
        rw [Int.tmod_eq_emod_of_nonneg hq0]
        have h1 := Int.emod_nonneg q (b := (N : Int) + 1) (by omega)
        have h2 := Int.emod_lt_of_pos q (b := (N : Int) + 1) (by omega)
        exact ⟨(q % ((N : Int) + 1)).toNat, by omega, by omega⟩
      have hn0 : ¬ (N : Int) + 1 = 0 := by omega
      have hk0 : (0 : Int) ≤ (k : Int) := by omega
      have hkc : (k : Int) ≤ (c5 : Int) := by omega
      have hkN2 : k ≤ N := by omega
      have hat : BytesAt wr.heap.size wr a5 ((l0.flatMap putF).take k) := by
        obtain ⟨a', c', he, _, _, hat⟩ := HBUF.out.bytes
        obtain ⟨rfl, -, rfl⟩ := Value.slice.inj he
        exact hat.take k
      have hlk : ((l0.flatMap putF).take k).length = k := by rw [List.length_take]; have := HN.out; omega
      have hall := all_any (B := wr.heap.size) a5 c5 ((l0.flatMap putF).take k) (by rw [hlk]; omega) (by unfold maxLen; omega) (by omega) wr (Nat.le_refl _) hat
      rw [hlk] at hall
      have HALL := Lib.hid hall
      have HLK := Lib.hid hlk
      clear hall hat hlk hq0
      go_wp2_with fail
      refine HALL.out.mono ?_
      intro e w1 h
      obtain ⟨hb1, am, n1, cm, R1, R2, R3, rfl, hn1, hR, hfm⟩ := all_open h
      have HR := Lib.hid hR
      have HN1 := Lib.hid hn1
      have HFM := Lib.hid hfm
      have HB1 := Lib.hid (HB.out.trans (hb1.mono HB.out.size))
      have HOWN1 := Lib.hid (World.ownsRow.below1 HOWN.out hb1)
      clear h hb1 hn1 hfm hR HALL HOWN HB HBUF
      go_wp2_with fail
      go_loopg [14, 15] l0.length (countRel w1 l0 k)
      case atStart => exact ⟨rfl, 0, Nat.zero_le _, rfl, rfl, rfl, by rw [endAt_zero]; omega⟩
      case round =>
        obtain ⟨rfl, j, hj, rfl, rfl, rfl, hjk⟩ := hrel
        by_cases hstop : j = l0.length ∨ ∃ h : j < l0.length, k < endAt l0 (j + 1)
        · have hr := allP_at (fun f hf => (HOK.out f hf).1) (by have := HN.out; omega) hj hjk hstop
          rw [HR.out] at hr
          have hr1 : R1 = l0.take j := congrArg (fun x : List Fr × Nat × Int => x.1) hr
          have hr2 : R2 = endAt l0 j := congrArg (fun x : List Fr × Nat × Int => x.2.1) hr
          have hr3 : R3 = if endAt l0 j = k then 0 else 3 := congrArg (fun x : List Fr × Nat × Int => x.2.2) hr
          have hn1 : n1 = j := by rw [HN1.out, hr1, List.length_take]; omega
          subst hn1
          obtain ⟨j, hjn⟩ : ∃ j, j = n1 := ⟨_, rfl⟩
          subst hjn
          have HR1 := Lib.hid hr1
          clear hr hr1 HN1 HR
          subst hr2
          obtain ⟨E, hE⟩ : ∃ E, E = endAt l0 j := ⟨_, rfl⟩
          rw [← hE] at hr3 hjk ⊢
          have HEE := Lib.hid hE
          clear hE
          have htest : j = l0.length ∨ (j < l0.length ∧ ∃ h : j < l0.length, k < endAt l0 (j + 1)) := by
            rcases hstop with h | ⟨h, h2⟩
            · exact .inl h
            · exact .inr ⟨h, h, h2⟩
          clear hstop
          by_cases hek : E = k
          · rw [if_pos hek] at hr3
            subst hr3
            subst hek
            rcases htest with hjl | ⟨hjl, _, h2⟩
            · have hjl2 : ¬ (j : Int) < (l0.length : Int) := by omega
              clear hjl
              go_wp2_with fail
              go_loopg [16] j (sameRel w1 j)
              case atStart => exact ⟨0, Nat.zero_le _, rfl, rfl, Below.refl _ _⟩
              case round =>
                obtain ⟨i, hi, rfl, rfl, hb⟩ := hrel
                have HBI := Lib.hid hb
                clear hb
                by_cases hlt2 : i < j
                · have hi0 : (0 : Int) ≤ (i : Int) := by omega
                  have hij : (i : Int) < (j : Int) := by omega
                  have hil : (i : Int) < (l0.length : Int) := by omega
                  obtain ⟨bm, om, dm, cdm, rfl, hbm, m0, m1, m2, hm3, hm4, hm5'⟩ := HFM.out.get i (by rw [HR1.out, List.length_take]; omega)
                  obtain ⟨bl, ol, dl, cdl, rfl, hbl, k0, k1, k2, hk3, hk4, hk5⟩ := (HF.out.below HB1.out).get i (by omega)
                  have hge : R1[i]'(by rw [HR1.out, List.length_take]; omega) = l0[i] := by
                    have h1 := HR1.out
                    subst h1
                    rw [List.getElem_take]
                  rw [hge] at m0 m1 m2 hm3 hm5'
                  clear hge
                  have KS : ∀ wx, Below w1.heap.size w1 wx → (wx.cell? ⟨bm, om + i * 3, none⟩ = some (.int .i64 l0[i].kind) ∧ wx.cell? ⟨bm, om + i * 3 + 1, none⟩ = some (.int .i64 l0[i].chan) ∧ wx.cell? ⟨bm, om + i * 3 + 2, none⟩ = some (.slice dm l0[i].data.length cdm)) ∧ (wx.cell? ⟨bl, ol + i * 3, none⟩ = some (.int .i64 l0[i].kind) ∧ wx.cell? ⟨bl, ol + i * 3 + 1, none⟩ = some (.int .i64 l0[i].chan) ∧ wx.cell? ⟨bl, ol + i * 3 + 2, none⟩ = some (.slice dl l0[i].data.length cdl)) ∧ Below w1.heap.size w1 wx := by
                    intro wx hx
                    exact ⟨⟨(hx.cell hbm).trans m0, (hx.cell hbm).trans m1, (hx.cell hbm).trans m2⟩, ⟨(hx.cell hbl).trans k0, (hx.cell hbl).trans k1, (hx.cell hbl).trans k2⟩, hx⟩
                  have KSAME : ∀ wx, Below w1.heap.size w1 wx → Calls Try.prog 38 #[.agg #[.int .i64 l0[i].kind, .int .i64 l0[i].chan, .slice dm l0[i].data.length cdm], .agg #[.int .i64 l0[i].kind, .int .i64 l0[i].chan, .slice dl l0[i].data.length cdl]] wx (SaysB (l0[i] = l0[i]) wx) := fun wx hx =>
                    same_any l0[i] l0[i] dm dl cdm cdl wx hx.size hx.size (hm5'.under hx) (hk5.under hx)
                  have KH := Lib.hid KS
                  have KM := Lib.hid KSAME
                  have e1 : IntKind.i64.wrap ((i : Int) + 1) = (i : Int) + 1 := IntWalk.i64_in _ (by omega)
                  clear KS KSAME m0 m1 m2 k0 k1 k2 hm3 hm4 hm5' hk3 hk4 hk5
                  go_wp2_with fail
                  go_region_held3 (fun wx => (wx.cell? ⟨bm, om + i * 3, none⟩ = some (.int .i64 l0[i].kind) ∧ wx.cell? ⟨bm, om + i * 3 + 1, none⟩ = some (.int .i64 l0[i].chan) ∧ wx.cell? ⟨bm, om + i * 3 + 2, none⟩ = some (.slice dm l0[i].data.length cdm)) ∧ (wx.cell? ⟨bl, ol + i * 3, none⟩ = some (.int .i64 l0[i].kind) ∧ wx.cell? ⟨bl, ol + i * 3 + 1, none⟩ = some (.int .i64 l0[i].chan) ∧ wx.cell? ⟨bl, ol + i * 3 + 2, none⟩ = some (.slice dl l0[i].data.length cdl)) ∧ Below w1.heap.size w1 wx)
                    (first | exact KH.out _ HBI.out.drew | exact KH.out _ (by assumption))
                    ((go_at_call 38; have hbx := (by assumption : _ ∧ _ ∧ Below _ _ _).2.2; refine (KM.out _ hbx).mono ?_; rintro e w3 ⟨r, hr, rfl, hb3⟩; obtain rfl : r = true := hr.2 (by trivial); have hbz := hbx.trans (hb3.mono hbx.size); clear hr hb3 hbx))
                  have HBZ := Lib.hid hbz
                  rename_i hHeld
                  clear hHeld hbz
                  go_wp2_with fail
                  go_roundg (j - (i + 1))
                  case measure => omega
                  case rel => exact ⟨i + 1, by omega, rfl, by simp, HBZ.out⟩
                · have hij : ¬ (i : Int) < (j : Int) := by omega
                  go_wp2_with fail
                  refine (told_any _).mono ?_
                  rintro e w9 ⟨rfl, hb9⟩
                  have HB9 := Lib.hid ((HB1.out.trans (HBI.out.mono HB1.out.size)).trans (hb9.mono (Nat.le_trans HB1.out.size HBI.out.size)))
                  clear hb9
                  go_wp2_with fail
                  go_ret
                  exact ⟨rfl, HB9.out⟩
            · have hjl2 : (j : Int) < (l0.length : Int) := by omega
              obtain ⟨ge, ce, he6, hcell⟩ := ends_cell HOWN1.out hjl
              obtain ⟨rfl, -, rfl⟩ := Value.slice.inj he6
              obtain ⟨E2, hE2⟩ : ∃ E2, E2 = endAt l0 (j + 1) := ⟨_, rfl⟩
              rw [← hE2] at h2 hcell
              have h2i : ¬ (E2 : Int) ≤ (E : Int) := by omega
              have hj0 : (0 : Int) ≤ (j : Int) := by omega
              clear hjl he6 hE2 h2
              go_wp2_with fail
              go_loopg [16] j (sameRel w1 j)
              case atStart => exact ⟨0, Nat.zero_le _, rfl, rfl, Below.refl _ _⟩
              case round =>
                obtain ⟨i, hi, rfl, rfl, hb⟩ := hrel
                have HBI := Lib.hid hb
                clear hb
                by_cases hlt2 : i < j
                · have hi0 : (0 : Int) ≤ (i : Int) := by omega
                  have hij : (i : Int) < (j : Int) := by omega
                  have hil : (i : Int) < (l0.length : Int) := by omega
                  obtain ⟨bm, om, dm, cdm, rfl, hbm, m0, m1, m2, hm3, hm4, hm5'⟩ := HFM.out.get i (by rw [HR1.out, List.length_take]; omega)
                  obtain ⟨bl, ol, dl, cdl, rfl, hbl, k0, k1, k2, hk3, hk4, hk5⟩ := (HF.out.below HB1.out).get i (by omega)
                  have hge : R1[i]'(by rw [HR1.out, List.length_take]; omega) = l0[i] := by
                    have h1 := HR1.out
                    subst h1
                    rw [List.getElem_take]
                  rw [hge] at m0 m1 m2 hm3 hm5'
                  clear hge
                  have KS : ∀ wx, Below w1.heap.size w1 wx → (wx.cell? ⟨bm, om + i * 3, none⟩ = some (.int .i64 l0[i].kind) ∧ wx.cell? ⟨bm, om + i * 3 + 1, none⟩ = some (.int .i64 l0[i].chan) ∧ wx.cell? ⟨bm, om + i * 3 + 2, none⟩ = some (.slice dm l0[i].data.length cdm)) ∧ (wx.cell? ⟨bl, ol + i * 3, none⟩ = some (.int .i64 l0[i].kind) ∧ wx.cell? ⟨bl, ol + i * 3 + 1, none⟩ = some (.int .i64 l0[i].chan) ∧ wx.cell? ⟨bl, ol + i * 3 + 2, none⟩ = some (.slice dl l0[i].data.length cdl)) ∧ Below w1.heap.size w1 wx := by
                    intro wx hx
                    exact ⟨⟨(hx.cell hbm).trans m0, (hx.cell hbm).trans m1, (hx.cell hbm).trans m2⟩, ⟨(hx.cell hbl).trans k0, (hx.cell hbl).trans k1, (hx.cell hbl).trans k2⟩, hx⟩
                  have KSAME : ∀ wx, Below w1.heap.size w1 wx → Calls Try.prog 38 #[.agg #[.int .i64 l0[i].kind, .int .i64 l0[i].chan, .slice dm l0[i].data.length cdm], .agg #[.int .i64 l0[i].kind, .int .i64 l0[i].chan, .slice dl l0[i].data.length cdl]] wx (SaysB (l0[i] = l0[i]) wx) := fun wx hx =>
                    same_any l0[i] l0[i] dm dl cdm cdl wx hx.size hx.size (hm5'.under hx) (hk5.under hx)
                  have KH := Lib.hid KS
                  have KM := Lib.hid KSAME
                  have e1 : IntKind.i64.wrap ((i : Int) + 1) = (i : Int) + 1 := IntWalk.i64_in _ (by omega)
                  clear KS KSAME m0 m1 m2 k0 k1 k2 hm3 hm4 hm5' hk3 hk4 hk5
                  go_wp2_with fail
                  go_region_held3 (fun wx => (wx.cell? ⟨bm, om + i * 3, none⟩ = some (.int .i64 l0[i].kind) ∧ wx.cell? ⟨bm, om + i * 3 + 1, none⟩ = some (.int .i64 l0[i].chan) ∧ wx.cell? ⟨bm, om + i * 3 + 2, none⟩ = some (.slice dm l0[i].data.length cdm)) ∧ (wx.cell? ⟨bl, ol + i * 3, none⟩ = some (.int .i64 l0[i].kind) ∧ wx.cell? ⟨bl, ol + i * 3 + 1, none⟩ = some (.int .i64 l0[i].chan) ∧ wx.cell? ⟨bl, ol + i * 3 + 2, none⟩ = some (.slice dl l0[i].data.length cdl)) ∧ Below w1.heap.size w1 wx)
                    (first | exact KH.out _ HBI.out.drew | exact KH.out _ (by assumption))
                    ((go_at_call 38; have hbx := (by assumption : _ ∧ _ ∧ Below _ _ _).2.2; refine (KM.out _ hbx).mono ?_; rintro e w3 ⟨r, hr, rfl, hb3⟩; obtain rfl : r = true := hr.2 (by trivial); have hbz := hbx.trans (hb3.mono hbx.size); clear hr hb3 hbx))
                  have HBZ := Lib.hid hbz
                  rename_i hHeld
                  clear hHeld hbz
                  go_wp2_with fail
                  go_roundg (j - (i + 1))
                  case measure => omega
                  case rel => exact ⟨i + 1, by omega, rfl, by simp, HBZ.out⟩
                · have hij : ¬ (i : Int) < (j : Int) := by omega
                  go_wp2_with fail
                  refine (told_any _).mono ?_
                  rintro e w9 ⟨rfl, hb9⟩
                  have HB9 := Lib.hid ((HB1.out.trans (HBI.out.mono HB1.out.size)).trans (hb9.mono (Nat.le_trans HB1.out.size HBI.out.size)))
                  clear hb9
                  go_wp2_with fail
                  go_ret
                  exact ⟨rfl, HB9.out⟩
          · rw [if_neg hek] at hr3
            subst hr3
            have hekb : ((E : Int) == (k : Int)) = false := by rw [beq_eq_false_iff_ne]; omega
            have heki : ¬ (E : Int) = (k : Int) := by omega
            clear hek
            rcases htest with hjl | ⟨hjl, _, h2⟩
            · have hjl2 : ¬ (j : Int) < (l0.length : Int) := by omega
              clear hjl
              go_wp2_with fail
              go_loopg [16] j (sameRel w1 j)
              case atStart => exact ⟨0, Nat.zero_le _, rfl, rfl, Below.refl _ _⟩
              case round =>
                obtain ⟨i, hi, rfl, rfl, hb⟩ := hrel
                have HBI := Lib.hid hb
                clear hb
                by_cases hlt2 : i < j
                · have hi0 : (0 : Int) ≤ (i : Int) := by omega
                  have hij : (i : Int) < (j : Int) := by omega
                  have hil : (i : Int) < (l0.length : Int) := by omega
                  obtain ⟨bm, om, dm, cdm, rfl, hbm, m0, m1, m2, hm3, hm4, hm5'⟩ := HFM.out.get i (by rw [HR1.out, List.length_take]; omega)
                  obtain ⟨bl, ol, dl, cdl, rfl, hbl, k0, k1, k2, hk3, hk4, hk5⟩ := (HF.out.below HB1.out).get i (by omega)
                  have hge : R1[i]'(by rw [HR1.out, List.length_take]; omega) = l0[i] := by
                    have h1 := HR1.out
                    subst h1
                    rw [List.getElem_take]
                  rw [hge] at m0 m1 m2 hm3 hm5'
                  clear hge
                  have KS : ∀ wx, Below w1.heap.size w1 wx → (wx.cell? ⟨bm, om + i * 3, none⟩ = some (.int .i64 l0[i].kind) ∧ wx.cell? ⟨bm, om + i * 3 + 1, none⟩ = some (.int .i64 l0[i].chan) ∧ wx.cell? ⟨bm, om + i * 3 + 2, none⟩ = some (.slice dm l0[i].data.length cdm)) ∧ (wx.cell? ⟨bl, ol + i * 3, none⟩ = some (.int .i64 l0[i].kind) ∧ wx.cell? ⟨bl, ol + i * 3 + 1, none⟩ = some (.int .i64 l0[i].chan) ∧ wx.cell? ⟨bl, ol + i * 3 + 2, none⟩ = some (.slice dl l0[i].data.length cdl)) ∧ Below w1.heap.size w1 wx := by
                    intro wx hx
                    exact ⟨⟨(hx.cell hbm).trans m0, (hx.cell hbm).trans m1, (hx.cell hbm).trans m2⟩, ⟨(hx.cell hbl).trans k0, (hx.cell hbl).trans k1, (hx.cell hbl).trans k2⟩, hx⟩
                  have KSAME : ∀ wx, Below w1.heap.size w1 wx → Calls Try.prog 38 #[.agg #[.int .i64 l0[i].kind, .int .i64 l0[i].chan, .slice dm l0[i].data.length cdm], .agg #[.int .i64 l0[i].kind, .int .i64 l0[i].chan, .slice dl l0[i].data.length cdl]] wx (SaysB (l0[i] = l0[i]) wx) := fun wx hx =>
                    same_any l0[i] l0[i] dm dl cdm cdl wx hx.size hx.size (hm5'.under hx) (hk5.under hx)
                  have KH := Lib.hid KS
                  have KM := Lib.hid KSAME
                  have e1 : IntKind.i64.wrap ((i : Int) + 1) = (i : Int) + 1 := IntWalk.i64_in _ (by omega)
                  clear KS KSAME m0 m1 m2 k0 k1 k2 hm3 hm4 hm5' hk3 hk4 hk5
                  go_wp2_with fail
                  go_region_held3 (fun wx => (wx.cell? ⟨bm, om + i * 3, none⟩ = some (.int .i64 l0[i].kind) ∧ wx.cell? ⟨bm, om + i * 3 + 1, none⟩ = some (.int .i64 l0[i].chan) ∧ wx.cell? ⟨bm, om + i * 3 + 2, none⟩ = some (.slice dm l0[i].data.length cdm)) ∧ (wx.cell? ⟨bl, ol + i * 3, none⟩ = some (.int .i64 l0[i].kind) ∧ wx.cell? ⟨bl, ol + i * 3 + 1, none⟩ = some (.int .i64 l0[i].chan) ∧ wx.cell? ⟨bl, ol + i * 3 + 2, none⟩ = some (.slice dl l0[i].data.length cdl)) ∧ Below w1.heap.size w1 wx)
                    (first | exact KH.out _ HBI.out.drew | exact KH.out _ (by assumption))
                    ((go_at_call 38; have hbx := (by assumption : _ ∧ _ ∧ Below _ _ _).2.2; refine (KM.out _ hbx).mono ?_; rintro e w3 ⟨r, hr, rfl, hb3⟩; obtain rfl : r = true := hr.2 (by trivial); have hbz := hbx.trans (hb3.mono hbx.size); clear hr hb3 hbx))
                  have HBZ := Lib.hid hbz
                  rename_i hHeld
                  clear hHeld hbz
                  go_wp2_with fail
                  go_roundg (j - (i + 1))
                  case measure => omega
                  case rel => exact ⟨i + 1, by omega, rfl, by simp, HBZ.out⟩
                · have hij : ¬ (i : Int) < (j : Int) := by omega
                  go_wp2_with fail
                  refine (told_any _).mono ?_
                  rintro e w9 ⟨rfl, hb9⟩
                  have HB9 := Lib.hid ((HB1.out.trans (HBI.out.mono HB1.out.size)).trans (hb9.mono (Nat.le_trans HB1.out.size HBI.out.size)))
                  clear hb9
                  go_wp2_with fail
                  go_ret
                  exact ⟨rfl, HB9.out⟩
            · have hjl2 : (j : Int) < (l0.length : Int) := by omega
              obtain ⟨ge, ce, he6, hcell⟩ := ends_cell HOWN1.out hjl
              obtain ⟨rfl, -, rfl⟩ := Value.slice.inj he6
              obtain ⟨E2, hE2⟩ : ∃ E2, E2 = endAt l0 (j + 1) := ⟨_, rfl⟩
              rw [← hE2] at h2 hcell
              have h2i : ¬ (E2 : Int) ≤ (k : Int) := by omega
              have hj0 : (0 : Int) ≤ (j : Int) := by omega
              clear hjl he6 hE2 h2
              go_wp2_with fail
              go_loopg [16] j (sameRel w1 j)
              case atStart => exact ⟨0, Nat.zero_le _, rfl, rfl, Below.refl _ _⟩
              case round =>
                obtain ⟨i, hi, rfl, rfl, hb⟩ := hrel
                have HBI := Lib.hid hb
                clear hb
                by_cases hlt2 : i < j
                · have hi0 : (0 : Int) ≤ (i : Int) := by omega
                  have hij : (i : Int) < (j : Int) := by omega
                  have hil : (i : Int) < (l0.length : Int) := by omega
                  obtain ⟨bm, om, dm, cdm, rfl, hbm, m0, m1, m2, hm3, hm4, hm5'⟩ := HFM.out.get i (by rw [HR1.out, List.length_take]; omega)
                  obtain ⟨bl, ol, dl, cdl, rfl, hbl, k0, k1, k2, hk3, hk4, hk5⟩ := (HF.out.below HB1.out).get i (by omega)
                  have hge : R1[i]'(by rw [HR1.out, List.length_take]; omega) = l0[i] := by
                    have h1 := HR1.out
                    subst h1
                    rw [List.getElem_take]
                  rw [hge] at m0 m1 m2 hm3 hm5'
                  clear hge
                  have KS : ∀ wx, Below w1.heap.size w1 wx → (wx.cell? ⟨bm, om + i * 3, none⟩ = some (.int .i64 l0[i].kind) ∧ wx.cell? ⟨bm, om + i * 3 + 1, none⟩ = some (.int .i64 l0[i].chan) ∧ wx.cell? ⟨bm, om + i * 3 + 2, none⟩ = some (.slice dm l0[i].data.length cdm)) ∧ (wx.cell? ⟨bl, ol + i * 3, none⟩ = some (.int .i64 l0[i].kind) ∧ wx.cell? ⟨bl, ol + i * 3 + 1, none⟩ = some (.int .i64 l0[i].chan) ∧ wx.cell? ⟨bl, ol + i * 3 + 2, none⟩ = some (.slice dl l0[i].data.length cdl)) ∧ Below w1.heap.size w1 wx := by
                    intro wx hx
                    exact ⟨⟨(hx.cell hbm).trans m0, (hx.cell hbm).trans m1, (hx.cell hbm).trans m2⟩, ⟨(hx.cell hbl).trans k0, (hx.cell hbl).trans k1, (hx.cell hbl).trans k2⟩, hx⟩
                  have KSAME : ∀ wx, Below w1.heap.size w1 wx → Calls Try.prog 38 #[.agg #[.int .i64 l0[i].kind, .int .i64 l0[i].chan, .slice dm l0[i].data.length cdm], .agg #[.int .i64 l0[i].kind, .int .i64 l0[i].chan, .slice dl l0[i].data.length cdl]] wx (SaysB (l0[i] = l0[i]) wx) := fun wx hx =>
                    same_any l0[i] l0[i] dm dl cdm cdl wx hx.size hx.size (hm5'.under hx) (hk5.under hx)
                  have KH := Lib.hid KS
                  have KM := Lib.hid KSAME
                  have e1 : IntKind.i64.wrap ((i : Int) + 1) = (i : Int) + 1 := IntWalk.i64_in _ (by omega)
                  clear KS KSAME m0 m1 m2 k0 k1 k2 hm3 hm4 hm5' hk3 hk4 hk5
                  go_wp2_with fail
                  go_region_held3 (fun wx => (wx.cell? ⟨bm, om + i * 3, none⟩ = some (.int .i64 l0[i].kind) ∧ wx.cell? ⟨bm, om + i * 3 + 1, none⟩ = some (.int .i64 l0[i].chan) ∧ wx.cell? ⟨bm, om + i * 3 + 2, none⟩ = some (.slice dm l0[i].data.length cdm)) ∧ (wx.cell? ⟨bl, ol + i * 3, none⟩ = some (.int .i64 l0[i].kind) ∧ wx.cell? ⟨bl, ol + i * 3 + 1, none⟩ = some (.int .i64 l0[i].chan) ∧ wx.cell? ⟨bl, ol + i * 3 + 2, none⟩ = some (.slice dl l0[i].data.length cdl)) ∧ Below w1.heap.size w1 wx)
                    (first | exact KH.out _ HBI.out.drew | exact KH.out _ (by assumption))
                    ((go_at_call 38; have hbx := (by assumption : _ ∧ _ ∧ Below _ _ _).2.2; refine (KM.out _ hbx).mono ?_; rintro e w3 ⟨r, hr, rfl, hb3⟩; obtain rfl : r = true := hr.2 (by trivial); have hbz := hbx.trans (hb3.mono hbx.size); clear hr hb3 hbx))
                  have HBZ := Lib.hid hbz
                  rename_i hHeld
                  clear hHeld hbz
                  go_wp2_with fail
                  go_roundg (j - (i + 1))
                  case measure => omega
                  case rel => exact ⟨i + 1, by omega, rfl, by simp, HBZ.out⟩
                · have hij : ¬ (i : Int) < (j : Int) := by omega
                  go_wp2_with fail
                  refine (told_any _).mono ?_
                  rintro e w9 ⟨rfl, hb9⟩
                  have HB9 := Lib.hid ((HB1.out.trans (HBI.out.mono HB1.out.size)).trans (hb9.mono (Nat.le_trans HB1.out.size HBI.out.size)))
                  clear hb9
                  go_wp2_with fail
                  go_ret
                  exact ⟨rfl, HB9.out⟩
        · have hjl : j < l0.length := by
            rcases Nat.lt_or_ge j l0.length with h | h
            · exact h
            · exact absurd (.inl (by omega)) hstop
          have h2 : endAt l0 (j + 1) ≤ k := by
            rcases Nat.lt_or_ge k (endAt l0 (j + 1)) with h | h
            · exact absurd (.inr ⟨hjl, h⟩) hstop
            · exact h
          have hjl2 : (j : Int) < (l0.length : Int) := by omega
          obtain ⟨ge, ce, he6, hcell⟩ := ends_cell HOWN1.out hjl
          obtain ⟨rfl, -, rfl⟩ := Value.slice.inj he6
          obtain ⟨E2, hE2⟩ : ∃ E2, E2 = endAt l0 (j + 1) := ⟨_, rfl⟩
          rw [← hE2] at h2 hcell
          have h2i : (E2 : Int) ≤ (k : Int) := by omega
          have hj0 : (0 : Int) ≤ (j : Int) := by omega
          have e1 : IntKind.i64.wrap ((j : Int) + 1) = (j : Int) + 1 := IntWalk.i64_in _ (by omega)
          have HE2 := Lib.hid hE2
          clear hjl he6 hE2 hstop
          go_wp2_with fail
          go_roundg (l0.length - (j + 1))
          case measure => omega
          case rel => exact ⟨rfl, j + 1, by omega, rfl, by simp, by rw [HE2.out], by rw [← HE2.out]; exact h2⟩

end Go.Proofs.Ytpibbgencojbgaa
