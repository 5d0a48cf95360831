/-
  shard.all, walked.
-/
import Derived.Test.YthohjcfpobeplaaShMks
import Derived.Laws.MakeOwn
namespace Go.Proofs.Ythohjcfpobeplaa.Sh
open Go.RowKit Rg Go.Sort
set_option linter.unusedVariables false
set_option linter.unusedSimpArgs false

theorem made_cells {α : Type} {k : Nat} {f : α → List Value} {E T : TypeId} (h0 : El k f E T) (w : World) (n : Nat) (hn : n ≤ 1000000) :
    ∃ cs, (Instr.makeSlice T (.int .i64 0) (.int .i64 n)).run Try.prog w = .ok (.slice (some ⟨w.heap.size, 0, none⟩) 0 n) (w.alloc (.cells cs E)) ∧
      OwnE k f E (w.alloc (.cells cs E)) w.heap.size (.slice (some ⟨w.heap.size, 0, none⟩) 0 n) ([] : List α) := by
  obtain ⟨i0, z, by', hi, hz0, hz1, hz2, hz3, hz4⟩ := h0.info
  have hby : by' * n ≤ 1000 * 1000000 := Nat.mul_le_mul hz3 hn
  have hby2 : (i0.bytes : Int) * (n : Int) ≤ 281474976710656 := by
    have h : ((i0.bytes * n : Nat) : Int) ≤ (1000000000 : Nat) := Int.ofNat_le.2 (by rw [hz2]; exact hby)
    rw [Int.natCast_mul] at h
    omega
  have hr := run_make (P := Try.prog) (w := w) T E i0 _ h0.und hi hz0 .i64 .i64 0 n (by omega) (by omega) hby2 (by omega)
  refine ⟨madeCells z.cells (n * i0.size), by rw [hr]; rfl, by simp, .inr ⟨w.heap.size, n, _, rfl, Nat.le_refl _, heap_alloc_new w _, Nat.zero_le _, by unfold maxLen; omega, ?_, by simp⟩⟩
  simp [madeCells, hz1]

def allRel (W : World) (l : List Hd) (m : Nat) (u v : Value) (wr : World) : Prop :=
  ∃ i : Nat, i ≤ l.length ∧ v = .int .i64 i ∧ m = l.length - i ∧ OwnG wr W.heap.size u ((l.take i).map (·.m)) ∧ Below W.heap.size W wr
set_option maxRecDepth 100000 in
set_option maxHeartbeats 2000000 in
theorem all_any (s : Sd) (ra : Option Addr) (rc : Nat) (ha : Option Addr) (hc : Nat) (ma : Option Addr) (mc : Nat) (h48 : s.rd.length + s.hd.length ≤ 48) (w : World) (hs : SdAt w ra rc ha hc ma mc s) :
    Calls Try.prog 110 #[.agg #[.bool s.fr, .int .i64 s.nx, .slice ra s.rd.length rc, .slice ha s.hd.length hc, .slice ma s.ms.length mc]] w fun e w' => ∃ v, e = .returned v ∧ OwnG w' w.heap.size v (allF s) ∧ Below w.heap.size w w' := by
  obtain ⟨W, hW⟩ : ∃ W, W = w.alloc (.cells #[.bool s.fr, .int .i64 s.nx, .slice ra s.rd.length rc, .slice ha s.hd.length hc, .slice ma s.ms.length mc] 26) := ⟨_, rfl⟩
  have hb0 : Below w.heap.size w W := by rw [hW]; exact (Below.refl _ _).alloc (Nat.le_refl _) _
  have hWs : W.heap.size = w.heap.size + 1 := by rw [hW]; simp
  have HB0 := Lib.hid hb0
  have HWS := Lib.hid hWs
  have HS := Lib.hid (hs.below ra rc ha hc ma mc hb0)
  have hx : W.heap[w.heap.size]? = some (.cells #[.bool s.fr, .int .i64 s.nx, .slice ra s.rd.length rc, .slice ha s.hd.length hc, .slice ma s.ms.length mc] 26 (0, 0)) := by rw [hW]; exact heap_alloc_new _ _
  have HX := Lib.hid hx
  have HW := Lib.hid hW
  obtain ⟨⟨c0, c1, c2, c3, c4⟩, -⟩ := box5 hx
  obtain ⟨cs, hmk, hown⟩ := made_cells mgE W (s.hd.length + s.rd.length) (by omega)
  have HOWN := Lib.hid hown
  have e4 : IntKind.i64.wrap ((s.hd.length : Int) + (s.rd.length : Int)) = ((s.hd.length + s.rd.length : Nat) : Int) := by rw [IntWalk.i64_in _ (by omega)]; omega
  rw [show ((s.hd.length + s.rd.length : Nat) : Int) = (s.hd.length : Int) + (s.rd.length : Int) by omega] at hmk e4
  have HMK := Lib.hid hmk
  have hcl : s.hd.length ≤ 48 := by omega
  have hcr : s.rd.length ≤ 48 := by omega
  have HXB : Hid (∀ wx, Below W.heap.size W wx → wx.cell? ⟨w.heap.size, 2, none⟩ = some (.slice ra s.rd.length rc) ∧ wx.cell? ⟨w.heap.size, 3, none⟩ = some (.slice ha s.hd.length hc)) := Lib.hid fun wx hx => by
    have g1 := (hx.block _ (by rw [HWS.out]; omega)).trans HX.out
    exact ⟨(box5 g1).1.2.2.1, (box5 g1).1.2.2.2.1⟩
  clear hs hb0 hWs hx hW hown hmk
  go_enter Try.func110, Try.ntmps110
  have hmk := HMK.out
  rw [HW.out] at hmk
  go_wp2_with fail
  simp only [← HW.out]
  go_loopg [3, 17] s.hd.length (allRel W s.hd)
  case atStart => exact ⟨0, Nat.zero_le _, rfl, rfl, by rw [← HWS.out]; exact HOWN.out, (Below.refl _ _).alloc (Nat.le_refl _) _⟩
  case round =>
    obtain ⟨i, hi, rfl, rfl, hown, hb⟩ := hrel
    have HOWN1 := Lib.hid hown
    have HB := Lib.hid hb
    have hS1 := HS.out.below ra rc ha hc ma mc hb
    have HS1 := Lib.hid hS1
    obtain ⟨x2, x3⟩ := HXB.out _ hb
    clear hown hb hS1
    by_cases hlt : i < s.hd.length
    · have hlti : (i : Int) < (s.hd.length : Int) := by omega
      have h0i : (0 : Int) ≤ (i : Int) := by omega
      have hl9 : ((s.hd.take i).map (·.m)).length ≤ 900000 := by simp; omega
      obtain ⟨b, o, rfl, d0, d1, d2, d3, d4, d5⟩ := HdsAt.get HS1.out.hd i hlt
      have hbz : W.heap.size ≤ wr.heap.size := HB.out.size
      have HBA : Hid (Below W.heap.size W (wr.alloc (.cells #[.int .i64 s.hd[i].tag, .int .i64 (s.hd[i].m).pub, .int .i64 (s.hd[i].m).seq, .string ⟨(s.hd[i].m).key.toArray⟩, .string ⟨(s.hd[i].m).body.toArray⟩, .bool (s.hd[i].m).again] 37))) := Lib.hid (HB.out.alloc hbz _)
      have HTK := Lib.hid (take_snoc' hlt)
      go_wp2_with (at_builtin; refine put_one mgE (base := W.heap.size) (w := wr.alloc (.cells #[.int .i64 s.hd[i].tag, .int .i64 (s.hd[i].m).pub, .int .i64 (s.hd[i].m).seq, .string ⟨(s.hd[i].m).key.toArray⟩, .string ⟨(s.hd[i].m).body.toArray⟩, .bool (s.hd[i].m).again] 37)) s.hd[i].m rfl (.tmp 21) (.tmp 24) rfl (World.ownsRow.alloc HOWN1.out _) HBA.out.size hl9 _ rfl rfl (wr.heap.size + 1) (by simp) rfl ?_; intro v1 w1 hown1 hg1; have HOWN2 := Lib.hid hown1; have HB2 := Lib.hid (OwnE.grown HBA.out (World.ownsRow.alloc HOWN1.out _) hg1 HBA.out.size); clear hown1 hg1)
      go_roundg (s.hd.length - (i + 1))
      case measure => omega
      case rel => exact ⟨i + 1, by omega, by go_num, by simp, by rw [HTK.out, List.map_append]; exact HOWN2.out, HB2.out⟩
    · obtain rfl : i = s.hd.length := by omega
      rw [List.take_length] at HOWN1
      go_wp2_with (at_builtin; refine put_rows mgE (base := W.heap.size) (l := s.hd.map (·.m)) (m := s.rd) rfl (.tmp 27) (.tmp 29) rfl HOWN1.out HB.out.size rfl _ rfl rfl HS1.out.rd (by simp; omega) HS1.out.nr ?_; intro v1 w1 hown1 hg1; have HOWN2 := Lib.hid hown1; have HB2 := Lib.hid (OwnE.grown HB.out HOWN1.out hg1 HB.out.size); clear hown1 hg1)
      go_ret
      exact ⟨_, rfl, HOWN2.out.mono (by have := HWS.out; omega), HB0.out.trans (HB2.out.mono HB0.out.size)⟩

end Go.Proofs.Ythohjcfpobeplaa.Sh
