/-
  All, walked; frames in memory.
-/
import Derived.Test.YtpibbgencojbgaaNext4
namespace Go.Proofs.Ytpibbgencojbgaa
open Go.RowKit
set_option linter.unusedVariables false
variable {B : Nat}

/-- a frame, where its data lies. -/
abbrev Z := Fr × (Option Addr × Nat)
def zc (z : Z) : List Value := [.int .i64 z.1.kind, .int .i64 z.1.chan, .slice z.2.1 z.1.data.length z.2.2]
@[simp] theorem zc_length (z : Z) : (zc z).length = 3 := rfl
theorem zcs_length (zs : List Z) : (zs.flatMap zc).length = zs.length * 3 := by
  induction zs with
  | nil => rfl
  | cons z r ih => rw [List.flatMap_cons, List.length_append, ih, zc_length, List.length_cons]; omega
theorem zcs_get (zs : List Z) : ∀ (i r : Nat) (h : i < zs.length) (hr : r < 3), (zs.flatMap zc)[i * 3 + r]? = (zc zs[i])[r]? := by
  induction zs with
  | nil => intro i r h; simp at h
  | cons z s ih =>
    intro i r h hr
    cases i with
    | zero =>
      rw [List.flatMap_cons, Nat.zero_mul, Nat.zero_add, List.getElem?_append_left (by simpa using hr)]
      rfl
    | succ i =>
      rw [List.flatMap_cons, List.getElem?_append_right (by simp; omega), zc_length, show (i + 1) * 3 + r - 3 = i * 3 + r by omega]
      exact ih i r (by simpa using h) hr
/-- bytes that lie in another block than this one. -/
def BytesOff (row : Option Nat) (w : World) (a : Option Addr) (l : List UInt8) : Prop := 0 < l.length → ∃ b o, a = some ⟨b, o, none⟩ ∧ b < w.heap.size ∧ row ≠ some b ∧ ∀ (i : Nat) (h : i < l.length), w.cell? ⟨b, o + i, none⟩ = some (.int .u8 l[i].toNat)
theorem BytesOff.at {row : Option Nat} {w : World} {a : Option Addr} {l : List UInt8} (h : BytesOff row w a l) : BytesAt w.heap.size w a l := by
  intro h0
  obtain ⟨b, o, ha, hb, _, hc⟩ := h h0
  exact ⟨b, o, ha, hb, hc⟩
theorem BytesOff.grown {row row' : Option Nat} {w w' : World} {a : Option Addr} {l : List UInt8} (h : BytesOff row w a l) (hg : w.grownBy w' row) (hr : ∀ g, row' = some g → row = some g ∨ w.heap.size ≤ g) : BytesOff row' w' a l := by
  intro h0
  obtain ⟨b, o, ha, hb, hne, hc⟩ := h h0
  refine ⟨b, o, ha, Nat.lt_of_lt_of_le hb hg.size, fun e => ?_, fun i hi => (World.cell?_of_block (w := w) (a := ⟨b, o + i, none⟩) (hg.block b hb (Ne.symm hne))).trans (hc i hi)⟩
  rcases hr b e with h1 | h1
  · exact hne h1
  · omega
theorem BytesOff.below {row : Option Nat} {w w' : World} {a : Option Addr} {l : List UInt8} (h : BytesOff row w a l) (hb : Below w.heap.size w w') : BytesOff row w' a l := by
  intro h0
  obtain ⟨b, o, ha, hlt, hne, hc⟩ := h h0
  exact ⟨b, o, ha, Nat.lt_of_lt_of_le hlt hb.size, hne, fun i hi => (hb.cell (p := ⟨b, o + i, none⟩) hlt).trans (hc i hi)⟩
structure ZOk (row : Option Nat) (w : World) (z : Z) : Prop where
  dat : BytesOff row w z.2.1 z.1.data
  len : z.1.data.length ≤ z.2.2
  max : z.2.2 ≤ maxLen

/-- these frames, in a slice at a. -/
structure FrsAt (w : World) (a : Option Addr) (cap : Nat) (l : List Fr) : Prop where
  len : l.length ≤ cap
  max : cap ≤ maxLen
  get : ∀ (i : Nat) (h : i < l.length), ∃ b o da dc, a = some ⟨b, o, none⟩ ∧ b < w.heap.size ∧ w.cell? ⟨b, o + i * 3, none⟩ = some (.int .i64 l[i].kind) ∧ w.cell? ⟨b, o + i * 3 + 1, none⟩ = some (.int .i64 l[i].chan) ∧ w.cell? ⟨b, o + i * 3 + 2, none⟩ = some (.slice da l[i].data.length dc) ∧
    l[i].data.length ≤ dc ∧ dc ≤ maxLen ∧ BytesAt w.heap.size w da l[i].data
theorem FrsAt.below {w w' : World} {a : Option Addr} {cap : Nat} {l : List Fr} (h : FrsAt w a cap l) (hb : Below w.heap.size w w') : FrsAt w' a cap l := by
  refine ⟨h.len, h.max, fun i hi => ?_⟩
  obtain ⟨b, o, da, dc, ha, hlt, h0, h1, h2, h3, h4, h5⟩ := h.get i hi
  exact ⟨b, o, da, dc, ha, Nat.lt_of_lt_of_le hlt hb.size, (hb.cell hlt).trans h0, (hb.cell hlt).trans h1, (hb.cell hlt).trans h2, h3, h4, (h5.below hb).mono hb.size⟩
/-- a row of the call's own reads so. -/
theorem frsAt_row {w : World} {base : Nat} {lv : Value} {zs : List Z} (h : w.ownsRow base 48 3 lv zs.length (zs.flatMap zc)) (hz : ∀ z ∈ zs, ZOk lv.ownBlock w z) :
    ∃ a cap, lv = .slice a (zs.map (·.1)).length cap ∧ FrsAt w a cap (zs.map (·.1)) := by
  rcases h.2 with ⟨rfl, hn⟩ | ⟨g, cap, cur, rfl, hbg, hg, hnc, hcm, hcs, htake⟩
  · obtain rfl : zs = [] := List.eq_nil_of_length_eq_zero hn
    exact ⟨none, 0, rfl, by simp, by simp [maxLen], fun i hi => by simp at hi⟩
  · refine ⟨some ⟨g, 0, none⟩, cap, by simp, by simpa using hnc, hcm, fun i hi => ?_⟩
    have hi' : i < zs.length := by simpa using hi
    have hc : ∀ r, r < 3 → w.cell? ⟨g, 0 + i * 3 + r, none⟩ = (zc zs[i])[r]? := by
      intro r hr
      rw [← zcs_get zs i r hi' hr, Nat.zero_add]
      have hlt : i * 3 + r < zs.length * 3 := by omega
      rw [cell_of_row w _ _ _ _ _ hg, ← htake, List.getElem?_take, if_pos hlt, Array.getElem?_toList]
    have hzi := hz _ (List.getElem_mem hi')
    refine ⟨g, 0, zs[i].2.1, zs[i].2.2, rfl, (Array.getElem?_eq_some_iff.1 hg).1, ?_, ?_, ?_, ?_, hzi.max, ?_⟩
    · rw [List.getElem_map]; exact hc 0 (by omega)
    · rw [List.getElem_map]; exact hc 1 (by omega)
    · rw [List.getElem_map]; exact hc 2 (by omega)
    · rw [List.getElem_map]; exact hzi.len
    · rw [List.getElem_map]; exact hzi.dat.at

theorem frame_info : (Try.prog.info? 48).map (fun i => (i.zero, i.size, i.bytes)) = some (some (.agg #[.int .i64 0, .int .i64 0, .slice none 0 0]), 3, 40) := by kernel_rfl

/-- a frame more: its cells lie in the block made last. -/
theorem put_frame {ops : Array Oper} {rest : List Oper} {o : Oper} {a : Act} {Q : Exit → Act → World → Prop} {w : World} {base : Nat} {v : Value} {zs : List Z} {cs : Array Value} (z : Z) (hgd : o.guard = none) (s x : Operand)
    (ho : o.op = .call { callee := .builtin .append, args := #[s, x], argTypes := #[55, 55] }) (hb : w.ownsRow base 48 3 v zs.length (zs.flatMap zc)) (hbase : base ≤ w.heap.size) (hl : zs.length ≤ 1000000000) (hcs : cs = (zc z).toArray)
    (hs : a.eval s = v) (H : Nat) (hH : w.heap.size = H) (hx : a.eval x = .slice (some ⟨H, 0, none⟩) 1 1)
    (h : ∀ g cap w', w'.ownsRow base 48 3 (.slice (some ⟨g, 0, none⟩) (zs.length + 1) cap) (zs ++ [z]).length ((zs ++ [z]).flatMap zc) → w.grownBy w' v.ownBlock → (v.ownBlock = some g ∨ w.heap.size ≤ g) →
      wpList Try.prog ops Q rest (a.put o.dst (.slice (some ⟨g, 0, none⟩) (zs.length + 1) cap)) w') :
    wpList Try.prog ops Q (o :: rest) a (w.alloc (.cells cs 48)) := by
  subst hcs
  subst hH
  obtain ⟨i0, hi, hz0, hz1, hz2⟩ := info_parts frame_info
  have hb' := World.ownsRow.alloc hb (.cells (zc z).toArray 48)
  have hone : ∀ u ∈ zc z, u.oneCell' = true := by
    intro u hu
    simp only [zc, List.mem_cons, List.not_mem_nil, or_false] at hu
    rcases hu with rfl | rfl | rfl <;> rfl
  refine wpList_append_lies _ hgd s x 55 ho base 48 i0 _ 3 40 Try.underlying55 hi hz0 hz1 hz2 rfl (by decide) v zs.length (zs.flatMap zc) hs hb' ⟨w.heap.size, 0, none⟩ 1 1 (zc z) hx (by simp) (World.news_of_block (heap_alloc_new w _)) hone (by decide) (by unfold maxLen; omega) (by omega) (by simp; omega) _ rfl ?_
  intro g cap w' hown hg hat hlt
  refine h g cap w' ?_ (alloc_before hg) ?_
  · rw [List.length_append, List.flatMap_append]
    simpa using hown
  · rcases hat with h1 | h1
    · exact .inl h1
    · exact .inr (by simp at h1; omega)

theorem BytesAt.dropm {w : World} {a : Option Addr} {l : List UInt8} (h : BytesAt B w a l) (k : Nat) (hk : k < l.length) : BytesAt B w (a.map (·.add k)) (l.drop k) := by
  intro h0
  obtain ⟨b, o, rfl, _, hc⟩ := h (by omega)
  rw [Option.map_some, add_at]
  exact BytesAt.drop h k h0

def AllR (l : List UInt8) (w : World) (e : Ending) (w' : World) : Prop :=
  Below w.heap.size w w' ∧ ∃ a cap, e = .returned (.tuple #[.slice a (allP (l.length + 1) l).1.length cap, .int .i64 ((allP (l.length + 1) l).2.1 : Nat), .int .i64 (allP (l.length + 1) l).2.2]) ∧ FrsAt w' a cap (allP (l.length + 1) l).1

def allRel (a : Option Addr) (cap : Nat) (l : List UInt8) (w : World) (m : Nat) (a' : Act) (w' : World) : Prop :=
  ∃ (r : Nat) (zs : List Z) (lv : Value) (u7 u8 u9 u10 u11 u12 u13 u14 u15 u16 u17 u18 u19 u20 u21 u22 u23 u24 u25 u26 u27 u28 u29 u30 u31 u32 u33 u34 u35 : Value), a' = { tmps := #[.slice a l.length cap, undef, .slice none 0 0, .int .i64 0, .int .i64 0, lv, .int .i64 r, u7, u8, u9, u10, u11, u12, u13, u14, u15, u16, u17, u18, u19, u20, u21, u22, u23, u24, u25, u26, u27, u28, u29, u30, u31, u32, u33, u34, u35], defers := [] } ∧
    r ≤ l.length ∧ m = l.length - r ∧ Below w.heap.size w w' ∧ w'.ownsRow w.heap.size 48 3 lv zs.length (zs.flatMap zc) ∧ (∀ z ∈ zs, ZOk lv.ownBlock w' z) ∧ zs.length ≤ r ∧
    (allP (l.length + 1) l).1 = zs.map (·.1) ++ (allP (l.length - r + 1) (l.drop r)).1 ∧ (allP (l.length + 1) l).2.1 = r + (allP (l.length - r + 1) (l.drop r)).2.1 ∧ (allP (l.length + 1) l).2.2 = (allP (l.length - r + 1) (l.drop r)).2.2

theorem World.ownsRow.below1 {w w' : World} {base : Nat} {t : TypeId} {n k : Nat} {v : Value} {xs : List Value} (h : w.ownsRow base t n v k xs) (hb : Below w.heap.size w w') : w'.ownsRow base t n v k xs := by
  refine ⟨h.1, ?_⟩
  rcases h.2 with h1 | ⟨g, cap, cur, hv, hbg, hg, r⟩
  · exact .inl h1
  · exact .inr ⟨g, cap, cur, hv, hbg, (hb.block g (Array.getElem?_eq_some_iff.1 hg).1).trans hg, r⟩
theorem own_form {w : World} {base : Nat} {lv : Value} {zs : List Z} (h : w.ownsRow base 48 3 lv zs.length (zs.flatMap zc)) : ∃ a c, lv = .slice a zs.length c := by
  rcases h.2 with ⟨rfl, hn⟩ | ⟨g, cap, cur, rfl, _⟩
  · exact ⟨none, 0, by rw [hn]⟩
  · exact ⟨_, _, rfl⟩

set_option maxRecDepth 100000 in
set_option maxHeartbeats 8000000 in
theorem all_any (a : Option Addr) (cap : Nat) (l : List UInt8) (hl : l.length ≤ cap) (hcap : cap ≤ maxLen) (hl9 : l.length ≤ 1000000000) (w : World) (hB : B ≤ w.heap.size) (hat : BytesAt B w a l) :
    Calls Try.prog 35 #[.slice a l.length cap] w (AllR l w) := by
  have HAT := Lib.hid hat
  clear hat
  have hcap' := hcap
  have HCAP := Lib.hid hcap'
  unfold maxLen at hcap
  clear hcap'
  go_enter Try.func35, Try.ntmps35
  go_wp2
  refine wp_scope_ghost 0 (allRel a cap l w) rfl ?_ ?_
  · intro H hb'
    have HBK := Lib.hid hb'
    clear hb'
    go_wp2
    go_step3
    rename_i hK
    refine hK _ _ (HBK.out l.length _ _ ⟨0, [], .slice none 0 0, ?_⟩)
    repeat apply Exists.intro
    exact ⟨rfl, Nat.zero_le _, rfl, Below.refl _ _, World.ownsRow_nil _ _ _ _, by simp, Nat.le_refl _, by simp, by simp, by simp⟩
  · rintro m a' w' ⟨r, zs, lv, u7, u8, u9, u10, u11, u12, u13, u14, u15, u16, u17, u18, u19, u20, u21, u22, u23, u24, u25, u26, u27, u28, u29, u30, u31, u32, u33, u34, u35, rfl, hr, rfl, hbel, hown, hzs, hzl, hp1, hp2, hp3⟩ H hH
    obtain ⟨la, lc, rfl⟩ := own_form hown
    have HB := Lib.hid hbel
    have HOWN := Lib.hid hown
    have HZS := Lib.hid hzs
    have HP := Lib.hid (And.intro hp1 (And.intro hp2 hp3))
    have HH := Lib.hid hH
    clear hbel hown hzs hp1 hp2 hp3 hH
    by_cases hend : r = l.length
    · have hpe : allP (l.length + 1) l = (zs.map (·.1), r, 0) := by
        obtain ⟨hp1, hp2, hp3⟩ := HP.out
        rw [hend, Nat.sub_self, List.drop_length, allP_nil] at hp1 hp2 hp3
        have : allP (l.length + 1) l = ((allP (l.length + 1) l).1, (allP (l.length + 1) l).2.1, (allP (l.length + 1) l).2.2) := rfl
        rw [this, hp1, hp2, hp3]
        simp [hend]
      have HPE := Lib.hid hpe
      have hri : (r : Int) = (l.length : Int) := by omega
      clear hpe
      go_wp2
      simp only [Exit.jump]
      go_ret3
      obtain ⟨a1, c1, he, hfr⟩ := frsAt_row HOWN.out HZS.out
      rw [List.length_map] at he
      obtain ⟨rfl, -, rfl⟩ := Value.slice.inj he
      refine ⟨HB.out, la, lc, ?_, ?_⟩
      · rw [HPE.out]
        simp [hri]
      · rw [HPE.out]
        exact hfr
    · have hlt : r < l.length := by omega
      have hri : ((r : Int) == (l.length : Int)) = false := by rw [beq_eq_false_iff_ne]; omega
      have hcr : ¬ cap = r := by omega
      have i0 : (0 : Int) ≤ (r : Int) := by omega
      have i1 : (r : Int) ≤ (l.length : Int) := by omega
      have i2 : (r : Int) ≤ (cap : Int) := by omega
      have hnx := next_any (B := w.heap.size) (a.map (·.add r)) (cap - r) (l.drop r) (by simp; omega) (by have := HCAP.out; omega) w' HB.out.size (((HAT.out.mono hB).dropm r hlt).under HB.out)
      rw [List.length_drop] at hnx
      have HNX := Lib.hid hnx
      clear hnx
      go_wp2_with fail
      refine HNX.out.mono ?_
      rintro e w1 ⟨hb1, h⟩
      have HB1 := Lib.hid hb1
      have hd0 : 0 < (l.drop r).length := by simp; omega
      rcases h with ⟨hn, rfl⟩ | ⟨hn, rfl⟩ | ⟨f, n, fa, fc, hn, rfl, hfl, hfm, hfat, hflow⟩
      · have hpe : allP (l.length + 1) l = (zs.map (·.1), r, 3) := by
          obtain ⟨hp1, hp2, hp3⟩ := HP.out
          rw [allP_cut hd0 hn] at hp1 hp2 hp3
          have : allP (l.length + 1) l = ((allP (l.length + 1) l).1, (allP (l.length + 1) l).2.1, (allP (l.length + 1) l).2.2) := rfl
          rw [this, hp1, hp2, hp3]
          simp
        have HPE := Lib.hid hpe
        clear hpe hn hb1 hd0
        go_wp2_with fail
        simp only [Exit.jump]
        go_ret3
        obtain ⟨a1, c1, he, hfr⟩ := frsAt_row HOWN.out HZS.out
        rw [List.length_map] at he
        obtain ⟨rfl, -, rfl⟩ := Value.slice.inj he
        refine ⟨HB.out.trans ((HB1.out.alloc HB1.out.size _).mono HB.out.size), la, lc, ?_, ?_⟩
        · rw [HPE.out]
          simp
        · rw [HPE.out]
          exact hfr.below (HB1.out.alloc HB1.out.size _)
      · have hpe : allP (l.length + 1) l = (zs.map (·.1), r, 501) := by
          obtain ⟨hp1, hp2, hp3⟩ := HP.out
          rw [allP_never hd0 hn] at hp1 hp2 hp3
          have : allP (l.length + 1) l = ((allP (l.length + 1) l).1, (allP (l.length + 1) l).2.1, (allP (l.length + 1) l).2.2) := rfl
          rw [this, hp1, hp2, hp3]
          simp
        have HPE := Lib.hid hpe
        clear hpe hn hb1 hd0
        go_wp2_with fail
        simp only [Exit.jump]
        go_ret3
        obtain ⟨a1, c1, he, hfr⟩ := frsAt_row HOWN.out HZS.out
        rw [List.length_map] at he
        obtain ⟨rfl, -, rfl⟩ := Value.slice.inj he
        refine ⟨HB.out.trans ((HB1.out.alloc HB1.out.size _).mono HB.out.size), la, lc, ?_, ?_⟩
        · rw [HPE.out]
          simp
        · rw [HPE.out]
          exact hfr.below (HB1.out.alloc HB1.out.size _)
      · obtain ⟨e1, e2, e3, e4, e5, e6⟩ := nextP_got hn
        have hn8 : 8 ≤ n := by omega
        have hnr : r + n ≤ l.length := by rw [List.length_drop] at e3; omega
        have hpn : (allP (l.length + 1) l).1 = (zs ++ [((f, (fa, fc)) : Z)]).map (·.1) ++ (allP (l.length - (r + n) + 1) (l.drop (r + n))).1 ∧ (allP (l.length + 1) l).2.1 = r + n + (allP (l.length - (r + n) + 1) (l.drop (r + n))).2.1 ∧ (allP (l.length + 1) l).2.2 = (allP (l.length - (r + n) + 1) (l.drop (r + n))).2.2 := by
          obtain ⟨hp1, hp2, hp3⟩ := HP.out
          rw [allP_got hn, List.drop_drop] at hp1 hp2 hp3
          rw [allP_fuel (l.length - r) (l.length - (r + n) + 1) (l.drop (r + n)) (by rw [List.length_drop]; omega) (by rw [List.length_drop]; omega)] at hp1 hp2 hp3
          exact ⟨by rw [hp1]; simp, by rw [hp2]; exact (Nat.add_assoc _ _ _).symm, hp3⟩
        have HPN := Lib.hid hpn
        have hl9' : zs.length ≤ 1000000000 := by omega
        have hrn : IntKind.i64.wrap ((r : Int) + (n : Int)) = ((r + n : Nat) : Int) := by rw [IntWalk.i64_in _ (by omega)]; omega
        have i3 : (0 : Int) ≤ (n : Int) := by omega
        have i4 : (n : Int) ≤ 1000000000 := by omega
        have HOWN1 := Lib.hid (World.ownsRow.below1 HOWN.out HB1.out)
        have hzs1 : ∀ z ∈ zs, ZOk (Value.slice la zs.length lc).ownBlock w1 z := fun z hz => ⟨(HZS.out z hz).dat.below HB1.out, (HZS.out z hz).len, (HZS.out z hz).max⟩
        have hzn : ZOk (Value.slice la zs.length lc).ownBlock w1 (f, (fa, fc)) := by
          refine ⟨fun h0 => ?_, hfl, hfm⟩
          obtain ⟨b, o, ha, hb, hc⟩ := hfat h0
          refine ⟨b, o, ha, hb, fun e => ?_, hc⟩
          have := World.ownsRow.lt HOWN.out b e
          have := hflow _ ha
          simp only at this
          omega
        have HZN := Lib.hid (And.intro hzs1 hzn)
        clear hpn hn hb1 hd0 hfl hfm hfat hflow e1 e2 e3 e4 e5 e6 hzs1 hzn
        have HOWN2 := Lib.hid (World.ownsRow.alloc HOWN1.out (.cells #[.int .i64 f.kind, .int .i64 f.chan, .slice fa f.data.length fc] 48))
        have hbs2 : w.heap.size ≤ (w1.alloc (.cells #[.int .i64 f.kind, .int .i64 f.chan, .slice fa f.data.length fc] 48)).heap.size := by
          have h1 := HB.out.size
          have h2 := HB1.out.size
          simp
          omega
        go_wp2_with (at_builtin; refine put_frame (f, (fa, fc)) rfl (.tmp 29) (.tmp 31) rfl HOWN2.out hbs2 hl9' rfl rfl (w1.heap.size + 1) (by simp) rfl ?_; intro g4 cap4 w4 hown4 hg4 hat4; have HOWN4 := Lib.hid hown4; have HG4 := Lib.hid hg4; have HAT4 := Lib.hid hat4; clear hown4 hg4 hat4)
        go_step3
        have hg14 : w1.grownBy w4 (Value.slice la zs.length lc).ownBlock := alloc_before HG4.out
        refine ⟨rfl, HH.out (l.length - (r + n)) _ _ (by omega) ⟨r + n, zs ++ [(f, (fa, fc))], .slice (some ⟨g4, 0, none⟩) (zs.length + 1) cap4, ?_⟩⟩
        repeat apply Exists.intro
        refine ⟨by first | rfl | (rw [Int.natCast_add]; rfl), by omega, rfl, ?_, HOWN4.out, ?_, by simp; omega, HPN.out⟩
        · exact (HB.out.trans (HB1.out.mono HB.out.size)).grown hg14 (Nat.le_trans HB.out.size HB1.out.size) (fun k e => (World.ownsRow.lt HOWN.out k e).1)
        · intro z hz
          have hk : ∀ z, ZOk (Value.slice la zs.length lc).ownBlock w1 z → ZOk (Value.slice (some ⟨g4, 0, none⟩) (zs.length + 1) cap4).ownBlock w4 z := fun z h =>
            ⟨h.dat.grown hg14 (fun g e => by
              have eg : g4 = g := by simpa [Value.ownBlock] using e
              rcases HAT4.out with h1 | h1
              · exact .inl (by rw [h1, eg])
              · exact .inr (by simp at h1; omega)), h.len, h.max⟩
          rcases List.mem_append.1 hz with hz | hz
          · exact hk z (HZN.out.1 z hz)
          · obtain rfl := List.mem_singleton.1 hz
            exact hk _ HZN.out.2

end Go.Proofs.Ytpibbgencojbgaa
