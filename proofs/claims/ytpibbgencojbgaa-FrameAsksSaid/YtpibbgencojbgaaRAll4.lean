/-
  The document's All, walked.
-/
import Derived.Test.YtpibbgencojbgaaRNextB4
namespace Go.Proofs.Ytpibbgencojbgaa
open Go.RowKit
set_option linter.unusedVariables false

def rallRel (W : World) (l : List UInt8) (n : Nat) (v5 v6 : Value) (w' : World) : Prop :=
  ∃ (r : Nat) (zs : List Z), v6 = .int .i64 r ∧ r ≤ l.length ∧ n = l.length - r ∧ Below W.heap.size W w' ∧ w'.ownsRow W.heap.size 48 3 v5 zs.length (zs.flatMap zc) ∧ (∀ z ∈ zs, ZOk v5.ownBlock w' z) ∧ zs.length ≤ r ∧
    (allP (l.length + 1) l).1 = zs.map (·.1) ++ (allP (l.length - r + 1) (l.drop r)).1 ∧ (allP (l.length + 1) l).2.1 = r + (allP (l.length - r + 1) (l.drop r)).2.1 ∧ (allP (l.length + 1) l).2.2 = (allP (l.length - r + 1) (l.drop r)).2.2

set_option maxRecDepth 100000 in
set_option maxHeartbeats 8000000 in
theorem rall_any (l : List UInt8) (hl : l.length ≤ 100000) (w : World) :
    Calls Try.prog 36 #[.string ⟨l.toArray⟩] w (AllR l w) := by
  have hsz : (ByteArray.mk l.toArray).size = l.length := rfl
  go_enter Try.func36, Try.ntmps36
  go_wp2_with fail
  go_loopg [5, 6] l.length (rallRel w l)
  case atStart => exact ⟨0, [], rfl, Nat.zero_le _, rfl, Below.refl _ _, World.ownsRow_nil _ _ _ _, by simp, Nat.le_refl _, by simp, by simp, by simp⟩
  case round =>
    obtain ⟨r, zs, rfl, hr, rfl, hbel, hown, hzs, hzl, hp1, hp2, hp3⟩ := hrel
    obtain ⟨la, lc, rfl⟩ := own_form hown
    have HB := Lib.hid hbel
    have HOWN := Lib.hid hown
    have HZS := Lib.hid hzs
    have HP := Lib.hid (And.intro hp1 (And.intro hp2 hp3))
    clear hbel hown hzs hp1 hp2 hp3
    by_cases hend : r = l.length
    · have hpe : allP (l.length + 1) l = (zs.map (·.1), r, 0) := by
        obtain ⟨hp1, hp2, hp3⟩ := HP.out
        rw [hend, Nat.sub_self, List.drop_length, allP_nil] at hp1 hp2 hp3
        have : allP (l.length + 1) l = ((allP (l.length + 1) l).1, (allP (l.length + 1) l).2.1, (allP (l.length + 1) l).2.2) := rfl
        rw [this, hp1, hp2, hp3]
        simp [hend]
      have HPE := Lib.hid hpe
      have hri : ¬ (r : Int) < (l.length : Int) := by omega
      clear hpe hend
      go_wp2_with fail
      go_ret3
      obtain ⟨a1, c1, he, hfr⟩ := frsAt_row HOWN.out HZS.out
      rw [List.length_map] at he
      obtain ⟨rfl, -, rfl⟩ := Value.slice.inj he
      refine ⟨HB.out, la, lc, ?_, ?_⟩
      · rw [HPE.out]
        simp
      · rw [HPE.out]
        exact hfr
    · have hlt : r < l.length := by omega
      have hri : (r : Int) < (l.length : Int) := by omega
      have i0 : (0 : Int) ≤ (r : Int) := by omega
      have i1 : (r : Int) ≤ (l.length : Int) := by omega
      have hext : (ByteArray.mk l.toArray).extract r l.length = ⟨(l.drop r).toArray⟩ := by
        apply ByteArray.ext
        rw [ByteArray.data_extract]
        simp [List.extract, List.take_of_length_le]
      have HNX := Lib.hid (rnext_any (l.drop r) (by simp; omega) wr)
      go_wp2_with fail
      refine HNX.out.mono ?_
      rintro e w1 ⟨hb1, h⟩
      have HB1 := Lib.hid hb1
      have hd0 : 0 < (l.drop r).length := by simp; omega
      rcases h with ⟨hn, rfl⟩ | ⟨hn, rfl⟩ | ⟨f, n, fa, fc, hn, rfl, hfl, hfm, hfat, hflow⟩
      · have hpe : allP (l.length + 1) l = (zs.map (·.1), r, 3) := by
          obtain ⟨hp1, hp2, hp3⟩ := HP.out
          rw [allP_cut hd0 hn] at hp1 hp2 hp3
          have : allP (l.length + 1) l = ((allP (l.length + 1) l).1, (allP (l.length + 1) l).2.1, (allP (l.length + 1) l).2.2) := rfl
          rw [this, hp1, hp2, hp3]
          simp
        have HPE := Lib.hid hpe
        clear hpe hn hb1 hd0
        go_wp2_with fail
        go_ret3
        obtain ⟨a1, c1, he, hfr⟩ := frsAt_row HOWN.out HZS.out
        rw [List.length_map] at he
        obtain ⟨rfl, -, rfl⟩ := Value.slice.inj he
        refine ⟨HB.out.trans ((HB1.out.alloc HB1.out.size _).mono HB.out.size), la, lc, ?_, ?_⟩
        · rw [HPE.out]
          simp
        · rw [HPE.out]
          exact hfr.below (HB1.out.alloc HB1.out.size _)
      · have hpe : allP (l.length + 1) l = (zs.map (·.1), r, 501) := by
          obtain ⟨hp1, hp2, hp3⟩ := HP.out
          rw [allP_never hd0 hn] at hp1 hp2 hp3
          have : allP (l.length + 1) l = ((allP (l.length + 1) l).1, (allP (l.length + 1) l).2.1, (allP (l.length + 1) l).2.2) := rfl
          rw [this, hp1, hp2, hp3]
          simp
        have HPE := Lib.hid hpe
        clear hpe hn hb1 hd0
        go_wp2_with fail
        go_ret3
        obtain ⟨a1, c1, he, hfr⟩ := frsAt_row HOWN.out HZS.out
        rw [List.length_map] at he
        obtain ⟨rfl, -, rfl⟩ := Value.slice.inj he
        refine ⟨HB.out.trans ((HB1.out.alloc HB1.out.size _).mono HB.out.size), la, lc, ?_, ?_⟩
        · rw [HPE.out]
          simp
        · rw [HPE.out]
          exact hfr.below (HB1.out.alloc HB1.out.size _)
      · obtain ⟨e1, e2, e3, e4, e5, e6⟩ := nextP_got hn
        have hn8 : 8 ≤ n := by omega
        have hnr : r + n ≤ l.length := by rw [List.length_drop] at e3; omega
        have hpn : (allP (l.length + 1) l).1 = (zs ++ [((f, (fa, fc)) : Z)]).map (·.1) ++ (allP (l.length - (r + n) + 1) (l.drop (r + n))).1 ∧ (allP (l.length + 1) l).2.1 = r + n + (allP (l.length - (r + n) + 1) (l.drop (r + n))).2.1 ∧ (allP (l.length + 1) l).2.2 = (allP (l.length - (r + n) + 1) (l.drop (r + n))).2.2 := by
          obtain ⟨hp1, hp2, hp3⟩ := HP.out
          rw [allP_got hn, List.drop_drop] at hp1 hp2 hp3
          rw [allP_fuel (l.length - r) (l.length - (r + n) + 1) (l.drop (r + n)) (by rw [List.length_drop]; omega) (by rw [List.length_drop]; omega)] at hp1 hp2 hp3
          exact ⟨by rw [hp1]; simp, by rw [hp2]; exact (Nat.add_assoc _ _ _).symm, hp3⟩
        have HPN := Lib.hid hpn
        have hl9' : zs.length ≤ 1000000000 := by omega
        have hrn : IntKind.i64.wrap ((r : Int) + (n : Int)) = ((r + n : Nat) : Int) := by rw [IntWalk.i64_in _ (by omega)]; omega
        have i3 : (0 : Int) ≤ (n : Int) := by omega
        have i4 : (n : Int) ≤ 1000000000 := by omega
        have HOWN1 := Lib.hid (World.ownsRow.below1 HOWN.out HB1.out)
        have hzs1 : ∀ z ∈ zs, ZOk (Value.slice la zs.length lc).ownBlock w1 z := fun z hz => ⟨(HZS.out z hz).dat.below HB1.out, (HZS.out z hz).len, (HZS.out z hz).max⟩
        have hzn : ZOk (Value.slice la zs.length lc).ownBlock w1 (f, (fa, fc)) := by
          refine ⟨fun h0 => ?_, hfl, hfm⟩
          obtain ⟨b, o, ha, hb, hc⟩ := hfat h0
          refine ⟨b, o, ha, hb, fun e => ?_, hc⟩
          have := World.ownsRow.lt HOWN.out b e
          have := hflow _ ha
          simp only at this
          omega
        have HZN := Lib.hid (And.intro hzs1 hzn)
        clear hpn hn hb1 hd0 hfl hfm hfat hflow e1 e2 e3 e4 e5 e6 hzs1 hzn
        have HOWN2 := Lib.hid (World.ownsRow.alloc HOWN1.out (.cells #[.int .i64 f.kind, .int .i64 f.chan, .slice fa f.data.length fc] 48))
        have hbs2 : w.heap.size ≤ (w1.alloc (.cells #[.int .i64 f.kind, .int .i64 f.chan, .slice fa f.data.length fc] 48)).heap.size := by
          have h1 := HB.out.size
          have h2 := HB1.out.size
          simp
          omega
        go_wp2_with (at_builtin; refine put_frame (f, (fa, fc)) rfl (.tmp 27) (.tmp 29) rfl HOWN2.out hbs2 hl9' rfl rfl (w1.heap.size + 1) (by simp) rfl ?_; intro g4 cap4 w4 hown4 hg4 hat4; have HOWN4 := Lib.hid hown4; have HG4 := Lib.hid hg4; have HAT4 := Lib.hid hat4; clear hown4 hg4 hat4)
        have hg14 : w1.grownBy w4 (Value.slice la zs.length lc).ownBlock := alloc_before HG4.out
        go_roundg (l.length - (r + n))
        case measure => omega
        case rel =>
          refine ⟨r + n, zs ++ [(f, (fa, fc))], by first | rfl | simp, by omega, rfl, ?_, by simpa using HOWN4.out, ?_, by simp; omega, HPN.out⟩
          · exact (HB.out.trans (HB1.out.mono HB.out.size)).grown hg14 (Nat.le_trans HB.out.size HB1.out.size) (fun k e => (World.ownsRow.lt HOWN.out k e).1)
          · intro z hz
            have hk : ∀ z, ZOk (Value.slice la zs.length lc).ownBlock w1 z → ZOk (Value.slice (some ⟨g4, 0, none⟩) (zs.length + 1) cap4).ownBlock w4 z := fun z h =>
              ⟨h.dat.grown hg14 (fun g e => by
                have eg : g4 = g := by simpa [Value.ownBlock] using e
                rcases HAT4.out with h1 | h1
                · exact .inl (by rw [h1, eg])
                · exact .inr (by simp at h1; omega)), h.len, h.max⟩
            rcases List.mem_append.1 hz with hz | hz
            · exact hk z (HZN.out.1 z hz)
            · obtain rfl := List.mem_singleton.1 hz
              exact hk _ HZN.out.2

end Go.Proofs.Ytpibbgencojbgaa
