/-
  ValueDeep.
-/
import Derived.Test.YtpibbgencojbgaaTold
import Derived.Deep.LoopGhost
import Derived.IntWalk
namespace Go.Proofs.Ytpibbgencojbgaa
open Go.RowKit
set_option linter.unusedVariables false

def deepL (nm : ByteArray) : Nat → List It
  | 0 => []
  | k + 1 => [.mk nm 5 0 ⟨#[]⟩ (deepL nm k)]
theorem deepL_weigh (nm : ByteArray) : ∀ k, weigh (deepL nm k) = k + 1
  | 0 => by simp [deepL, weigh]
  | k + 1 => by simp only [deepL, weigh, deepL_weigh nm k]
theorem deepL_may {nm : ByteArray} (h1 : 1 ≤ nm.size) (h40 : nm.size ≤ 40) : ∀ (k d : Nat), MayT d (deepL nm k) ↔ d + k ≤ 4
  | 0, d => by simp [deepL, MayT, named_nil, MayAll]
  | k + 1, d => by
    have hn : Named [It.mk nm 5 0 ⟨#[]⟩ (deepL nm k)] := by
      have := (named_snoc (l := []) (x := It.mk nm 5 0 ⟨#[]⟩ (deepL nm k))).2 ⟨named_nil, h1, h40, fun y hy => by simp at hy⟩
      simpa using this
    have hx : (It.mk nm 5 0 ⟨#[]⟩ (deepL nm k)).May (d + 1) ↔ MayT (d + 1) (deepL nm k) := by
      rw [may_iff]
      simp only [It.kind_mk, It.n_mk, It.s_mk, It.sub_mk]
      have e0 : (ByteArray.mk #[]).size = 0 := rfl
      simp [e0]
    rw [deepL, MayT]
    simp only [MayAll, List.length_cons, List.length_nil]
    rw [hx, deepL_may h1 h40 k (d + 1)]
    constructor
    · rintro ⟨_, _, _, h, _⟩; omega
    · intro h; exact ⟨by omega, by omega, hn, by omega, trivial⟩
theorem deepL_put (nm : ByteArray) (h40 : nm.size ≤ 40) : ∀ k, (putAll (deepL nm k)).length ≤ 46 * k
  | 0 => by simp [deepL, putAll]
  | k + 1 => by
    have h := deepL_put nm h40 k
    simp only [deepL, putAll, List.append_nil]
    rw [put_eq, It.putV]
    simp only [It.kind_mk, It.s_mk, It.sub_mk, It.name_mk, show ((5 : Int) = 1) = False by simp, show ((5 : Int) = 2) = False by simp, show ((5 : Int) = 3) = False by simp, show ((5 : Int) = 4) = False by simp, if_false, if_true]
    simp only [List.length_append, List.length_cons, size_toList, putT_length]
    omega
/-- one more around it. -/
theorem deep_tb {w : World} {nm : ByteArray} {g : Nat} {a : Option Addr} {cap : Nat} {k : Nat} (hm : nm.size ≤ maxLen) (h : w.heap[g]? = some (.cells #[.string nm, .int .i64 5, .int .i64 0, .string ⟨#[]⟩, .slice a (deepL nm k).length cap] 28 (0, 0))) (ht : Tb w a cap (deepL nm k)) :
    Tb w (some ⟨g, 0, none⟩) 1 (deepL nm (k + 1)) := by
  obtain ⟨bs, hs⟩ := ht
  obtain ⟨c0, c1, c2, c3, c4⟩ := cells5 h
  refine ⟨_, .intro g 0 (fun _ => (a, cap)) (fun _ => bs) (by simp [deepL]) (by decide) (fun _ => rfl) (fun _ => by simp [World.frozen?, h]) (fun i hi => ?_) (fun i hi => ?_)⟩
  · obtain rfl : i = 0 := by simp [deepL] at hi; omega
    exact ⟨c0, c1, c2, c3, c4, hm, (by decide : (-9223372036854775808 : Int) ≤ 5 ∧ (5 : Int) ≤ 9223372036854775807), (by decide : (-9223372036854775808 : Int) ≤ 0 ∧ (0 : Int) ≤ 9223372036854775807), (by decide : (ByteArray.mk #[]).size ≤ maxLen)⟩
  · obtain rfl : i = 0 := by simp [deepL] at hi; omega
    exact hs

def deepRel (W : World) (nm : ByteArray) (k : Nat) (n : Nat) (v6 v7 : Value) (wr : World) : Prop :=
  ∃ (j : Nat) (a : Option Addr) (cap : Nat), j ≤ k ∧ n = k - j ∧ v6 = .slice a (deepL nm j).length cap ∧ v7 = .int .i64 ((j : Int) + 1) ∧ Tb wr a cap (deepL nm j) ∧ Below W.heap.size W wr

set_option maxRecDepth 100000 in
set_option maxHeartbeats 4000000 in
theorem deep_any (p0 : Int) (p1 : ByteArray) (w : World) (w0 : (Lit.int .i64 p0).wf = true) (w1 : p1.size ≤ maxLen) :
    Calls Try.prog 6 #[.int .i64 p0, .string p1] w fun e w' => e = .returned (.bool true) ∧ Below w.heap.size w w' := by
  clear w0
  have HM := Lib.hid w1
  unfold maxLen at w1
  by_cases h1 : (p1.size : Int) < 1
  · go_enter Try.func6, Try.ntmps6
    go_wp2_with fail
    refine (told_any _).mono ?_
    rintro e w' ⟨rfl, hb⟩
    have HB := Lib.hid hb
    clear hb
    go_wp2_with fail
    go_ret
    exact ⟨rfl, HB.out⟩
  by_cases h40 : 40 < (p1.size : Int)
  · go_enter Try.func6, Try.ntmps6
    go_wp2_with fail
    refine (told_any _).mono ?_
    rintro e w' ⟨rfl, hb⟩
    have HB := Lib.hid hb
    clear hb
    go_wp2_with fail
    go_ret
    exact ⟨rfl, HB.out⟩
  obtain ⟨q, hq⟩ : ∃ q, IntKind.u64.wrap p0 = q := ⟨_, rfl⟩
  have hq2 : 0 ≤ q ∧ q ≤ 18446744073709551615 := by rw [← hq, IntKind.wrap_u64]; omega
  obtain ⟨k, hk, hk7⟩ : ∃ k : Nat, q.tmod 7 = (k : Int) ∧ k < 7 := by
    rw [Int.tmod_eq_emod_of_nonneg hq2.1]
    exact ⟨(q % 7).toNat, by omega, by omega⟩
  clear hq2
  have e1 : IntKind.i64.wrap (1 + (k : Int)) = 1 + (k : Int) := IntWalk.i64_in _ (by omega)
  go_enter Try.func6, Try.ntmps6
  go_wp2_with fail
  go_loopg [6, 7] k (deepRel w p1 k)
  case atStart => exact ⟨0, none, 0, by omega, rfl, rfl, rfl, Tb.nil w none (by decide), Below.refl _ _⟩
  case round =>
    obtain ⟨j, a, cap, hj, rfl, rfl, rfl, ht, hb⟩ := hrel
    have HT := Lib.hid ht
    have HB := Lib.hid hb
    clear ht hb
    by_cases hlt : (j : Int) + 1 < 1 + (k : Int)
    · have e2 : IntKind.i64.wrap ((j : Int) + 1 + 1) = (j : Int) + 1 + 1 := IntWalk.i64_in _ (by omega)
      go_wp2_with fail
      go_roundg (k - (j + 1))
      case measure => omega
      case rel =>
        refine ⟨j + 1, some ⟨wr.heap.size, 0, none⟩, 1, by omega, rfl, rfl, by simp, ?_, HB.out.alloc HB.out.size _⟩
        exact deep_tb HM.out (heap_alloc_new wr _) (HT.out.below ((Below.refl _ _).alloc (Nat.le_refl _) _))
    · obtain rfl : j = k := by omega
      clear hlt hj
      go_wp2_with fail
      refine (put_any wr HT.out).mono ?_
      rintro e w1x ⟨hb1, h⟩
      have hmay := deepL_may (nm := p1) (by omega) (by omega) j 1
      have hpl := deepL_put p1 (by omega) j
      have hlen : (putT (deepL p1 j)).length = 4 + (putAll (deepL p1 j)).length := putT_length _
      have HT1 := Lib.hid (HT.out.below hb1)
      have HB1 := Lib.hid (HB.out.trans (hb1.mono HB.out.size))
      clear hb1 HB HT
      by_cases h4 : 4 < 1 + (j : Int)
      · obtain rfl : e = .returned (.tuple #[.slice none 0 0, .int .i64 1]) := by
          rcases h with ⟨_, h⟩ | ⟨h, _⟩ | ⟨h, _⟩
          · exact h
          · have := hmay.1 h; omega
          · have := hmay.1 h; omega
        clear h hmay hpl hlen
        go_wp2_with fail
        refine (told_any _).mono ?_
        rintro e w2 ⟨rfl, hb2⟩
        have HB2 := Lib.hid (HB1.out.trans (hb2.mono HB1.out.size))
        clear hb2 HB1
        go_wp2_with fail
        go_ret
        exact ⟨rfl, HB2.out⟩
      · have hm := hmay.2 (by omega)
        obtain ⟨v, rfl, hbuf⟩ : ∃ v, e = .returned (.tuple #[v, .int .i64 0]) ∧ Buf w1x wr.heap.size v (putT (deepL p1 j)) := by
          rcases h with ⟨h, _⟩ | ⟨_, h, _⟩ | ⟨_, _, h⟩
          · exact absurd hm h
          · omega
          · exact h
        have HV := Lib.hid hbuf.bytes
        have HM2 := Lib.hid hm
        have HL := Lib.hid (show (putT (deepL p1 j)).length ≤ 3000 by omega)
        clear h hmay hpl hlen hbuf hm
        go_wp2_with fail
        refine (get_any (B := w1x.heap.size) v (putT (deepL p1 j)) w1x (Nat.le_refl _) HV.out).mono ?_
        rintro e w2 ⟨hb2, h⟩
        obtain ⟨a2, cap2, bs, rfl, hsl⟩ : ∃ a cap bs, e = .returned (.tuple #[.slice a (deepL p1 j).length cap, .int .i64 0]) ∧ SlAt w2 bs a cap (deepL p1 j) := by
          rcases h with ⟨_, h⟩ | ⟨l, a, cap, bs, g1, g2, g3, g4, g5, g6⟩
          · exact (h _ HM2.out HT1.out.fits rfl HL.out).elim
          · obtain rfl := putT_inj g1 HM2.out (Tb.fits ⟨_, g5⟩) HT1.out.fits (by rw [g2]; exact g3) g2
            exact ⟨a, cap, bs, g4, g5⟩
        have HT2 := Lib.hid (HT1.out.below hb2)
        have HS2 := Lib.hid hsl
        have HB2 := Lib.hid (HB1.out.trans (hb2.mono HB1.out.size))
        clear h hsl HV HM2 HL HT1 HB1 hb2
        go_wp2_with fail
        refine (told_any _).mono ?_
        rintro e w3 ⟨rfl, hb3⟩
        have HT3 := Lib.hid (HT2.out.below hb3)
        have HS3 := Lib.hid (HS2.out.keep fun b hb => hb3.block b (HS2.out.lt b hb))
        have HB3 := Lib.hid (HB2.out.trans (hb3.mono HB2.out.size))
        clear HT2 HS2 HB2 hb3
        go_wp2_with fail
        refine (same_two False HS3.out HT3.out (by rw [deepL_weigh]; omega) (fun h => h.elim)).mono ?_
        rintro e w4 ⟨r, rfl, hb4, hr, _⟩
        obtain rfl : r = true := hr rfl
        have HB4 := Lib.hid (HB3.out.trans (hb4.mono HB3.out.size))
        clear hb4 hr HT3 HS3 HB3
        go_wp2_with fail
        go_ret
        exact ⟨rfl, HB4.out⟩

end Go.Proofs.Ytpibbgencojbgaa
