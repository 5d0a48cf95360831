/-
  takeCall, takeHeader, walked.
-/
import Derived.Test.YtjnnpgmgjdhfjaaQCJoinDxedbc
import Derived.Test.YtjnnpgmgjdhfjaaQMEndxdafb
namespace Go.Proofs.Ytjnnpgmgjdhfjaa
open Go.RowKit
set_option linter.unusedVariables false
variable {B : Nat}

set_option maxRecDepth 100000 in
set_option maxHeartbeats 8000000 in
theorem takeCall_any {w : World} {g : Nat} {ch : Int} {J : JS} {ma : Option Addr} {mc : Nat} {pv bv : Value} (hj : w.heap[g]? = some (.cells (jC ch J ma mc pv bv) 65 (0, 0))) (v : Value) (m : Me) (hg : Good m) (hh : Has m.id) (hargs : m.args = []) (hB : B ≤ w.heap.size) (hv : BytesIn B w v (putM m)) :
    Calls Try.prog 47 #[.pointer (some ⟨g, 0, none⟩), v] w fun e w' => ∃ (ma' : Option Addr) (mc' : Nat), e = .returned (.int .i64 0) ∧ w'.heap[g]? = some (.cells (jC ch ⟨0, m, [], [], 0⟩ ma' mc' (.slice none 0 0) (.slice none 0 0)) 65 (0, 0)) ∧ mc' ≤ maxLen ∧ Kept [g] w w' := by
  have HV := Lib.hid hv
  have HJ := Lib.hid hj
  have HG := Lib.hid hg
  have HA := Lib.hid hargs
  have hgl : g < w.heap.size := (Array.getElem?_eq_some_iff.1 hj).1
  clear hv hj hg hargs
  go_enter Try.func47, Try.ntmps47
  go_wp2_with fail
  refine (getM_any (B := B) v (putM m) w hB HV.out).mono ?_
  intro e w1 h
  obtain ⟨hb1, a1, k1, bs1, he, hs1, ho1⟩ := get_good HG.out h
  have hk1 : k1 ≤ maxLen := by
    cases hs1 with
    | intro b o vs bss hcap hmax => exact hmax
  have HK1 := Lib.hid hk1
  unfold meC at he
  subst he
  have hat1 : MeAt (w1.alloc (.cells #[.int .i64 m.id, .string m.name, .string m.typ, .string m.ex, .string m.key, .string m.text, .int .i64 m.code, .int .i64 m.count, .int .u64 m.tag, .bool m.flag, .bool m.back, .slice a1 m.args.length k1] 25)) w1.heap.size m a1 k1 := heap_alloc_new w1 _
  have hba : Below w.heap.size w (w1.alloc (.cells #[.int .i64 m.id, .string m.name, .string m.typ, .string m.ex, .string m.key, .string m.text, .int .i64 m.code, .int .i64 m.count, .int .u64 m.tag, .bool m.flag, .bool m.back, .slice a1 m.args.length k1] 25)) := hb1.alloc hb1.size _
  have HBA := Lib.hid hba
  have HAT1 := Lib.hid hat1
  have hj1 := (hba.block g hgl).trans HJ.out
  have HJ1 := Lib.hid hj1
  obtain ⟨n, hn⟩ : ∃ n, n = m.args.length := ⟨_, rfl⟩
  rw [← hn] at HBA HAT1 HJ1 ⊢
  have HN := Lib.hid hn
  clear h hs1 ho1 hk1 hb1 hba hj1 hat1 hn
  go_wp2_with fail
  generalize w1.alloc (.cells #[.int .i64 m.id, .string m.name, .string m.typ, .string m.ex, .string m.key, .string m.text, .int .i64 m.code, .int .i64 m.count, .int .u64 m.tag, .bool m.flag, .bool m.back, .slice a1 n k1] 25) = w2 at *
  refine (has_any m.id _).mono ?_
  rintro e w3 ⟨r, hr, rfl, rfl⟩
  obtain rfl : r = true := hr.2 hh
  clear hr hh
  obtain ⟨⟨c0, c1, c2, c3, c4, c5⟩, c6, c7, c8, c9, c10, c11⟩ := HAT1.out.cells
  rw [← HN.out] at c11
  obtain ⟨j0, j1, j2, j3, j4, j5, j6, j7, j8, j9, j10, j11, j12, j13, j14, j15, j16⟩ := jat_cells HJ1.out
  have fz := jat_frozen HJ1.out
  have f0 := fz 0
  have f1 := fz 1
  have f2 := fz 2
  have f3 := fz 3
  have f4 := fz 4
  have f5 := fz 5
  have f6 := fz 6
  have f7 := fz 7
  have f8 := fz 8
  have f9 := fz 9
  have f10 := fz 10
  have f11 := fz 11
  have f12 := fz 12
  have f13 := fz 13
  have f14 := fz 14
  have f15 := fz 15
  have f16 := fz 16
  clear fz
  go_wp2_with fail
  go_region
  have h17 := set17 HJ1.out (.int .i64 ch) (.int .i64 0) (.int .i64 m.id) (.string m.name) (.string m.typ) (.string m.ex) (.string m.key) (.string m.text) (.int .i64 m.code) (.int .i64 m.count) (.int .u64 m.tag) (.bool m.flag) (.bool m.back) (.slice a1 n k1) (.slice none 0 0) (.slice none 0 0) (.int .i64 0)
  generalize World.setCell (World.setCell _ _ _) ⟨g, 16, none⟩ (.int .i64 0) = w3 at h17 ⊢
  have H17 := Lib.hid h17
  clear h17
  go_wp2_with fail
  go_ret
  refine ⟨a1, k1, rfl, ?_, HK1.out, (Kept.trans (Kept.of_below HBA.out) H17.out.2 (by simp)).drew⟩
  have h := H17.out.1
  rw [HN.out] at h
  exact h

end Go.Proofs.Ytjnnpgmgjdhfjaa
