/-
  package value's reader: value, table; Get; walked.
-/
import Derived.Test.YtpibbgencojbgaaRead
import Derived.Test.YtpibbgencojbgaaMayT
import Derived.Laws.BytesString
namespace Go.Proofs.Ytpibbgencojbgaa
open Go.RowKit
set_option linter.unusedVariables false

variable {B : Nat}
/-- a reader of these bytes: a box that is left behind. -/
theorem readerOf_any (a : Option Addr) (n c : Nat) (w : World) :
    Calls Try.prog 44 #[.slice a n c] w fun e w' => e = .returned (.agg #[.slice a n c, .bool false]) ∧ w.grownBy w' none := by
  go_enter Try.func44, Try.ntmps44
  go_wp2_with fail
  refine bodyPost_ret (v := .agg #[.slice a n c, .bool false]) (by simp [results, Try.results44, go_sem, *]) rfl ⟨rfl, ?_⟩
  refine ⟨rfl, rfl, rfl, by simp, fun k hk _ => ?_⟩
  repeat rw [Below.heap_setCell _ _ _ _ (by simp; omega)]
  exact Below.heap_alloc w _ k hk

/-- these blocks are the call's own, each once, none frozen. -/
def Own (w : World) (base : Nat) (bs : List Nat) : Prop := bs.Nodup ∧ ∀ b ∈ bs, base ≤ b ∧ b < w.heap.size ∧ ∃ c t, w.heap[b]? = some (.cells c t (0, 0))
theorem Own.nil (w : World) (base : Nat) : Own w base [] := ⟨List.nodup_nil, fun b h => by simp at h⟩

def ValP (B : Nat) (f : List UInt8 → List It × Bool) (nm : ByteArray) (g : Nat) (l : List UInt8) (bad : Bool) (w : World) (e : Ending) (w' : World) : Prop :=
  ∃ (a : Option Addr) (cap : Nat) (bs : List Nat), e = .returned (.agg #[.int .i64 (valP f nm l).1.kind, .int .i64 (valP f nm l).1.n, .string (valP f nm l).1.s, .slice a (valP f nm l).1.sub.length cap]) ∧
    SlAt w' bs a cap (valP f nm l).1.sub ∧ Own w' w.heap.size bs ∧ Rd 74 B w' g (valP f nm l).2.1 (bad || (valP f nm l).2.2) ∧ w.grownBy w' (some g)

theorem not_u8 {a b : Int} {s : ByteArray} {p : Option Addr} {m c : Nat} : ∀ (i : Nat) (n : Int), (#[.int .i64 a, .int .i64 b, .string s, .slice p m c] : Array Value)[i]? ≠ some (.int .u8 n) := by
  intro i n
  match i with
  | 0 => simp
  | 1 => simp
  | 2 => simp
  | 3 => simp
  | i + 4 => simp
theorem valP_1 {f : List UInt8 → List It × Bool} {nm : ByteArray} {l : List UInt8} (h : kindOf (numP 1 l).1 = 1) :
    valP f nm l = (.mk nm 1 (numP 1 (numP 1 l).2.1).1 ByteArray.empty [], (numP 1 (numP 1 l).2.1).2.1, (numP 1 l).2.2 || (numP 1 (numP 1 l).2.1).2.2) := by unfold valP; simp [h]
theorem valP_2 {f : List UInt8 → List It × Bool} {nm : ByteArray} {l : List UInt8} (h : kindOf (numP 1 l).1 = 2) :
    valP f nm l = (.mk nm 2 (sgn32 (numP 4 (numP 1 l).2.1).1) ByteArray.empty [], (numP 4 (numP 1 l).2.1).2.1, (numP 1 l).2.2 || (numP 4 (numP 1 l).2.1).2.2) := by unfold valP; simp [h]
theorem valP_3 {f : List UInt8 → List It × Bool} {nm : ByteArray} {l : List UInt8} (h : kindOf (numP 1 l).1 = 3) :
    valP f nm l = (.mk nm 3 (sgn64 (numP 8 (numP 1 l).2.1).1) ByteArray.empty [], (numP 8 (numP 1 l).2.1).2.1, (numP 1 l).2.2 || (numP 8 (numP 1 l).2.1).2.2) := by unfold valP; simp [h]
theorem valP_4 {f : List UInt8 → List It × Bool} {nm : ByteArray} {l : List UInt8} (h : kindOf (numP 1 l).1 = 4) :
    valP f nm l = (.mk nm 4 0 ⟨(cntP 4 (numP 1 l).2.1).1.toArray⟩ [], (cntP 4 (numP 1 l).2.1).2.1, (numP 1 l).2.2 || (cntP 4 (numP 1 l).2.1).2.2) := by unfold valP; simp [h]
theorem valP_5 {f : List UInt8 → List It × Bool} {nm : ByteArray} {l : List UInt8} (h : kindOf (numP 1 l).1 = 5) :
    valP f nm l = (.mk nm 5 0 ByteArray.empty (tabP f (numP 1 l).2.1).1, (tabP f (numP 1 l).2.1).2.1, (numP 1 l).2.2 || (tabP f (numP 1 l).2.1).2.2) := by unfold valP; simp [h]
theorem valP_0 {f : List UInt8 → List It × Bool} {nm : ByteArray} {l : List UInt8} {k : Int} (h : kindOf (numP 1 l).1 = k) (h0 : k = 0 ∨ k = -1) :
    valP f nm l = (.mk nm k 0 ByteArray.empty [], (numP 1 l).2.1, (numP 1 l).2.2) := by unfold valP; rcases h0 with rfl | rfl <;> simp [h]
set_option maxRecDepth 100000 in
set_option maxHeartbeats 4000000 in
theorem value1_any (f : List UInt8 → List It × Bool) (nm : ByteArray) (g : Nat) (l : List UInt8) (bad : Bool) (w : World) (hr : Rd 74 B w g l bad) (hk : kindOf (numP 1 l).1 = 1) :
    Calls Try.prog 66 #[.pointer (some ⟨g, 0, none⟩)] w (ValP B f nm g l bad w) := by
  have HR := Lib.hid hr
  have hgl : g < w.heap.size := hr.lt
  clear hr
  have HRA := Lib.hid (HR.out.alloc (.cells #[.int .i64 0, .int .i64 0, .string ByteArray.empty, .slice none 0 0] 24))
  go_enter Try.func66, Try.ntmps66
  go_wp2_with fail
  refine (kind_any g l bad _ HRA.out).mono ?_
  rintro e w1 ⟨rfl, hr1, hg1⟩
  rw [hk]
  have HR1 := Lib.hid (hr1.alloc (.cells #[.int .i64 1, .int .i64 0, .string ByteArray.empty, .slice none 0 0] 24))
  have HG1 := Lib.hid hg1
  clear hr1 hg1
  go_wp2_with fail
  refine (number_any g 1 (by decide) _ _ _ HR1.out).mono ?_
  rintro e w2 ⟨rfl, hr2, hg2⟩
  obtain ⟨hA, hB, hs1, hs2, hgr⟩ := two_boxes hgl HG1.out hg2
  obtain ⟨⟨a0, a1, a2, a3⟩, fa0, fa1, fa2, fa3⟩ := cells4 hA
  obtain ⟨⟨b0, b1, b2, b3⟩, fb0, fb1, fb2, fb3⟩ := cells4 hB
  have hne : w1.heap.size ≠ w.heap.size := by omega
  have hne2 : w.heap.size ≠ w1.heap.size := by omega
  have HR2 := Lib.hid hr2
  have HGR := Lib.hid hgr
  have HA := Lib.hid hA
  have HB := Lib.hid hB
  clear hr2 hA hB hgr hg2
  have hm := num1_lt (numP 1 l).2.1
  have hw : IntKind.i64.wrap ((numP 1 (numP 1 l).2.1).1 : Int) = (((numP 1 (numP 1 l).2.1).1 : Nat) : Int) := by rw [IntWalk.i64_in _ (by omega)]
  clear hm
  go_wp2_with fail
  refine bodyPost_ret (v := .agg #[.int .i64 1, .int .i64 (numP 1 (numP 1 l).2.1).1, .string ByteArray.empty, .slice none 0 0]) (by simp [results, Try.results66, go_sem, *]) rfl ?_
  unfold ValP
  rw [valP_1 hk]
  refine ⟨none, 0, [], rfl, SlAt.nil _ _ (by simp [maxLen]), Own.nil _ _, ?_, ?_⟩
  · have hr := HR2.out
    try simp only [Bool.or_assoc] at hr
    refine hr.stores HA.out HB.out not_u8 not_u8 (fun b h1 h2 => ?_) (by omega) (by omega)
    repeat rw [Below.heap_setCell _ _ _ _ (by first | exact h1 | exact h2)]
  · repeat refine set_later ?_ (by first | exact Nat.le_refl _ | exact Nat.le_of_lt hs1)
    exact HGR.out

set_option maxRecDepth 100000 in
set_option maxHeartbeats 4000000 in
theorem value2_any (f : List UInt8 → List It × Bool) (nm : ByteArray) (g : Nat) (l : List UInt8) (bad : Bool) (w : World) (hr : Rd 74 B w g l bad) (hk : kindOf (numP 1 l).1 = 2) :
    Calls Try.prog 66 #[.pointer (some ⟨g, 0, none⟩)] w (ValP B f nm g l bad w) := by
  have HR := Lib.hid hr
  have hgl : g < w.heap.size := hr.lt
  clear hr
  have HRA := Lib.hid (HR.out.alloc (.cells #[.int .i64 0, .int .i64 0, .string ByteArray.empty, .slice none 0 0] 24))
  go_enter Try.func66, Try.ntmps66
  go_wp2_with fail
  refine (kind_any g l bad _ HRA.out).mono ?_
  rintro e w1 ⟨rfl, hr1, hg1⟩
  rw [hk]
  have HR1 := Lib.hid (hr1.alloc (.cells #[.int .i64 2, .int .i64 0, .string ByteArray.empty, .slice none 0 0] 24))
  have HG1 := Lib.hid hg1
  clear hr1 hg1
  go_wp2_with fail
  refine (number_any g 4 (by decide) _ _ _ HR1.out).mono ?_
  rintro e w2 ⟨rfl, hr2, hg2⟩
  obtain ⟨hA, hB, hs1, hs2, hgr⟩ := two_boxes hgl HG1.out hg2
  obtain ⟨⟨a0, a1, a2, a3⟩, fa0, fa1, fa2, fa3⟩ := cells4 hA
  obtain ⟨⟨b0, b1, b2, b3⟩, fb0, fb1, fb2, fb3⟩ := cells4 hB
  have hne : w1.heap.size ≠ w.heap.size := by omega
  have hne2 : w.heap.size ≠ w1.heap.size := by omega
  have HR2 := Lib.hid hr2
  have HGR := Lib.hid hgr
  have HA := Lib.hid hA
  have HB := Lib.hid hB
  clear hr2 hA hB hgr hg2
  have hm : (numP 4 (numP 1 l).2.1).1 < 4294967296 := num_lt 4 (numP 1 l).2.1
  have hw : IntKind.i32.wrap ((numP 4 (numP 1 l).2.1).1 : Int) = sgn32 (numP 4 (numP 1 l).2.1).1 := by rw [IntKind.wrap_i32]; unfold sgn32; split <;> omega
  have hw2 : IntKind.i64.wrap (sgn32 (numP 4 (numP 1 l).2.1).1) = sgn32 (numP 4 (numP 1 l).2.1).1 := by rw [IntWalk.i64_in _ (by unfold sgn32; split <;> omega)]
  clear hm
  go_wp2_with fail
  refine bodyPost_ret (v := .agg #[.int .i64 2, .int .i64 (sgn32 (numP 4 (numP 1 l).2.1).1), .string ByteArray.empty, .slice none 0 0]) (by simp [results, Try.results66, go_sem, *]) rfl ?_
  unfold ValP
  rw [valP_2 hk]
  refine ⟨none, 0, [], rfl, SlAt.nil _ _ (by simp [maxLen]), Own.nil _ _, ?_, ?_⟩
  · have hr := HR2.out
    try simp only [Bool.or_assoc] at hr
    refine hr.stores HA.out HB.out not_u8 not_u8 (fun b h1 h2 => ?_) (by omega) (by omega)
    repeat rw [Below.heap_setCell _ _ _ _ (by first | exact h1 | exact h2)]
  · repeat refine set_later ?_ (by first | exact Nat.le_refl _ | exact Nat.le_of_lt hs1)
    exact HGR.out

set_option maxRecDepth 100000 in
set_option maxHeartbeats 4000000 in
theorem value3_any (f : List UInt8 → List It × Bool) (nm : ByteArray) (g : Nat) (l : List UInt8) (bad : Bool) (w : World) (hr : Rd 74 B w g l bad) (hk : kindOf (numP 1 l).1 = 3) :
    Calls Try.prog 66 #[.pointer (some ⟨g, 0, none⟩)] w (ValP B f nm g l bad w) := by
  have HR := Lib.hid hr
  have hgl : g < w.heap.size := hr.lt
  clear hr
  have HRA := Lib.hid (HR.out.alloc (.cells #[.int .i64 0, .int .i64 0, .string ByteArray.empty, .slice none 0 0] 24))
  go_enter Try.func66, Try.ntmps66
  go_wp2_with fail
  refine (kind_any g l bad _ HRA.out).mono ?_
  rintro e w1 ⟨rfl, hr1, hg1⟩
  rw [hk]
  have HR1 := Lib.hid (hr1.alloc (.cells #[.int .i64 3, .int .i64 0, .string ByteArray.empty, .slice none 0 0] 24))
  have HG1 := Lib.hid hg1
  clear hr1 hg1
  go_wp2_with fail
  refine (number_any g 8 (by decide) _ _ _ HR1.out).mono ?_
  rintro e w2 ⟨rfl, hr2, hg2⟩
  obtain ⟨hA, hB, hs1, hs2, hgr⟩ := two_boxes hgl HG1.out hg2
  obtain ⟨⟨a0, a1, a2, a3⟩, fa0, fa1, fa2, fa3⟩ := cells4 hA
  obtain ⟨⟨b0, b1, b2, b3⟩, fb0, fb1, fb2, fb3⟩ := cells4 hB
  have hne : w1.heap.size ≠ w.heap.size := by omega
  have hne2 : w.heap.size ≠ w1.heap.size := by omega
  have HR2 := Lib.hid hr2
  have HGR := Lib.hid hgr
  have HA := Lib.hid hA
  have HB := Lib.hid hB
  clear hr2 hA hB hgr hg2
  have hm : (numP 8 (numP 1 l).2.1).1 < 18446744073709551616 := num_lt 8 (numP 1 l).2.1
  have hw : IntKind.i64.wrap ((numP 8 (numP 1 l).2.1).1 : Int) = sgn64 (numP 8 (numP 1 l).2.1).1 := by rw [IntKind.wrap_i64]; unfold sgn64; split <;> omega
  clear hm
  go_wp2_with fail
  refine bodyPost_ret (v := .agg #[.int .i64 3, .int .i64 (sgn64 (numP 8 (numP 1 l).2.1).1), .string ByteArray.empty, .slice none 0 0]) (by simp [results, Try.results66, go_sem, *]) rfl ?_
  unfold ValP
  rw [valP_3 hk]
  refine ⟨none, 0, [], rfl, SlAt.nil _ _ (by simp [maxLen]), Own.nil _ _, ?_, ?_⟩
  · have hr := HR2.out
    try simp only [Bool.or_assoc] at hr
    refine hr.stores HA.out HB.out not_u8 not_u8 (fun b h1 h2 => ?_) (by omega) (by omega)
    repeat rw [Below.heap_setCell _ _ _ _ (by first | exact h1 | exact h2)]
  · repeat refine set_later ?_ (by first | exact Nat.le_refl _ | exact Nat.le_of_lt hs1)
    exact HGR.out
set_option maxRecDepth 100000 in
set_option maxHeartbeats 4000000 in
theorem value4_any (f : List UInt8 → List It × Bool) (nm : ByteArray) (g : Nat) (l : List UInt8) (bad : Bool) (w : World) (hr : Rd 74 B w g l bad) (hk : kindOf (numP 1 l).1 = 4) :
    Calls Try.prog 66 #[.pointer (some ⟨g, 0, none⟩)] w (ValP B f nm g l bad w) := by
  have HR := Lib.hid hr
  have hgl : g < w.heap.size := hr.lt
  clear hr
  have HRA := Lib.hid (HR.out.alloc (.cells #[.int .i64 0, .int .i64 0, .string ByteArray.empty, .slice none 0 0] 24))
  go_enter Try.func66, Try.ntmps66
  go_wp2_with fail
  refine (kind_any g l bad _ HRA.out).mono ?_
  rintro e w1 ⟨rfl, hr1, hg1⟩
  rw [hk]
  have HR1 := Lib.hid (hr1.alloc (.cells #[.int .i64 4, .int .i64 0, .string ByteArray.empty, .slice none 0 0] 24))
  have HG1 := Lib.hid hg1
  clear hr1 hg1
  go_wp2_with fail
  refine (counted_any g 4 (by decide) _ _ _ HR1.out).mono ?_
  rintro e w2 ⟨v2, rfl, ⟨sa, cs, rfl, hlc, hcm, hat⟩, hr2, hg2⟩
  have hcv := conv_str cs hat
  obtain ⟨hA, hB, hs1, hs2, hgr⟩ := two_boxes hgl HG1.out hg2
  obtain ⟨⟨a0, a1, a2, a3⟩, fa0, fa1, fa2, fa3⟩ := cells4 hA
  obtain ⟨⟨b0, b1, b2, b3⟩, fb0, fb1, fb2, fb3⟩ := cells4 hB
  have hne : w1.heap.size ≠ w.heap.size := by omega
  have hne2 : w.heap.size ≠ w1.heap.size := by omega
  have HR2 := Lib.hid hr2
  have HGR := Lib.hid hgr
  have HA := Lib.hid hA
  have HB := Lib.hid hB
  clear hr2 hA hB hgr hg2 hat
  go_wp2_with fail
  refine bodyPost_ret (v := .agg #[.int .i64 4, .int .i64 0, .string ⟨(cntP 4 (numP 1 l).2.1).1.toArray⟩, .slice none 0 0]) (by simp [results, Try.results66, go_sem, *]) rfl ?_
  unfold ValP
  rw [valP_4 hk]
  refine ⟨none, 0, [], rfl, SlAt.nil _ _ (by simp [maxLen]), Own.nil _ _, ?_, ?_⟩
  · have hr := HR2.out
    try simp only [Bool.or_assoc] at hr
    refine hr.stores HA.out HB.out not_u8 not_u8 (fun b h1 h2 => ?_) (by omega) (by omega)
    repeat rw [Below.heap_setCell _ _ _ _ (by first | exact h1 | exact h2)]
  · repeat refine set_later ?_ (by first | exact Nat.le_refl _ | exact Nat.le_of_lt hs1)
    exact HGR.out

set_option maxRecDepth 100000 in
set_option maxHeartbeats 4000000 in
theorem value0_any (f : List UInt8 → List It × Bool) (nm : ByteArray) (g : Nat) (l : List UInt8) (bad : Bool) (w : World) (hr : Rd 74 B w g l bad) (hk : kindOf (numP 1 l).1 = 0) :
    Calls Try.prog 66 #[.pointer (some ⟨g, 0, none⟩)] w (ValP B f nm g l bad w) := by
  have HR := Lib.hid hr
  have hgl : g < w.heap.size := hr.lt
  clear hr
  have HRA := Lib.hid (HR.out.alloc (.cells #[.int .i64 0, .int .i64 0, .string ByteArray.empty, .slice none 0 0] 24))
  go_enter Try.func66, Try.ntmps66
  go_wp2_with fail
  refine (kind_any g l bad _ HRA.out).mono ?_
  rintro e w1 ⟨rfl, hr1, hg1⟩
  rw [hk]
  have HR1 := Lib.hid (hr1.alloc (.cells #[.int .i64 0, .int .i64 0, .string ByteArray.empty, .slice none 0 0] 24))
  have HG1 := Lib.hid hg1
  clear hr1 hg1
  obtain ⟨hA, hB, hs1, hs2, hgr⟩ := two_boxes hgl HG1.out (GrownBy.refl (w1.alloc (.cells #[.int .i64 0, .int .i64 0, .string ByteArray.empty, .slice none 0 0] 24)) (some g))
  have hA1 : w1.heap[w.heap.size]? = some (.cells #[.int .i64 0, .int .i64 0, .string ByteArray.empty, .slice none 0 0] 24 (0, 0)) := (Below.heap_alloc w1 _ _ hs1).symm.trans hA
  obtain ⟨⟨a0, a1, a2, a3⟩, fa0, fa1, fa2, fa3⟩ := cells4 hA1
  have hne : w1.heap.size ≠ w.heap.size := by omega
  have hne2 : w.heap.size ≠ w1.heap.size := by omega
  have HGR := Lib.hid hgr
  have HA := Lib.hid hA
  have HB := Lib.hid hB
  clear hA hB hgr hA1
  go_wp2_with fail
  refine bodyPost_ret (v := .agg #[.int .i64 0, .int .i64 0, .string ⟨#[]⟩, .slice none 0 0]) (by simp [results, Try.results66, go_sem, *]) rfl ?_
  unfold ValP
  rw [valP_0 hk (by simp)]
  refine ⟨none, 0, [], rfl, SlAt.nil _ _ (by simp [maxLen]), Own.nil _ _, ?_, ?_⟩
  · have hr := HR1.out
    try simp only [Bool.or_assoc] at hr
    refine hr.stores HA.out HB.out not_u8 not_u8 (fun b h1 h2 => ?_) (by omega) (by omega)
    rw [alloc_get _ _ (by simpa [World.setCell] using h2), alloc_get w1 _ h2]
    repeat rw [Below.heap_setCell _ _ _ _ (by first | exact h1 | exact h2)]
  · refine alloc_later ?_ _
    repeat refine set_later ?_ (by first | exact Nat.le_refl _ | exact Nat.le_of_lt hs1)
    exact alloc_before HG1.out

set_option maxRecDepth 100000 in
set_option maxHeartbeats 4000000 in
theorem valuem_any (f : List UInt8 → List It × Bool) (nm : ByteArray) (g : Nat) (l : List UInt8) (bad : Bool) (w : World) (hr : Rd 74 B w g l bad) (hk : kindOf (numP 1 l).1 = (-1)) :
    Calls Try.prog 66 #[.pointer (some ⟨g, 0, none⟩)] w (ValP B f nm g l bad w) := by
  have HR := Lib.hid hr
  have hgl : g < w.heap.size := hr.lt
  clear hr
  have HRA := Lib.hid (HR.out.alloc (.cells #[.int .i64 0, .int .i64 0, .string ByteArray.empty, .slice none 0 0] 24))
  go_enter Try.func66, Try.ntmps66
  go_wp2_with fail
  refine (kind_any g l bad _ HRA.out).mono ?_
  rintro e w1 ⟨rfl, hr1, hg1⟩
  rw [hk]
  have HR1 := Lib.hid (hr1.alloc (.cells #[.int .i64 (-1), .int .i64 0, .string ByteArray.empty, .slice none 0 0] 24))
  have HG1 := Lib.hid hg1
  clear hr1 hg1
  obtain ⟨hA, hB, hs1, hs2, hgr⟩ := two_boxes hgl HG1.out (GrownBy.refl (w1.alloc (.cells #[.int .i64 (-1), .int .i64 0, .string ByteArray.empty, .slice none 0 0] 24)) (some g))
  have hA1 : w1.heap[w.heap.size]? = some (.cells #[.int .i64 0, .int .i64 0, .string ByteArray.empty, .slice none 0 0] 24 (0, 0)) := (Below.heap_alloc w1 _ _ hs1).symm.trans hA
  obtain ⟨⟨a0, a1, a2, a3⟩, fa0, fa1, fa2, fa3⟩ := cells4 hA1
  have hne : w1.heap.size ≠ w.heap.size := by omega
  have hne2 : w.heap.size ≠ w1.heap.size := by omega
  have HGR := Lib.hid hgr
  have HA := Lib.hid hA
  have HB := Lib.hid hB
  clear hA hB hgr hA1
  go_wp2_with fail
  refine bodyPost_ret (v := .agg #[.int .i64 (-1), .int .i64 0, .string ⟨#[]⟩, .slice none 0 0]) (by simp [results, Try.results66, go_sem, *]) rfl ?_
  unfold ValP
  rw [valP_0 hk (by simp)]
  refine ⟨none, 0, [], rfl, SlAt.nil _ _ (by simp [maxLen]), Own.nil _ _, ?_, ?_⟩
  · have hr := HR1.out
    try simp only [Bool.or_assoc] at hr
    refine hr.stores HA.out HB.out not_u8 not_u8 (fun b h1 h2 => ?_) (by omega) (by omega)
    rw [alloc_get _ _ (by simpa [World.setCell] using h2), alloc_get w1 _ h2]
    repeat rw [Below.heap_setCell _ _ _ _ (by first | exact h1 | exact h2)]
  · refine alloc_later ?_ _
    repeat refine set_later ?_ (by first | exact Nat.le_refl _ | exact Nat.le_of_lt hs1)
    exact alloc_before HG1.out

def TabP (B : Nat) (f : List UInt8 → List It × Bool) (g : Nat) (l : List UInt8) (bad : Bool) (w : World) (e : Ending) (w' : World) : Prop :=
  ∃ (a : Option Addr) (cap : Nat) (bs : List Nat), e = .returned (.slice a (tabP f l).1.length cap) ∧ SlAt w' bs a cap (tabP f l).1 ∧ Own w' w.heap.size bs ∧ Rd 74 B w' g (tabP f l).2.1 (bad || (tabP f l).2.2) ∧ w.grownBy w' (some g)
theorem Own.keep {w w' : World} {base : Nat} {bs : List Nat} (h : Own w base bs) (hk : ∀ b ∈ bs, w'.heap[b]? = w.heap[b]?) (hs : w.heap.size ≤ w'.heap.size) : Own w' base bs :=
  ⟨h.1, fun b hb => by
    obtain ⟨h1, h2, c, t, h3⟩ := h.2 b hb
    exact ⟨h1, by omega, c, t, (hk b hb).trans h3⟩⟩
theorem Own.mono {w : World} {base base' : Nat} {bs : List Nat} (h : Own w base bs) (hb : base' ≤ base) : Own w base' bs :=
  ⟨h.1, fun b hb' => by
    obtain ⟨h1, h2⟩ := h.2 b hb'
    exact ⟨by omega, h2⟩⟩


set_option maxRecDepth 100000 in
set_option maxHeartbeats 4000000 in
theorem value5_any (f : List UInt8 → List It × Bool) (nm : ByteArray) (g : Nat) (l : List UInt8) (bad : Bool) (w : World) (hr : Rd 74 B w g l bad) (hk : kindOf (numP 1 l).1 = 5) (ih : ∀ w1 bad1, Rd 74 B w1 g (numP 1 l).2.1 bad1 → Calls Try.prog 45 #[.pointer (some ⟨g, 0, none⟩)] w1 (TabP B f g (numP 1 l).2.1 bad1 w1)) :
    Calls Try.prog 66 #[.pointer (some ⟨g, 0, none⟩)] w (ValP B f nm g l bad w) := by
  have HR := Lib.hid hr
  have hgl : g < w.heap.size := hr.lt
  clear hr
  have HRA := Lib.hid (HR.out.alloc (.cells #[.int .i64 0, .int .i64 0, .string ByteArray.empty, .slice none 0 0] 24))
  go_enter Try.func66, Try.ntmps66
  go_wp2_with fail
  refine (kind_any g l bad _ HRA.out).mono ?_
  rintro e w1 ⟨rfl, hr1, hg1⟩
  rw [hk]
  have HR1 := Lib.hid (hr1.alloc (.cells #[.int .i64 5, .int .i64 0, .string ByteArray.empty, .slice none 0 0] 24))
  have HG1 := Lib.hid hg1
  clear hr1 hg1
  go_wp2_with fail
  refine (ih _ _ HR1.out).mono ?_
  rintro e w2 ⟨sa, cs, bs, rfl, hsl, how, hr2, hg2⟩
  obtain ⟨hA, hB, hs1, hs2, hgr⟩ := two_boxes hgl HG1.out hg2
  obtain ⟨⟨a0, a1, a2, a3⟩, fa0, fa1, fa2, fa3⟩ := cells4 hA
  obtain ⟨⟨b0, b1, b2, b3⟩, fb0, fb1, fb2, fb3⟩ := cells4 hB
  have hne : w1.heap.size ≠ w.heap.size := by omega
  have hne2 : w.heap.size ≠ w1.heap.size := by omega
  have HR2 := Lib.hid hr2
  have HGR := Lib.hid hgr
  have HA := Lib.hid hA
  have HB := Lib.hid hB
  have HSL := Lib.hid hsl
  have HOW := Lib.hid how
  clear hr2 hA hB hgr hg2 hsl how
  go_wp2_with fail
  refine bodyPost_ret (v := .agg #[.int .i64 5, .int .i64 0, .string ByteArray.empty, .slice sa (tabP f (numP 1 l).2.1).1.length cs]) (by simp [results, Try.results66, go_sem, *]) rfl ?_
  unfold ValP
  rw [valP_5 hk]
  have hbs : ∀ b ∈ bs, b ≠ w.heap.size ∧ b ≠ w1.heap.size := fun b hb => by
    have := (HOW.out.2 b hb).1
    simp at this
    omega
  refine ⟨sa, cs, bs, rfl, HSL.out.keep (fun b hb => ?_), (HOW.out.mono (by simp; omega)).keep (fun b hb => ?_) (by simp [World.setCell]), ?_, ?_⟩
  · obtain ⟨h1, h2⟩ := hbs b hb
    repeat rw [Below.heap_setCell _ _ _ _ (by first | exact h1 | exact h2)]
  · obtain ⟨h1, h2⟩ := hbs b hb
    repeat rw [Below.heap_setCell _ _ _ _ (by first | exact h1 | exact h2)]
  · have hr := HR2.out
    try simp only [Bool.or_assoc] at hr
    refine hr.stores HA.out HB.out not_u8 not_u8 (fun b h1 h2 => ?_) (by omega) (by omega)
    repeat rw [Below.heap_setCell _ _ _ _ (by first | exact h1 | exact h2)]
  · repeat refine set_later ?_ (by first | exact Nat.le_refl _ | exact Nat.le_of_lt hs1)
    exact HGR.out

theorem value_any (f : List UInt8 → List It × Bool) (nm : ByteArray) (g : Nat) (l : List UInt8) (bad : Bool) (w : World) (hr : Rd 74 B w g l bad)
    (ih : ∀ w1 bad1, Rd 74 B w1 g (numP 1 l).2.1 bad1 → Calls Try.prog 45 #[.pointer (some ⟨g, 0, none⟩)] w1 (TabP B f g (numP 1 l).2.1 bad1 w1)) :
    Calls Try.prog 66 #[.pointer (some ⟨g, 0, none⟩)] w (ValP B f nm g l bad w) := by
  rcases (kindOf_one (num1_lt l) rfl).2.2.2.2.2.2 with h | h | h | h | h | h | h
  · exact value0_any f nm g l bad w hr h
  · exact value1_any f nm g l bad w hr h
  · exact value2_any f nm g l bad w hr h
  · exact value3_any f nm g l bad w hr h
  · exact value4_any f nm g l bad w hr h
  · exact value5_any f nm g l bad w hr h ih
  · exact valuem_any f nm g l bad w hr h

end Go.Proofs.Ytpibbgencojbgaa
