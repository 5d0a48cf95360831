/-
  told: what the program tells of a few.
-/
import Derived.Test.YtpibbgencojbgaaSame2
import Derived.Test.YtpibbgencojbgaaFind
import Derived.Test.YtpibbgencojbgaaMayV
import Derived.Test.YtpibbgencojbgaaGetT
import Derived.Test.YtpibbgencojbgaaPutT
namespace Go.Proofs.Ytpibbgencojbgaa
open Go.RowKit
set_option linter.unusedVariables false

/-- its table. -/
def toldL : List It := [.mk ⟨#[97]⟩ 1 1 ⟨#[]⟩ [], .mk ⟨#[98]⟩ 5 0 ⟨#[]⟩ []]
theorem toldL_may : MayT 1 toldL := by
  refine ⟨by decide, by decide, ?_, ?_⟩
  · intro i hi
    have : i = 0 ∨ i = 1 := by simp only [toldL, List.length_cons, List.length_nil] at hi; omega
    rcases this with rfl | rfl
    · exact ⟨(by show 1 ≤ (ByteArray.mk #[97]).size; decide), (by show (ByteArray.mk #[97]).size ≤ 40; decide), fun j hj => by omega⟩
    · refine ⟨(by show 1 ≤ (ByteArray.mk #[98]).size; decide), (by show (ByteArray.mk #[98]).size ≤ 40; decide), fun j hj => ?_⟩
      have : j = 0 := by omega
      subst this
      show ByteArray.mk #[97] ≠ ByteArray.mk #[98]
      decide
  · rw [mayAll_iff]
    intro x hx
    simp only [toldL, List.mem_cons, List.not_mem_nil, or_false] at hx
    rcases hx with rfl | rfl
    · rw [may_iff]
      exact .inr (.inl ⟨rfl, .inr rfl, rfl, rfl⟩)
    · rw [may_iff]
      refine .inr (.inr (.inr (.inr (.inr ⟨rfl, rfl, rfl, by decide, by decide, fun i hi => by simp at hi, ?_⟩))))
      rw [mayAll_iff]
      intro x hx
      simp at hx
theorem toldL_bytes : putT toldL = [0, 0, 0, 11, 1, 97, 116, 1, 1, 98, 70, 0, 0, 0, 0] := by decide
theorem empty_not : ¬ MayT 1 [.mk ⟨#[]⟩ 0 0 ⟨#[]⟩ []] := by
  intro h
  have := (h.2.2.1 0 (by simp)).1
  revert this
  decide
theorem put_some (l : List It) : 4 ≤ (putT l).length := by
  unfold putT
  simp

theorem tb_row {w : World} {L : Nat} {l : List It} {cs : Array Value} {t : TypeId} (h : w.heap[L]? = some (.cells cs t (0, 0))) (hm : l.length ≤ maxLen)
    (hc : ∀ (i : Nat) (hi : i < l.length), l[i].sub = [] ∧ cs[i * 5]? = some (.string l[i].name) ∧ cs[i * 5 + 1]? = some (.int .i64 l[i].kind) ∧ cs[i * 5 + 2]? = some (.int .i64 l[i].n) ∧ cs[i * 5 + 3]? = some (.string l[i].s) ∧ cs[i * 5 + 4]? = some (.slice none 0 0) ∧
      l[i].name.size ≤ maxLen ∧ (-9223372036854775808 ≤ l[i].kind ∧ l[i].kind ≤ 9223372036854775807) ∧ (-9223372036854775808 ≤ l[i].n ∧ l[i].n ≤ 9223372036854775807) ∧ l[i].s.size ≤ maxLen) :
    Tb w (some ⟨L, 0, none⟩) l.length l := by
  refine ⟨_, .intro L 0 (fun _ => (none, 0)) (fun _ => []) (Nat.le_refl _) hm (fun _ => rfl) (fun _ => by simp [World.frozen?, h]) (fun i hi => ?_) (fun i hi => ?_)⟩
  · obtain ⟨e, h0, h1, h2, h3, h4, b0, b1, b2, b3⟩ := hc i hi
    refine ⟨?_, ?_, ?_, ?_, ?_, b0, b1, b2, b3⟩
    · rw [cell_of_row w _ _ _ _ _ h, Nat.zero_add]; exact h0
    · rw [cell_of_row w _ _ _ _ _ h, Nat.zero_add]; exact h1
    · rw [cell_of_row w _ _ _ _ _ h, Nat.zero_add]; exact h2
    · rw [cell_of_row w _ _ _ _ _ h, Nat.zero_add]; exact h3
    · rw [cell_of_row w _ _ _ _ _ h, Nat.zero_add, e]; exact h4
  · rw [(hc i hi).1]
    exact SlAt.nil w none (by decide)

def toldRow : Array Value := #[.string ⟨#[97]⟩, .int .i64 1, .int .i64 1, .string ⟨#[]⟩, .slice none 0 0, .string ⟨#[98]⟩, .int .i64 5, .int .i64 0, .string ⟨#[]⟩, .slice none 0 0]
theorem told_tb {w : World} {L : Nat} (h : w.heap[L]? = some (.cells toldRow 28 (0, 0))) : Tb w (some ⟨L, 0, none⟩) 2 toldL := by
  refine tb_row (l := toldL) h (by decide) fun i hi => ?_
  have : i = 0 ∨ i = 1 := by simp only [toldL, List.length_cons, List.length_nil] at hi; omega
  have z : (-9223372036854775808 ≤ (0 : Int) ∧ (0 : Int) ≤ 9223372036854775807) := by decide
  have o : (-9223372036854775808 ≤ (1 : Int) ∧ (1 : Int) ≤ 9223372036854775807) := by decide
  have f : (-9223372036854775808 ≤ (5 : Int) ∧ (5 : Int) ≤ 9223372036854775807) := by decide
  have e0 : (ByteArray.mk #[]).size ≤ maxLen := by decide
  have e1 : (ByteArray.mk #[97]).size ≤ maxLen := by decide
  have e2 : (ByteArray.mk #[98]).size ≤ maxLen := by decide
  rcases this with rfl | rfl
  · exact ⟨rfl, rfl, rfl, rfl, rfl, rfl, e1, o, o, e0⟩
  · exact ⟨rfl, rfl, rfl, rfl, rfl, rfl, e2, f, z, e0⟩

theorem empty_tb {w : World} {L : Nat} (h : w.heap[L]? = some (.cells #[.string ⟨#[]⟩, .int .i64 0, .int .i64 0, .string ⟨#[]⟩, .slice none 0 0] 28 (0, 0))) : Tb w (some ⟨L, 0, none⟩) 1 [.mk ⟨#[]⟩ 0 0 ⟨#[]⟩ []] := by
  refine tb_row (l := [.mk ⟨#[]⟩ 0 0 ⟨#[]⟩ []]) h (by decide) fun i hi => ?_
  have : i = 0 := by simp only [List.length_cons, List.length_nil] at hi; omega
  have z : (-9223372036854775808 ≤ (0 : Int) ∧ (0 : Int) ≤ 9223372036854775807) := by decide
  have e0 : (ByteArray.mk #[]).size ≤ maxLen := by decide
  subst this
  exact ⟨rfl, rfl, rfl, rfl, rfl, rfl, e0, z, z, e0⟩

set_option maxRecDepth 100000 in
set_option maxHeartbeats 4000000 in
theorem told_any (w : World) : Calls Try.prog 16 #[] w fun e w' => e = .returned (.bool true) ∧ Below w.heap.size w w' := by
  go_enter Try.func16, Try.ntmps16
  go_wp2_with fail
  have hb1 : Below w.heap.size w (w.alloc (.cells #[.string ⟨#[97]⟩, .int .i64 1, .int .i64 1, .string ⟨#[]⟩, .slice none 0 0, .string ⟨#[98]⟩, .int .i64 5, .int .i64 0, .string ⟨#[]⟩, .slice none 0 0] 28)) := (Below.refl _ _).alloc (Nat.le_refl _) _
  have hr1 : (w.alloc (.cells #[.string ⟨#[97]⟩, .int .i64 1, .int .i64 1, .string ⟨#[]⟩, .slice none 0 0, .string ⟨#[98]⟩, .int .i64 5, .int .i64 0, .string ⟨#[]⟩, .slice none 0 0] 28)).heap[w.heap.size]? = some (.cells toldRow 28 (0, 0)) := heap_alloc_new w _
  generalize w.alloc (.cells #[.string ⟨#[97]⟩, .int .i64 1, .int .i64 1, .string ⟨#[]⟩, .slice none 0 0, .string ⟨#[98]⟩, .int .i64 5, .int .i64 0, .string ⟨#[]⟩, .slice none 0 0] 28) = w1 at *
  have ht1 := told_tb hr1
  have hfit := ht1.fits
  have HF := Lib.hid hfit
  refine (put_any w1 ht1).mono ?_
  rintro e w2 ⟨hb2, h⟩
  obtain ⟨v, rfl, hbuf⟩ : ∃ v, e = .returned (.tuple #[v, .int .i64 0]) ∧ Buf w2 w1.heap.size v (putT toldL) := by
    rcases h with ⟨h, _⟩ | ⟨_, h, _⟩ | ⟨_, _, h⟩
    · exact absurd toldL_may h
    · rw [toldL_bytes] at h
      simp at h
    · exact h
  have HR2 := Lib.hid ((hb2.block _ (Array.getElem?_eq_some_iff.1 hr1).1).trans hr1)
  have HB2 := Lib.hid (hb1.trans (hb2.mono hb1.size))
  have HV := Lib.hid hbuf.bytes
  clear hb1 hr1 ht1 hfit hb2 h hbuf
  go_wp2_with fail
  refine (get_any (B := w2.heap.size) v (putT toldL) w2 (Nat.le_refl _) HV.out).mono ?_
  rintro e w3 ⟨hb3, h⟩
  obtain ⟨a, cap, bs, rfl, hsl⟩ : ∃ a cap bs, e = .returned (.tuple #[.slice a toldL.length cap, .int .i64 0]) ∧ SlAt w3 bs a cap toldL := by
    rcases h with ⟨_, h⟩ | ⟨l, a, cap, bs, h1, h2, h3, h4, h5, h6⟩
    · exact (h toldL toldL_may HF.out rfl (by rw [toldL_bytes]; decide)).elim
    · obtain rfl := putT_inj h1 toldL_may (Tb.fits ⟨_, h5⟩) HF.out (by rw [h2]; exact h3) h2
      exact ⟨a, cap, bs, h4, h5⟩
  have HS3 := Lib.hid hsl
  have HV3 := Lib.hid (HV.out.below hb3)
  have HR3 := Lib.hid ((hb3.block _ (Array.getElem?_eq_some_iff.1 HR2.out).1).trans HR2.out)
  have HB3 := Lib.hid (HB2.out.trans (hb3.mono HB2.out.size))
  clear hb3 h hsl HV HR2 HB2
  go_wp2_with fail
  refine (get_any (B := w3.heap.size) _ [] w3 (Nat.le_refl _) (BytesIn.nil w3)).mono ?_
  rintro e w4 ⟨hb4, h⟩
  obtain rfl : e = .returned (.tuple #[.slice none 0 0, .int .i64 502]) := by
    rcases h with ⟨h, _⟩ | ⟨l, a, cap, bs, h1, h2, _⟩
    · exact h
    · have := put_some l
      rw [h2] at this
      simp at this
  have HS4 := Lib.hid (HS3.out.keep fun b hb => hb4.block b (HS3.out.lt b hb))
  have HV4 := Lib.hid (HV3.out.below hb4)
  have HR4 := Lib.hid ((hb4.block _ (Array.getElem?_eq_some_iff.1 HR3.out).1).trans HR3.out)
  have HB4 := Lib.hid (HB3.out.trans (hb4.mono HB3.out.size))
  clear hb4 h HS3 HV3 HR3 HB3
  go_wp2_with fail
  have hbA : Below w4.heap.size w4 (w4.alloc (.cells #[.string ⟨#[]⟩, .int .i64 0, .int .i64 0, .string ⟨#[]⟩, .slice none 0 0] 28)) := (Below.refl _ _).alloc (Nat.le_refl _) _
  have hr5 : (w4.alloc (.cells #[.string ⟨#[]⟩, .int .i64 0, .int .i64 0, .string ⟨#[]⟩, .slice none 0 0] 28)).heap[w4.heap.size]? = some (.cells #[.string ⟨#[]⟩, .int .i64 0, .int .i64 0, .string ⟨#[]⟩, .slice none 0 0] 28 (0, 0)) := heap_alloc_new w4 _
  generalize w4.alloc (.cells #[.string ⟨#[]⟩, .int .i64 0, .int .i64 0, .string ⟨#[]⟩, .slice none 0 0] 28) = w5 at *
  refine (put_any w5 (empty_tb hr5)).mono ?_
  rintro e w6 ⟨hb6, h⟩
  obtain rfl : e = .returned (.tuple #[.slice none 0 0, .int .i64 1]) := by
    rcases h with ⟨_, h⟩ | ⟨h, _⟩ | ⟨h, _⟩
    · exact h
    · exact absurd h empty_not
    · exact absurd h empty_not
  have hb46 := hbA.trans (hb6.mono hbA.size)
  have HS6 := Lib.hid (HS4.out.keep fun b hb => hb46.block b (HS4.out.lt b hb))
  have hv6 := HV4.out.below hb46
  have hr6 := (hb46.block _ (Array.getElem?_eq_some_iff.1 HR4.out).1).trans HR4.out
  have HB6 := Lib.hid (HB4.out.trans (hb46.mono HB4.out.size))
  clear hbA hr5 hb6 h hb46 HS4 HV4 HR4 HB4
  obtain ⟨va, vc, rfl, hvl, hvm, hvat⟩ := hv6
  have hconv := conv_str vc hvat
  rw [toldL_bytes] at hconv
  replace hconv : (convert 25 9 (.slice va 15 vc)).run Try.prog w6 = .ok (.string ⟨#[0, 0, 0, 11, 1, 97, 116, 1, 1, 98, 70, 0, 0, 0, 0]⟩) w6 := hconv
  have hlv : (putT toldL).length = 15 := by rw [toldL_bytes]; rfl
  rw [hlv] at hvl ⊢
  have HT6 := Lib.hid (told_tb hr6)
  have h4 : w6.cell? ⟨w.heap.size, 4, none⟩ = some (.slice none 0 0) := by rw [cell_of_row w6 _ _ _ _ _ hr6]; rfl
  have H4 := Lib.hid h4
  clear hr6 h4 hvat hlv
  go_wp2_with fail
  refine (same_two False HS6.out HT6.out (by simp [toldL, weigh]) (fun h => h.elim)).mono ?_
  rintro e w7 ⟨r, rfl, hb7, hr, _⟩
  obtain rfl : r = true := hr rfl
  have ht7 := HT6.out.below hb7
  have HT7 := Lib.hid ht7
  have h47 := (hb7.cell (lt_of_cell H4.out)).trans H4.out
  have HB7 := Lib.hid (HB6.out.trans (hb7.mono HB6.out.size))
  clear hb7 hr HS6 HT6 H4 HB6 hconv ht7
  go_wp2_with fail
  refine (find_first (x := .mk ⟨#[97]⟩ 1 1 ⟨#[]⟩ []) (r := [.mk ⟨#[98]⟩ 5 0 ⟨#[]⟩ []]) w7 HT7.out (by simpa using h47)).mono ?_
  rintro e w8 ⟨he, hb8⟩
  replace he : e = .returned (.agg #[.int .i64 1, .int .i64 1, .string ⟨#[]⟩, .slice none 0 0]) := he
  subst he
  have HT8 := Lib.hid (HT7.out.below hb8)
  have HB8 := Lib.hid (HB7.out.trans (hb8.mono HB7.out.size))
  clear hb8 h47 HT7 HB7
  have hfl : (Instr.field 24 (.agg #[.int .i64 1, .int .i64 1, .string ⟨#[]⟩, .slice none 0 0]) 1).run Try.prog w8 = .ok (.int .i64 1) w8 := by kernel_rfl
  go_wp2_with fail
  clear hfl
  refine (find_not (l := toldL) ⟨#[99]⟩ w8 HT8.out (by
    intro y hy
    simp only [toldL, List.mem_cons, List.not_mem_nil, or_false] at hy
    rcases hy with rfl | rfl
    · show ByteArray.mk #[97] ≠ ByteArray.mk #[99]; decide
    · show ByteArray.mk #[98] ≠ ByteArray.mk #[99]; decide)).mono ?_
  rintro e w9 ⟨rfl, hb9⟩
  have HB9 := Lib.hid (HB8.out.trans (hb9.mono HB8.out.size))
  clear hb9 HT8 HB8
  have hfl : (Instr.field 24 (.agg #[.int .i64 0, .int .i64 0, .string ⟨#[]⟩, .slice none 0 0]) 0).run Try.prog w9 = .ok (.int .i64 0) w9 := by kernel_rfl
  go_wp2_with fail
  clear hfl
  refine (mayV_any (.mk ⟨#[]⟩ 0 0 ⟨#[]⟩ []) (by simp only [It.n_mk]; decide) none 0 (by decide) w9 (Tb.nil w9 none (by decide))).mono ?_
  rintro e w10 ⟨r, hr, rfl, hb10⟩
  obtain rfl : r = true := hr.2 (by rw [may_iff]; exact .inl ⟨rfl, rfl, rfl, rfl⟩)
  have HB10 := Lib.hid (HB9.out.trans (hb10.mono HB9.out.size))
  clear hb10 HB9 hr
  go_wp2_with fail
  refine (mayV_any (.mk ⟨#[]⟩ 9 0 ⟨#[]⟩ []) (by simp only [It.n_mk]; decide) none 0 (by decide) w10 (Tb.nil w10 none (by decide))).mono ?_
  rintro e w11 ⟨r, hr, rfl, hb11⟩
  have hrf : r = false := by
    cases r
    · rfl
    · have := hr.1 rfl
      rw [may_iff] at this
      simp at this
  subst hrf
  have HB11 := Lib.hid (HB10.out.trans (hb11.mono HB10.out.size))
  clear hb11 HB10 hr
  go_wp2_with fail
  go_ret
  exact ⟨rfl, HB11.out⟩

end Go.Proofs.Ytpibbgencojbgaa
