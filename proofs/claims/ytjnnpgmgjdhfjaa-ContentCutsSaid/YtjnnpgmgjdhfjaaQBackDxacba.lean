/-
  Frames that lie below a bound.
  told: what the program tells of a few.
  ContentSizes, walked.
  A message put together again, frame by frame; one that lacks a frame: what the joins hold.
-/
import Derived.Test.YtjnnpgmgjdhfjaaQCLeafxefbf
import Derived.Test.YtjnnpgmgjdhfjaaQRPutxfeff
import Derived.Test.YtjnnpgmgjdhfjaaQCAddSxdefd
import Derived.Test.YtjnnpgmgjdhfjaaQCDonexbcab
import Derived.Lib.SmallJoins
import Derived.Deep.LoopGhost
namespace Go.Proofs.Ytjnnpgmgjdhfjaa
open Go.RowKit
set_option linter.unusedVariables false

/-- these frames, one behind the other from o on in block b, all below B. -/
def FrsB (B : Nat) (w : World) (b o : Nat) (l : List Fr) : Prop :=
  b < B ∧ ∀ (i : Nat) (k c : Int) (d : List UInt8), l[i]? = some ⟨k, c, d⟩ → ∃ da dc, w.cell? ⟨b, o + i * 3, none⟩ = some (.int .i64 k) ∧ w.cell? ⟨b, o + i * 3 + 1, none⟩ = some (.int .i64 c) ∧ w.cell? ⟨b, o + i * 3 + 2, none⟩ = some (.slice da d.length dc) ∧
    d.length ≤ dc ∧ dc ≤ maxLen ∧ BytesAt B w da d
theorem FrsAt.toB {w : World} {a : Option Addr} {cap : Nat} {l : List Fr} (h : FrsAt w a cap l) (h0 : 0 < l.length) : ∃ b o, a = some ⟨b, o, none⟩ ∧ FrsB w.heap.size w b o l := by
  obtain ⟨b, o, _, _, ha, hlt, _⟩ := h.get 0 h0
  refine ⟨b, o, ha, hlt, fun i k c d hi => ?_⟩
  obtain ⟨hil, he⟩ := List.getElem?_eq_some_iff.1 hi
  obtain ⟨b', o', da, dc, ha', _, h1, h2, h3, h4, h5, h6⟩ := h.get i hil
  rw [ha] at ha'
  cases ha'
  rw [he] at h1 h2 h3 h4 h6
  exact ⟨da, dc, h1, h2, h3, h4, h5, h6⟩
theorem FrsB.under {B : Nat} {w w' : World} {b o : Nat} {l : List Fr} (h : FrsB B w b o l) (hb : Below B w w') : FrsB B w' b o l := by
  refine ⟨h.1, fun i k c d hi => ?_⟩
  obtain ⟨da, dc, h1, h2, h3, h4, h5, h6⟩ := h.2 i k c d hi
  exact ⟨da, dc, (hb.cell (p := ⟨b, _, none⟩) h.1).trans h1, (hb.cell (p := ⟨b, _, none⟩) h.1).trans h2, (hb.cell (p := ⟨b, _, none⟩) h.1).trans h3, h4, h5, h6.under hb⟩

end Go.Proofs.Ytjnnpgmgjdhfjaa

namespace Go.Proofs.Ytjnnpgmgjdhfjaa
open Go.RowKit
set_option linter.unusedVariables false

def mPub : Me := { Me.of 6040 with key := ⟨#[113]⟩ }
def dig : List UInt8 := [48, 49, 50, 51, 52, 53, 54, 55, 56, 57]
theorem mPub_wf : mPub.Wf := by
  obtain ⟨h0, h1, h2, h3, h4, h5, h6, h7, h8, h9⟩ := of_wf 6040 (by decide)
  exact ⟨h0, h1, h2, h3, (by show (ByteArray.mk #[113]).size ≤ maxLen; decide), h5, h6, h7, h8, h9⟩
theorem mPub_may : MayM mPub := by
  refine (mayM_iff (m := mPub) (l := [.e, .k, .f]) rfl).2 ⟨fun p hp => ?_, fun p hp => ?_⟩
  · simp only [List.mem_cons, List.not_mem_nil, or_false] at hp
    rcases hp with rfl | rfl | rfl
    · show (ByteArray.empty).size ≤ 255; decide
    · show (ByteArray.mk #[113]).size ≤ 255; decide
    · trivial
  · cases p <;> first | rfl | (exact absurd hp (by simp))
theorem mPub_has : Has mPub.id := .inl rfl
theorem mayT_nil : MayT 1 [] := ⟨by decide, by decide, fun i hi => by simp at hi, by simp [mayAll_iff]⟩
theorem told_cut : cutF 3 mPub [] dig 8 = [⟨1, 3, putM mPub⟩, ⟨2, 3, be 8 10 ++ putT []⟩, ⟨3, 3, [48, 49, 50, 51, 52, 53, 54, 55]⟩, ⟨3, 3, [56, 57]⟩] := rfl
theorem fits_nil : Fits [] := ⟨fun x hx => by simp at hx, fun x hx => by simp at hx⟩

theorem row_at {w : World} {g : Nat} {l : List UInt8} {fr : Nat × Nat} (h : w.heap[g]? = some (.cells (cellsOf l).toArray 5 fr)) : BytesAt w.heap.size w (some ⟨g, 0, none⟩) l :=
  fun _ => ⟨g, 0, rfl, (Array.getElem?_eq_some_iff.1 h).1, fun i hi => by
    rw [cell_of_row w _ _ _ _ _ h]
    simp [cellsOf, List.getElem?_eq_getElem hi]⟩
theorem Added.step {w0 w w' : World} {g b o K W0 B : Nat} {ch : Int} {bs bs' : List Nat} {J' : JS} {ma' : Option Addr} {mc' : Nat} {pv' bv' : Value} {l : List Fr} (had : Added w g ch bs J' w' bs' ma' mc' pv' bv') (hbs : ∀ b ∈ bs, K ≤ b) (hK : K ≤ w.heap.size) (hW : W0 ≤ K) (hBK : B ≤ K)
    (hbel : Below W0 w0 w) (hf : FrsB B w b o l) : (∀ b ∈ bs', K ≤ b) ∧ K ≤ w'.heap.size ∧ Below W0 w0 w' ∧ FrsB B w' b o l := by
  have hz := had.kept.size
  refine ⟨fun x hx => ?_, by omega, hbel.trans (had.kept.below (by omega) (fun x hx => by have := hbs x hx; omega)), hf.under (had.kept.below (by omega) (fun x hx => by have := hbs x hx; omega))⟩
  rcases had.new x hx with h | h
  · exact hbs x h
  · omega
theorem told_mayC : MayC 3 mPub dig.length 8 := ⟨mPub_may, mPub_has, by decide, by decide, by decide⟩
theorem told_cut1 {w : World} {e : Ending} {w' : World} (h : CutR 3 mPub [] dig 8 w e w') : Below w.heap.size w w' ∧ ∃ b o cap, e = .returned (.tuple #[.slice (some ⟨b, o, none⟩) 4 cap, .int .i64 0]) ∧
    FrsB w'.heap.size w' b o [⟨1, 3, putM mPub⟩, ⟨2, 3, be 8 10 ++ putT []⟩, ⟨3, 3, [48, 49, 50, 51, 52, 53, 54, 55]⟩, ⟨3, 3, [56, 57]⟩] := by
  obtain ⟨hb, h⟩ := h
  refine ⟨hb, ?_⟩
  rcases h with ⟨_, h | h⟩ | ⟨_, _, _, h⟩ | ⟨_, _, _, a, cap, he, hf⟩
  · exact absurd told_mayC h
  · exact absurd mayT_nil h
  · exact absurd h (by decide)
  · rw [show (8 : Int).toNat = 8 from rfl, told_cut] at he hf
    obtain ⟨b, o, rfl, hfb⟩ := hf.toB (by simp)
    exact ⟨b, o, cap, he, hfb⟩
theorem told_cut0 {w : World} {e : Ending} {w' : World} {m : Me} {l : List It} {b : List UInt8} {q : Int} (h : CutR 0 m l b q w e w') : Below w.heap.size w w' ∧ e = .returned (.tuple #[.slice none 0 0, .int .i64 1]) := by
  obtain ⟨hb, h⟩ := h
  refine ⟨hb, ?_⟩
  rcases h with ⟨h, _⟩ | ⟨_, h, _⟩ | ⟨h, _⟩
  · exact h
  · exact absurd h.2.2.1.1 (by decide)
  · exact absurd h.2.2.1.1 (by decide)

set_option maxRecDepth 100000 in
set_option maxHeartbeats 8000000 in
theorem told_any (w : World) : Calls Try.prog 8 #[] w fun e w' => e = .returned (.bool true) ∧ Below w.heap.size w w' := by
  have hb0 : Below w.heap.size w (w.alloc (.cells #[.int .i64 6040, .string ⟨#[]⟩, .string ⟨#[]⟩, .string ⟨#[]⟩, .string ⟨#[113]⟩, .string ⟨#[]⟩, .int .i64 0, .int .i64 0, .int .u64 0, .bool false, .bool false, .slice none 0 0] 25)) := (Below.refl _ _).alloc (Nat.le_refl _) _
  have hm0 : MeAt (w.alloc (.cells #[.int .i64 6040, .string ⟨#[]⟩, .string ⟨#[]⟩, .string ⟨#[]⟩, .string ⟨#[113]⟩, .string ⟨#[]⟩, .int .i64 0, .int .i64 0, .int .u64 0, .bool false, .bool false, .slice none 0 0] 25)) w.heap.size mPub none 0 := heap_alloc_new w _
  have hz0 : (w.alloc (.cells #[.int .i64 6040, .string ⟨#[]⟩, .string ⟨#[]⟩, .string ⟨#[]⟩, .string ⟨#[113]⟩, .string ⟨#[]⟩, .int .i64 0, .int .i64 0, .int .u64 0, .bool false, .bool false, .slice none 0 0] 25)).heap.size = w.heap.size + 1 := by simp
  have hcv := Joins.run_convert_bytes_const_at (P := Try.prog) (w.alloc (.cells #[.int .i64 6040, .string ⟨#[]⟩, .string ⟨#[]⟩, .string ⟨#[]⟩, .string ⟨#[113]⟩, .string ⟨#[]⟩, .int .i64 0, .int .i64 0, .int .u64 0, .bool false, .bool false, .slice none 0 0] 25)) 26 5 #[.int .u8 48, .int .u8 49, .int .u8 50, .int .u8 51, .int .u8 52, .int .u8 53, .int .u8 54, .int .u8 55, .int .u8 56, .int .u8 57] 10 10 (w.heap.size + 1) (by simp) Try.underlying26 Try.underlying5
  have hd1 : ((w.alloc (.cells #[.int .i64 6040, .string ⟨#[]⟩, .string ⟨#[]⟩, .string ⟨#[]⟩, .string ⟨#[113]⟩, .string ⟨#[]⟩, .int .i64 0, .int .i64 0, .int .u64 0, .bool false, .bool false, .slice none 0 0] 25)).alloc (.cells #[.int .u8 48, .int .u8 49, .int .u8 50, .int .u8 51, .int .u8 52, .int .u8 53, .int .u8 54, .int .u8 55, .int .u8 56, .int .u8 57] 5 (10, 11))).heap[w.heap.size + 1]? = some (.cells (cellsOf dig).toArray 5 (10, 11)) := by
    have h := heap_alloc_new (w.alloc (.cells #[.int .i64 6040, .string ⟨#[]⟩, .string ⟨#[]⟩, .string ⟨#[]⟩, .string ⟨#[113]⟩, .string ⟨#[]⟩, .int .i64 0, .int .i64 0, .int .u64 0, .bool false, .bool false, .slice none 0 0] 25)) (.cells #[.int .u8 48, .int .u8 49, .int .u8 50, .int .u8 51, .int .u8 52, .int .u8 53, .int .u8 54, .int .u8 55, .int .u8 56, .int .u8 57] 5 (10, 11))
    rw [hz0] at h
    exact h
  have hb1 : Below w.heap.size w ((w.alloc (.cells #[.int .i64 6040, .string ⟨#[]⟩, .string ⟨#[]⟩, .string ⟨#[]⟩, .string ⟨#[113]⟩, .string ⟨#[]⟩, .int .i64 0, .int .i64 0, .int .u64 0, .bool false, .bool false, .slice none 0 0] 25)).alloc (.cells #[.int .u8 48, .int .u8 49, .int .u8 50, .int .u8 51, .int .u8 52, .int .u8 53, .int .u8 54, .int .u8 55, .int .u8 56, .int .u8 57] 5 (10, 11))) := hb0.alloc hb0.size _
  have hm1 : MeAt ((w.alloc (.cells #[.int .i64 6040, .string ⟨#[]⟩, .string ⟨#[]⟩, .string ⟨#[]⟩, .string ⟨#[113]⟩, .string ⟨#[]⟩, .int .i64 0, .int .i64 0, .int .u64 0, .bool false, .bool false, .slice none 0 0] 25)).alloc (.cells #[.int .u8 48, .int .u8 49, .int .u8 50, .int .u8 51, .int .u8 52, .int .u8 53, .int .u8 54, .int .u8 55, .int .u8 56, .int .u8 57] 5 (10, 11))) w.heap.size mPub none 0 := hm0.keep (Below.heap_alloc _ _ _ (by rw [hz0]; omega))
  have HB1 := Lib.hid hb1
  have HM1 := Lib.hid hm1
  have HD1 := Lib.hid hd1
  clear hb0 hm0 hb1 hm1 hd1
  go_enter Try.func8, Try.ntmps8
  go_wp2_with fail
  generalize (w.alloc (.cells #[.int .i64 6040, .string ⟨#[]⟩, .string ⟨#[]⟩, .string ⟨#[]⟩, .string ⟨#[113]⟩, .string ⟨#[]⟩, .int .i64 0, .int .i64 0, .int .u64 0, .bool false, .bool false, .slice none 0 0] 25)).alloc (.cells #[.int .u8 48, .int .u8 49, .int .u8 50, .int .u8 51, .int .u8 52, .int .u8 53, .int .u8 54, .int .u8 55, .int .u8 56, .int .u8 57] 5 (10, 11)) = W1 at *
  refine (cut_any (m := mPub) (a := none) (cap := 0) (Tb.nil _ none (by decide)) mPub_wf (props := []) (pa := none) (pcap := 0) (Tb.nil _ none (by decide)) 3 (some ⟨w.heap.size + 1, 0, none⟩) 10 dig (by decide) (by decide) (row_at HD1.out) 8).mono ?_
  intro e w2 h
  obtain ⟨hb2, b, o, kL, rfl, hfb⟩ := told_cut1 h
  have hm2 := HM1.out.keep (hb2.block _ HM1.out.lt)
  have HB2 := Lib.hid (HB1.out.trans (hb2.mono HB1.out.size))
  have HF2 := Lib.hid hfb
  have HM2 := Lib.hid hm2
  obtain ⟨⟨c0, c1, c2, c3, c4, c5⟩, c6, c7, c8, c9, c10, c11⟩ := hm2.cells
  clear h hb2 hfb hm2 hcv
  go_wp2_with fail
  refine (cut_any (m := mPub) (a := none) (cap := 0) (Tb.nil _ none (by decide)) mPub_wf (props := []) (pa := none) (pcap := 0) (Tb.nil _ none (by decide)) 0 none 0 [] (by decide) (by decide) (fun h0 => by simp at h0) 8).mono ?_
  intro e w3 h
  obtain ⟨hb3, rfl⟩ := told_cut0 h
  have HB3 := Lib.hid (HB2.out.trans (hb3.mono HB2.out.size))
  have HF3 := Lib.hid (HF2.out.under hb3)
  have hz3 := hb3.size
  clear h hb3 c0 c1 c2 c3 c4 c5 c6 c7 c8 c9 c10 c11
  go_wp2_with fail
  refine (new_any 3 w3).mono ?_
  rintro e w4 ⟨rfl, hj4, hb4, hz4⟩
  have HB4 := Lib.hid (HB3.out.trans (hb4.mono HB3.out.size))
  have HF4 := Lib.hid (HF3.out.under (hb4.mono hz3))
  have HJ4 := Lib.hid hj4
  have hw3 : w.heap.size ≤ w3.heap.size := HB3.out.size
  obtain ⟨da0, dc0, p0, p1, p2, p3, p4, p5⟩ := HF4.out.2 0 1 3 (putM mPub) rfl
  obtain ⟨n0, hn0⟩ : ∃ n, n = (putM mPub).length := ⟨_, rfl⟩
  rw [← hn0] at p2 p3
  simp only [Nat.zero_mul, Nat.add_zero] at p0 p1 p2
  have HN0 := Lib.hid hn0
  have HP5 := Lib.hid p5
  have hB4 : w2.heap.size ≤ w4.heap.size := by omega
  clear hj4 hb4 p5 hn0
  go_wp2_with fail
  refine wp_loop_rounds 4 ?_
  rw [rounds_succ]
  go_wp2_with fail
  refine (add_call (B := w2.heap.size) HJ4.out (.inl rfl) da0 n0 dc0 mPub (has_good mPub_may mPub_has mPub_wf).1 mPub_has rfl HN0.out p3 p4 hB4 HP5.out).mono ?_
  rintro e w5 ⟨bs5, ma5, mc5, pv5, bv5, rfl, had⟩
  obtain ⟨hi5, hk5, hb5, hf5⟩ := had.step (K := w3.heap.size) (by simp) (by omega) hw3 hz3 HB4.out HF4.out
  have HJ5 := Lib.hid had.at_
  have HI5 := Lib.hid hi5
  have HB5 := Lib.hid hb5
  have HF5 := Lib.hid hf5
  clear p0 p1 p2 p3 p4 hi5 hb5 hf5 had
  obtain ⟨da1, dc1, p0, p1, p2, p3, p4, p5⟩ := HF5.out.2 1 2 3 (be 8 10 ++ putT []) rfl
  obtain ⟨n1, hn1⟩ : ∃ n, n = (be 8 10 ++ putT []).length := ⟨_, rfl⟩
  rw [← hn1] at p2 p3
  simp only [Nat.one_mul, Nat.add_assoc, Nat.reduceAdd] at p0 p1 p2
  have HN1 := Lib.hid hn1
  have HP5 := Lib.hid p5
  have hB5 : w2.heap.size ≤ w5.heap.size := by omega
  clear p5 hn1
  go_wp2_with fail
  rw [rounds_succ]
  go_wp2_with fail
  refine (add_head (B := w2.heap.size) HJ5.out rfl da1 n1 dc1 10 (by decide) [] mayT_nil fits_nil (by decide) HN1.out p3 p4 hB5 HP5.out).mono ?_
  rintro e w6 ⟨bs6, ma6, mc6, pv6, bv6, he, had⟩
  replace he : e = .returned (.tuple #[.bool false, .int .i64 0]) := he
  subst he
  obtain ⟨hi6, hk6, hb6, hf6⟩ := had.step HI5.out hk5 hw3 hz3 HB5.out HF5.out
  have hj6 : JAt w6 w3.heap.size 3 ⟨2, mPub, putT [], [], 10⟩ bs6 ma6 mc6 pv6 bv6 := had.at_
  have HJ6 := Lib.hid hj6
  have HI6 := Lib.hid hi6
  have HB6 := Lib.hid hb6
  have HF6 := Lib.hid hf6
  clear p0 p1 p2 p3 p4 hi6 hb6 hf6 had hj6
  obtain ⟨da2, dc2, p0, p1, p2, p3, p4, p5⟩ := HF6.out.2 2 3 3 [48, 49, 50, 51, 52, 53, 54, 55] rfl
  simp only [Nat.reduceMul, Nat.add_assoc, Nat.reduceAdd, List.length_cons, List.length_nil] at p0 p1 p2 p3
  have HP5 := Lib.hid p5
  have hB6 : w2.heap.size ≤ w6.heap.size := by omega
  clear p5
  go_wp2_with fail
  rw [rounds_succ]
  go_wp2_with fail
  refine (add_body (B := w2.heap.size) HJ6.out rfl da2 8 dc2 [48, 49, 50, 51, 52, 53, 54, 55] rfl p3 p4 (by decide) (by decide) (by decide) (by decide) hB6 (fun x hx => by have := HI6.out x hx; omega) HP5.out).mono ?_
  rintro e w7 ⟨bs7, ma7, mc7, pv7, bv7, he, had⟩
  replace he : e = .returned (.tuple #[.bool false, .int .i64 0]) := he
  subst he
  obtain ⟨hi7, hk7, hb7, hf7⟩ := had.step HI6.out hk6 hw3 hz3 HB6.out HF6.out
  have hj7 : JAt w7 w3.heap.size 3 ⟨2, mPub, putT [], [48, 49, 50, 51, 52, 53, 54, 55], 2⟩ bs7 ma7 mc7 pv7 bv7 := had.at_
  have HJ7 := Lib.hid hj7
  have HI7 := Lib.hid hi7
  have HB7 := Lib.hid hb7
  have HF7 := Lib.hid hf7
  clear p0 p1 p2 p3 p4 hi7 hb7 hf7 had hj7
  obtain ⟨da3, dc3, p0, p1, p2, p3, p4, p5⟩ := HF7.out.2 3 3 3 [56, 57] rfl
  simp only [Nat.reduceMul, Nat.add_assoc, Nat.reduceAdd, List.length_cons, List.length_nil] at p0 p1 p2 p3
  have HP5 := Lib.hid p5
  have hB7 : w2.heap.size ≤ w7.heap.size := by omega
  clear p5
  go_wp2_with fail
  rw [rounds_succ]
  go_wp2_with fail
  refine (add_body (B := w2.heap.size) HJ7.out rfl da3 2 dc3 [56, 57] rfl p3 p4 (by decide) (by decide) (by decide) (by decide) hB7 (fun x hx => by have := HI7.out x hx; omega) HP5.out).mono ?_
  rintro e w8 ⟨bs8, ma8, mc8, pv8, bv8, he, had⟩
  replace he : e = .returned (.tuple #[.bool true, .int .i64 0]) := he
  subst he
  obtain ⟨hi8, hk8, hb8, hf8⟩ := had.step HI7.out hk7 hw3 hz3 HB7.out HF7.out
  have hj8 : JAt w8 w3.heap.size 3 ⟨3, mPub, putT [], dig, 0⟩ bs8 ma8 mc8 pv8 bv8 := had.at_
  have HJ8 := Lib.hid hj8
  have HI8 := Lib.hid hi8
  have HB8 := Lib.hid hb8
  have HF8 := Lib.hid hf8
  clear p0 p1 p2 p3 p4 hi8 hb8 hf8 had hj8
  go_wp2_with fail
  refine (done_any HJ8.out rfl (l := []) rfl mayT_nil fits_nil (by decide) (by decide)).mono ?_
  rintro e w9 ⟨ta, tk, tb, v9, he, ht, ho, hv9, hb9⟩
  replace he : e = .returned (.tuple #[.agg #[.int .i64 6040, .string ⟨#[]⟩, .string ⟨#[]⟩, .string ⟨#[]⟩, .string ⟨#[113]⟩, .string ⟨#[]⟩, .int .i64 0, .int .i64 0, .int .u64 0, .bool false, .bool false, .slice ma8 0 mc8], .slice ta 0 tk, v9]) := he
  subst he
  obtain ⟨g9, k9, rfl, hg9, hy9⟩ := hv9.bytes1 (by decide)
  rw [show dig.length = 10 from rfl]
  have HJ9 := Lib.hid (HJ8.out.below hb9)
  have HY9 := Lib.hid hy9
  have HB9 := Lib.hid (HB8.out.trans (hb9.mono (by omega)))
  have HF9 := Lib.hid (HF8.out.under (hb9.mono (by omega)))
  have hz9 := hb9.size
  have hm9 : MeAt (w9.alloc (.cells #[.int .i64 6040, .string ⟨#[]⟩, .string ⟨#[]⟩, .string ⟨#[]⟩, .string ⟨#[113]⟩, .string ⟨#[]⟩, .int .i64 0, .int .i64 0, .int .u64 0, .bool false, .bool false, .slice ma8 0 mc8] 25)) w9.heap.size mPub ma8 mc8 := heap_alloc_new w9 _
  have hb10 : Below w9.heap.size w9 (w9.alloc (.cells #[.int .i64 6040, .string ⟨#[]⟩, .string ⟨#[]⟩, .string ⟨#[]⟩, .string ⟨#[113]⟩, .string ⟨#[]⟩, .int .i64 0, .int .i64 0, .int .u64 0, .bool false, .bool false, .slice ma8 0 mc8] 25)) := (Below.refl _ _).alloc (Nat.le_refl _) _
  have hw10 : (w9.alloc (.cells #[.int .i64 6040, .string ⟨#[]⟩, .string ⟨#[]⟩, .string ⟨#[]⟩, .string ⟨#[113]⟩, .string ⟨#[]⟩, .int .i64 0, .int .i64 0, .int .u64 0, .bool false, .bool false, .slice ma8 0 mc8] 25)).heap.size = w9.heap.size + 1 := by simp
  have HJ10 := Lib.hid (HJ9.out.below hb10)
  have HM10 := Lib.hid hm9
  have HY10 := Lib.hid (HY9.out.below hb10)
  have HB10 := Lib.hid (HB9.out.trans (hb10.mono (by omega)))
  have HF10 := Lib.hid (HF9.out.under (hb10.mono (by omega)))
  obtain ⟨da4, dc4, p0, p1, p2, p3, p4, p5⟩ := HF10.out.2 3 3 3 [56, 57] rfl
  simp only [Nat.reduceMul, Nat.add_assoc, Nat.reduceAdd, List.length_cons, List.length_nil] at p0 p1 p2 p3
  clear ht ho hv9 hb9 hy9 hm9 hb10 p3 p4 p5
  go_wp2_with fail
  generalize w9.alloc (.cells #[.int .i64 6040, .string ⟨#[]⟩, .string ⟨#[]⟩, .string ⟨#[]⟩, .string ⟨#[113]⟩, .string ⟨#[]⟩, .int .i64 0, .int .i64 0, .int .u64 0, .bool false, .bool false, .slice ma8 0 mc8] 25) = w10 at *
  refine (add_err HJ10.out 3 (by decide) da4 2 dc4 (.inl ⟨.inr rfl, by decide⟩)).mono ?_
  rintro e w11 ⟨rfl, hj11, hk11⟩
  have hmlt := HM10.out.lt
  have hm11 : MeAt w11 w9.heap.size mPub ma8 mc8 := HM10.out.keep (hk11.block _ hmlt (fun hx => by have := HJ9.out.bnd _ hx; omega))
  have hy11 : Bytes1 w11 g9 k9 dig := HY10.out.keep (hk11.block _ HY10.out.lt (fun hx => by have := HJ8.out.bnd _ hx; omega))
  have hb11 : Below w.heap.size w w11 := HB10.out.trans (hk11.below (by omega) (fun x hx => by have := HI8.out x hx; omega))
  have hf11 := HF10.out.under (hk11.below (by omega) (fun x hx => by have := HI8.out x hx; omega))
  have HM11 := Lib.hid hm11
  have HY11 := Lib.hid hy11
  have HB11 := Lib.hid hb11
  obtain ⟨da5, dc5, q0, q1, q2, q3, q4, q5⟩ := hf11.2 0 1 3 (putM mPub) rfl
  rw [← HN0.out] at q2
  simp only [Nat.zero_mul, Nat.add_zero] at q0 q1 q2
  clear p0 p1 p2 hj11 hk11 hm11 hy11 hb11 hf11 q3 q4 q5
  go_wp2_with fail
  refine (add_nil 1 3 da5 n0 dc5 w11).mono ?_
  rintro e w12 ⟨rfl, hb12⟩
  have hm12 := HM11.out.keep (hb12.block _ HM11.out.lt)
  have c4 : w12.cell? ⟨w9.heap.size, 4, none⟩ = some (.string ⟨#[113]⟩) := hm12.cells.1.2.2.2.2.1
  have hv := conv_str k9 (HY11.out.below hb12).at
  replace hv : (convert 26 9 (.slice (some ⟨g9, 0, none⟩) 10 k9)).run Try.prog w12 = .ok (.string ⟨#[48, 49, 50, 51, 52, 53, 54, 55, 56, 57]⟩) w12 := hv
  have HB12 := Lib.hid (HB11.out.trans (hb12.mono HB11.out.size))
  clear hb12 hm12 q0 q1 q2
  go_wp2_with fail
  go_ret
  exact ⟨rfl, HB12.out⟩

end Go.Proofs.Ytjnnpgmgjdhfjaa

namespace Go.Proofs.Ytjnnpgmgjdhfjaa
open Go.RowKit
set_option linter.unusedVariables false

def mKey : Me := { Me.of 6040 with key := ⟨#[107]⟩ }
theorem mKey_wf : mKey.Wf := by
  obtain ⟨h0, h1, h2, h3, h4, h5, h6, h7, h8, h9⟩ := of_wf 6040 (by decide)
  exact ⟨h0, h1, h2, h3, (by show (ByteArray.mk #[107]).size ≤ maxLen; decide), h5, h6, h7, h8, h9⟩
theorem mKey_may : MayM mKey := by
  refine (mayM_iff (m := mKey) (l := [.e, .k, .f]) rfl).2 ⟨fun p hp => ?_, fun p hp => ?_⟩
  · simp only [List.mem_cons, List.not_mem_nil, or_false] at hp
    rcases hp with rfl | rfl | rfl
    · show (ByteArray.empty).size ≤ 255; decide
    · show (ByteArray.mk #[107]).size ≤ 255; decide
    · trivial
  · cases p <;> first | rfl | (exact absurd hp (by simp))
theorem make_bytesB (n : Nat) (hn : n ≤ 100000) (w : World) : (Instr.makeSlice 26 (.int .i64 n) (.int .i64 n)).run Try.prog w = .ok (.slice (some ⟨w.heap.size, 0, none⟩) n n) (w.alloc (.cells (madeCells #[.int .u8 0] n) 5)) := by
  obtain ⟨i0, hi, hz0, hz1, hz2⟩ := info_parts u8_info
  have h := run_make (P := Try.prog) w 26 5 i0 _ Try.underlying26 hi hz0 .i64 .i64 n n (by omega) (by omega) (by rw [hz2]; omega) (by omega)
  rw [hz1] at h
  simpa [Value.cells] using h
theorem made_at {w : World} {g n : Nat} (h : w.heap[g]? = some (.cells (madeCells #[.int .u8 0] n) 5 (0, 0))) : BytesAt w.heap.size w (some ⟨g, 0, none⟩) (List.replicate n 0) := by
  refine row_at (fr := (0, 0)) ?_
  have e := toList_madeCells_one (.int .u8 0) n
  rw [h]
  congr 2
  rw [← Array.toArray_toList (xs := madeCells #[.int .u8 0] n), e]
  congr 1
  simp [cellsOf]
/-- Cut of a call that may be cut, its table empty. -/
theorem cut_good {ch : Int} {m : Me} {b : List UInt8} {q : Nat} {w : World} {e : Ending} {w' : World} (hc : MayC ch m b.length q) (h : CutR ch m [] b q w e w') : Below w.heap.size w w' ∧ ∃ bb o cap, e = .returned (.tuple #[.slice (some ⟨bb, o, none⟩) (cutF ch m [] b q).length cap, .int .i64 0]) ∧
    FrsB w'.heap.size w' bb o (cutF ch m [] b q) := by
  obtain ⟨hb, h⟩ := h
  refine ⟨hb, ?_⟩
  rcases h with ⟨_, h | h⟩ | ⟨_, _, _, h⟩ | ⟨_, _, _, a, cap, he, hf⟩
  · exact absurd hc h
  · exact absurd mayT_nil h
  · exact absurd h (by decide)
  · rw [Int.toNat_natCast] at he hf
    obtain ⟨bb, o, rfl, hfb⟩ := hf.toB (by simp [cutF])
    exact ⟨bb, o, cap, he, hfb⟩

theorem cutF_get {ch : Int} {m : Me} {l : List It} {b : List UInt8} {q j : Nat} (h : j < (b.length + q - 1) / q) : (cutF ch m l b q)[2 + j]? = some ⟨3, ch, (b.drop (j * q)).take q⟩ := by
  rw [Nat.add_comm]
  show (bodyF ch q b)[j]? = _
  rw [List.getElem?_eq_getElem (by simpa using h)]
  simp [bodyF, pcs]
theorem pcs_all {n q : Nat} (hq : 0 < q) : n ≤ (n + q - 1) / q * q := by
  have h1 := Nat.div_add_mod (n + q - 1) q
  have h2 := Nat.mod_lt (n + q - 1) hq
  rw [Nat.mul_comm] at h1
  omega
theorem pcs_in {n q j : Nat} (hq : 0 < q) (h : j < (n + q - 1) / q) : j * q < n := by
  have h1 : (j + 1) * q ≤ n + q - 1 := (Nat.le_div_iff_mul_le hq).1 h
  rw [Nat.succ_mul] at h1
  omega

def sizesRel (w2 : World) (k q : Nat) (n : Nat) (v9 v10 : Value) (wr : World) : Prop :=
  ∃ i j l : Nat, i = 2 + j ∧ j ≤ (k + q - 1) / q ∧ l = k - j * q ∧ v9 = .int .i64 l ∧ v10 = .int .i64 i ∧ n = (k + q - 1) / q - j ∧ wr = w2

set_option maxRecDepth 100000 in
set_option maxHeartbeats 8000000 in
theorem sizes_any (p0 p1 : Int) (w : World) (w0 : (Lit.int .i64 p0).wf = true) (w1 : (Lit.int .i64 p1).wf = true) :
    Calls Try.prog 5 #[.int .i64 p0, .int .i64 p1] w fun e w' => e = .returned (.bool true) ∧ Below w.heap.size w w' := by
  clear w0 w1
  obtain ⟨x, hx⟩ : ∃ x, IntKind.u64.wrap p0 = x := ⟨_, rfl⟩
  obtain ⟨y, hy⟩ : ∃ y, IntKind.u64.wrap p1 = y := ⟨_, rfl⟩
  have hx0 : 0 ≤ x := by rw [← hx, IntKind.wrap_u64]; omega
  have hy0 : 0 ≤ y := by rw [← hy, IntKind.wrap_u64]; omega
  obtain ⟨k, hk, hk2⟩ : ∃ k : Nat, x.tmod 2001 = (k : Int) ∧ k ≤ 2000 := by
    rw [Int.tmod_eq_emod_of_nonneg hx0]
    exact ⟨(x % 2001).toNat, by omega, by omega⟩
  obtain ⟨r, hr, hr2⟩ : ∃ r : Nat, y.tmod 200 = (r : Int) ∧ r ≤ 199 := by
    rw [Int.tmod_eq_emod_of_nonneg hy0]
    exact ⟨(y % 200).toNat, by omega, by omega⟩
  obtain ⟨q, hq⟩ : ∃ q : Nat, q = 8 + r := ⟨_, rfl⟩
  have hkw : IntKind.i64.wrap (k : Int) = (k : Int) := IntWalk.i64_in _ (by omega)
  have hrw : IntKind.i64.wrap (r : Int) = (r : Int) := IntWalk.i64_in _ (by omega)
  have hqw : IntKind.i64.wrap (8 + (r : Int)) = (q : Int) := by rw [IntWalk.i64_in _ (by omega)]; omega
  have hmk := make_bytesB k (by omega) w
  have hz1 := heap_alloc_new w (.cells (madeCells #[.int .u8 0] k) 5)
  have hb1 : Below w.heap.size w (w.alloc (.cells (madeCells #[.int .u8 0] k) 5)) := (Below.refl _ _).alloc (Nat.le_refl _) _
  have HZ1 := Lib.hid hz1
  have HB1 := Lib.hid hb1
  have HQ := Lib.hid hq
  clear hz1 hb1 hq
  go_enter Try.func5, Try.ntmps5
  have hcut := cut_any (m := mKey) (a := none) (cap := 0) (Tb.nil _ none (by decide)) mKey_wf (props := []) (pa := none) (pcap := 0) (Tb.nil _ none (by decide)) 1 (some ⟨w.heap.size, 0, none⟩) k (List.replicate k 0) (by simp) (by unfold maxLen; omega) (made_at HZ1.out) q
  rw [List.length_replicate] at hcut
  have HCUT := Lib.hid hcut
  clear hcut
  go_wp2_with fail
  refine HCUT.out.mono ?_
  intro e w2 h
  have hmc : MayC 1 mKey (List.replicate k (0 : UInt8)).length q := ⟨mKey_may, .inl rfl, by decide, by have := HQ.out; omega, by rw [List.length_replicate]; omega⟩
  obtain ⟨hb2, bb, o, cap, rfl, hf⟩ := cut_good hmc h
  have hlk : (List.replicate k (0 : UInt8)).length = k := List.length_replicate
  obtain ⟨c, hc⟩ : ∃ c, c = (k + q - 1) / q := ⟨_, rfl⟩
  obtain ⟨N, hN⟩ : ∃ N, N = 2 + c := ⟨_, rfl⟩
  have hcN : (cutF 1 mKey [] (List.replicate k 0) q).length = N := by rw [cutF_length, hlk, hN, hc]
  rw [hcN]
  have hq8 : 8 ≤ q := by have := HQ.out; omega
  have hq9 : q ≤ 207 := by have := HQ.out; omega
  have hck : c ≤ 2000 := by
    rw [hc]
    refine Nat.le_of_lt_succ ((Nat.div_lt_iff_lt_mul (by omega)).2 ?_)
    omega
  obtain ⟨s1, hs1⟩ : ∃ s, s = k + q := ⟨_, rfl⟩
  obtain ⟨s2, hs2⟩ : ∃ s, s = k + q - 1 := ⟨_, rfl⟩
  have hw1 : IntKind.i64.wrap ((k : Int) + (q : Int)) = (s1 : Int) := by rw [IntWalk.i64_in _ (by omega)]; omega
  have hw2 : IntKind.i64.wrap ((s1 : Int) - 1) = (s2 : Int) := by rw [IntWalk.i64_in _ (by omega)]; omega
  have hq0 : ¬ (q : Int) = 0 := by omega
  have hdv : (s2 : Int).tdiv (q : Int) = (c : Int) := by
    rw [hc, hs2, Int.tdiv_eq_ediv_of_nonneg (by omega)]
    rfl
  have hw3 : IntKind.i64.wrap (c : Int) = (c : Int) := IntWalk.i64_in _ (by omega)
  have hw4 : IntKind.i64.wrap (2 + (c : Int)) = (N : Int) := by rw [IntWalk.i64_in _ (by omega)]; omega
  have HF := Lib.hid hf
  have HB2 := Lib.hid (HB1.out.trans (hb2.mono (HB1.out.size)))
  have HS := Lib.hid (And.intro hc (And.intro hN hs1))
  clear h hb2 hf hmc hcN hc hs1 hs2 hN hx hy hmk
  go_wp2_with fail
  go_loopg [9, 10] c (sizesRel w2 k q)
  case atStart => exact ⟨2, 0, k, rfl, Nat.zero_le _, by simp, rfl, rfl, by rw [HS.out.1]; simp, rfl⟩
  case round =>
    obtain ⟨i, j, l, hi, hj, hl, rfl, rfl, hn, rfl⟩ := hrel
    rw [← HS.out.1] at hj hn
    by_cases hlt : j < c
    · have hjk : j * q < k := pcs_in (n := k) (q := q) (by omega) (by rw [← HS.out.1]; exact hlt)
      obtain ⟨da, dc, p0, p1, p2, p3, p4, p5⟩ := HF.out.2 (2 + j) 3 1 (((List.replicate k 0).drop (j * q)).take q) (cutF_get (by rw [hlk, ← HS.out.1]; exact hlt))
      rw [← hi] at p0 p1 p2
      have hpl : (((List.replicate k (0 : UInt8)).drop (j * q)).take q).length = min q l := by simp; omega
      rw [hpl] at p2
      have h0i : (0 : Int) ≤ (i : Int) := by omega
      have hiN : (i : Int) < (N : Int) := by have := HS.out.2.1; omega
      have hl2 : l ≤ 2000 := by omega
      have hsi : IntKind.i64.wrap ((i : Int) + 1) = ((i + 1 : Nat) : Int) := by have := HS.out.2.1; rw [IntWalk.i64_in _ (by omega)]; omega
      have HJ := Lib.hid (And.intro hi (And.intro hl hlt))
      have hstep : (j + 1) * q = j * q + q := Nat.succ_mul _ _
      by_cases hql : q < l
      · rw [Nat.min_eq_left (by omega)] at p2
        have hqi : (q : Int) < (l : Int) := by omega
        obtain ⟨l', hl'⟩ : ∃ l' : Nat, l' = l - q := ⟨_, rfl⟩
        have hwl : IntKind.i64.wrap ((l : Int) - (q : Int)) = (l' : Int) := by rw [IntWalk.i64_in _ (by omega)]; omega
        have HE := Lib.hid (show l' = k - (j + 1) * q by rw [hstep]; omega)
        clear p3 p4 p5 hpl hl hi hl' hstep hjk hj
        go_wp2_with fail
        go_roundg (c - (j + 1))
        case measure => have := HJ.out.2.2; omega
        case rel =>
          obtain ⟨hi, hl, hlt⟩ := HJ.out
          exact ⟨i + 1, j + 1, l', by omega, by rw [← HS.out.1]; omega, HE.out, rfl, by simp, by rw [← HS.out.1], rfl⟩
      · rw [Nat.min_eq_right (by omega)] at p2
        have hqi : ¬ (q : Int) < (l : Int) := by omega
        have hwl : IntKind.i64.wrap ((l : Int) - (l : Int)) = 0 := by rw [IntWalk.i64_in _ (by omega)]; omega
        have hw0 : IntKind.i64.wrap 0 = 0 := by decide
        have HE := Lib.hid (show 0 = k - (j + 1) * q by rw [hstep]; omega)
        clear p3 p4 p5 hpl hl hi hstep hjk hj
        go_wp2_with fail
        go_roundg (c - (j + 1))
        case measure => have := HJ.out.2.2; omega
        case rel =>
          obtain ⟨hi, hl, hlt⟩ := HJ.out
          exact ⟨i + 1, j + 1, 0, by omega, by rw [← HS.out.1]; omega, HE.out, by first | rfl | simp, by simp, by rw [← HS.out.1], rfl⟩
    · obtain rfl : j = c := by omega
      have hend : k ≤ j * q := by
        have := pcs_all (n := k) (q := q) (by omega)
        rwa [← HS.out.1] at this
      obtain rfl : l = 0 := by omega
      have hiN : ¬ (i : Int) < (N : Int) := by have := HS.out.2.1; omega
      have hN1 : (1 : Int) < (N : Int) := by have := HS.out.2.1; omega
      clear hl hend hj hn hi
      go_wp2_with fail
      refine (told_any _).mono ?_
      rintro e w3 ⟨rfl, hb3⟩
      have hf3 := HF.out.under hb3
      have HB3 := Lib.hid (HB2.out.trans (hb3.mono HB2.out.size))
      obtain ⟨da, dc, p0, p1, p2, p3, p4, p5⟩ := hf3.2 0 1 1 (putM mKey) rfl
      obtain ⟨db, dd, q0, q1, q2, q3, q4, q5⟩ := hf3.2 1 2 1 (be 8 (List.replicate k (0 : UInt8)).length ++ putT []) rfl
      simp only [Nat.zero_mul, Nat.add_zero] at p0
      simp only [Nat.one_mul] at q0
      clear p1 p2 p3 p4 p5 q1 q2 q3 q4 q5 hf3 hb3
      go_wp2_with fail
      go_ret
      exact ⟨by first | rfl | simp, HB3.out⟩

end Go.Proofs.Ytjnnpgmgjdhfjaa

namespace Go.Proofs.Ytjnnpgmgjdhfjaa
open Go.RowKit
set_option linter.unusedVariables false
variable {B : Nat}

/-- what a join holds behind i frames. -/
def jS (m : Me) (tb : List UInt8) (body : List UInt8) (q : Nat) : Nat → JS
  | 0 => JS.none
  | 1 => ⟨1, m, [], [], 0⟩
  | n + 2 => ⟨if body.length ≤ n * q then 3 else 2, m, tb, body.take (n * q), body.length - n * q⟩

theorem cutF_at {ch : Int} {m : Me} {l : List It} {b : List UInt8} {q n : Nat} (h : n < (b.length + q - 1) / q) : (cutF ch m l b q)[n + 2]? = some ⟨3, ch, (b.drop (n * q)).take q⟩ := by
  rw [Nat.add_comm]; exact cutF_get h
theorem bool_or {p : Prop} [Decidable p] {r : Bool} (h : p ↔ r = true) : decide p = r := by
  cases r
  · exact decide_eq_false (fun hp => by simpa using h.1 hp)
  · exact decide_eq_true (h.2 rfl)

/-- what a message is cut from. -/
structure Msg (m : Me) (l : List It) (b : List UInt8) (q : Nat) : Prop where
  good : Good m
  has : Has m.id
  args : m.args = []
  may : MayT 1 l
  fits : Fits l
  few : (putT l).length ≤ 3000
  q8 : 8 ≤ q
  len : b.length ≤ 600

set_option maxRecDepth 100000 in
/-- the next frame of a message. -/
theorem addJ {w : World} {g : Nat} {bs : List Nat} {ma : Option Addr} {mc : Nat} {pv bv : Value} {m : Me} {l : List It} {b : List UInt8} {q i : Nat} (hm : Msg m l b q) (hj : JAt w g 9 (jS m (putT l) b q i) bs ma mc pv bv) (k : Int) (d : List UInt8) (hf : (cutF 9 m l b q)[i]? = some ⟨k, 9, d⟩)
    (a : Option Addr) (n cap : Nat) (hn : n = d.length) (hlc : n ≤ cap) (hcm : cap ≤ maxLen) (hB : B ≤ w.heap.size) (hbs : ∀ x ∈ bs, B ≤ x) (hat : BytesAt B w a d) :
    Calls Try.prog 13 #[.pointer (some ⟨g, 0, none⟩), .agg #[.int .i64 k, .int .i64 9, .slice a n cap]] w fun e w' => ∃ bs' ma' mc' pv' bv', e = .returned (.tuple #[.bool (decide (i + 1 = (cutF 9 m l b q).length)), .int .i64 0]) ∧
      Added w g 9 bs (jS m (putT l) b q (i + 1)) w' bs' ma' mc' pv' bv' := by
  have hq := hm.q8
  have hN : (cutF 9 m l b q).length = 2 + (b.length + q - 1) / q := cutF_length ..
  have hiN := (List.getElem?_eq_some_iff.1 hf).1
  rw [hN] at hiN ⊢
  match i, hj, hf, hiN with
  | 0, hj, hf, _ =>
    obtain ⟨rfl, -, rfl⟩ := Fr.mk.inj (Option.some.inj hf)
    refine (add_call (B := B) hj (.inl rfl) a n cap m hm.good hm.has hm.args hn hlc hcm hB hat).mono ?_
    rintro e w' ⟨bs', ma', mc', pv', bv', rfl, h⟩
    have hne : ¬ (0 + 1 = 2 + (b.length + q - 1) / q) := by generalize (b.length + q - 1) / q = c; omega
    exact ⟨bs', ma', mc', pv', bv', by rw [decide_eq_false hne], h⟩
  | 1, hj, hf, _ =>
    obtain ⟨rfl, -, rfl⟩ := Fr.mk.inj (Option.some.inj hf)
    refine (add_head (B := B) hj rfl a n cap b.length (by have := hm.len; omega) l hm.may hm.fits hm.few hn hlc hcm hB hat).mono ?_
    rintro e w' ⟨bs', ma', mc', pv', bv', rfl, h⟩
    refine ⟨bs', ma', mc', pv', bv', ?_, ?_⟩
    · congr 6
      apply propext
      constructor
      · intro h0
        rw [h0, Nat.div_eq_of_lt (by omega)]
      · intro h0
        have h1 : (b.length + q - 1) / q = 0 := by omega
        rw [Nat.div_eq_zero_iff] at h1
        omega
    · have e : jS m (putT l) b q 2 = { jS m (putT l) b q 1 with st := (if b.length = 0 then 3 else 2), props := putT l, left := b.length } := by
        show JS.mk _ _ _ _ _ = JS.mk _ _ _ _ _
        simp
        exact ⟨rfl, rfl⟩
      show Added w g 9 bs (jS m (putT l) b q 2) w' bs' ma' mc' pv' bv'
      rw [e]
      exact h
  | n0 + 2, hj, hf, hiN =>
    have hlt : n0 < (b.length + q - 1) / q := by omega
    rw [cutF_at hlt] at hf
    obtain ⟨rfl, -, rfl⟩ := Fr.mk.inj (Option.some.inj hf)
    have hin := pcs_in (by omega) hlt
    have hdl : ((b.drop (n0 * q)).take q).length = min q (b.length - n0 * q) := by simp
    have hst : (jS m (putT l) b q (n0 + 2)).st = 2 := if_neg (by omega)
    have hl6 := hm.len
    refine (add_body (B := B) hj hst a n cap _ hn hlc hcm (by rw [hdl]; omega) (by rw [hdl]; exact Nat.min_le_right _ _) (by show b.length - n0 * q ≤ 65536; omega) (by show (b.take (n0 * q)).length ≤ 65536; rw [List.length_take]; omega) hB hbs hat).mono ?_
    rintro e w' ⟨bs', ma', mc', pv', bv', rfl, h⟩
    have hs : (n0 + 1) * q = n0 * q + q := Nat.succ_mul _ _
    have hleft : (jS m (putT l) b q (n0 + 2)).left = b.length - n0 * q := rfl
    rw [hleft, hdl] at h ⊢
    have hiff : (b.length - n0 * q = min q (b.length - n0 * q)) ↔ b.length ≤ (n0 + 1) * q := by omega
    refine ⟨bs', ma', mc', pv', bv', ?_, ?_⟩
    · congr 6
      apply propext
      rw [hiff]
      constructor
      · intro h0
        rw [pcs_upto (by omega) hin h0]
        omega
      · intro h0
        have h1 := pcs_all (n := b.length) (q := q) (by omega)
        rw [show (b.length + q - 1) / q = n0 + 1 by omega] at h1
        exact h1
    · have e : jS m (putT l) b q (n0 + 2 + 1) = { jS m (putT l) b q (n0 + 2) with st := (if b.length - n0 * q = min q (b.length - n0 * q) then 3 else 2), body := (jS m (putT l) b q (n0 + 2)).body ++ (b.drop (n0 * q)).take q, left := b.length - n0 * q - min q (b.length - n0 * q) } := by
        show JS.mk _ _ _ _ _ = JS.mk _ _ _ _ _
        congr 1
        · by_cases hh : b.length ≤ (n0 + 1) * q
          · rw [if_pos hh, if_pos (hiff.2 hh)]
          · rw [if_neg hh, if_neg (fun x => hh (hiff.1 x))]
        · show b.take ((n0 + 1) * q) = b.take (n0 * q) ++ (b.drop (n0 * q)).take q
          rw [hs, List.take_add]
        · rw [hs]; omega
      rw [e]
      exact h

/-- what the join that lacks frame o holds behind i frames. -/
def KOk (m : Me) (tb : List UInt8) (b : List UInt8) (q o i : Nat) (J : JS) : Prop :=
  (o = 0 → J.st = 0) ∧ (o = 1 → (i = 0 → J.st = 0) ∧ (1 ≤ i → i ≤ 2 → J.st = 1) ∧ (3 ≤ i → J.st = 0)) ∧
  (2 ≤ o → (i ≤ o → J = jS m tb b q i) ∧ (o < i → J.st = 2 ∧ J.left = (b.length - (i - 2) * q) + min q (b.length - (o - 2) * q) ∧ J.body.length + J.left ≤ b.length))

theorem KOk.skip {m : Me} {tb b : List UInt8} {q o : Nat} {J : JS} (h : KOk m tb b q o o J) (ho : o < 2 + (b.length + q - 1) / q) (hq : 8 ≤ q) : KOk m tb b q o (o + 1) J := by
  refine ⟨h.1, fun h1 => ?_, fun h2 => ⟨fun h3 => by omega, fun _ => ?_⟩⟩
  · subst h1
    exact ⟨fun h => by omega, fun _ _ => (h.2.1 rfl).2.1 (Nat.le_refl _) (by decide), fun h => by omega⟩
  · obtain rfl := (h.2.2 h2).1 (Nat.le_refl _)
    obtain ⟨n, rfl⟩ : ∃ n, o = n + 2 := ⟨o - 2, by omega⟩
    have hin := pcs_in (n := b.length) (q := q) (j := n) (by omega) (by omega)
    have hs : (n + 1) * q = n * q + q := Nat.succ_mul _ _
    refine ⟨if_neg (by omega), ?_, ?_⟩
    · show b.length - n * q = b.length - (n + 2 + 1 - 2) * q + min q (b.length - (n + 2 - 2) * q)
      rw [show n + 2 + 1 - 2 = n + 1 by omega, show n + 2 - 2 = n by omega, hs]
      omega
    · show (b.take (n * q)).length + (b.length - n * q) ≤ b.length
      rw [List.length_take]; omega

set_option maxRecDepth 100000 in
/-- the next frame of a message of which one was left out. -/
theorem addK {w : World} {g : Nat} {bs : List Nat} {J : JS} {ma : Option Addr} {mc : Nat} {pv bv : Value} {m : Me} {l : List It} {b : List UInt8} {q o i : Nat} (hm : Msg m l b q) (hj : JAt w g 9 J bs ma mc pv bv) (hk : KOk m (putT l) b q o i J) (hio : i ≠ o) (ho : o < 2 + (b.length + q - 1) / q) (k : Int) (d : List UInt8) (hf : (cutF 9 m l b q)[i]? = some ⟨k, 9, d⟩)
    (a : Option Addr) (n cap : Nat) (hn : n = d.length) (hlc : n ≤ cap) (hcm : cap ≤ maxLen) (hB : B ≤ w.heap.size) (hbs : ∀ x ∈ bs, B ≤ x) (hat : BytesAt B w a d) :
    Calls Try.prog 13 #[.pointer (some ⟨g, 0, none⟩), .agg #[.int .i64 k, .int .i64 9, .slice a n cap]] w fun e w' => ∃ (c : Int) (J' : JS) (bs' : List Nat) (ma' : Option Addr) (mc' : Nat) (pv' bv' : Value), e = .returned (.tuple #[.bool false, .int .i64 c]) ∧
      KOk m (putT l) b q o (i + 1) J' ∧ Added w g 9 bs J' w' bs' ma' mc' pv' bv' := by
  have hq := hm.q8
  have hN : (cutF 9 m l b q).length = 2 + (b.length + q - 1) / q := cutF_length ..
  have hiN := (List.getElem?_eq_some_iff.1 hf).1
  rw [hN] at hiN
  have hkind : (i = 0 → k = 1) ∧ (i = 1 → k = 2) ∧ (2 ≤ i → k = 3) := by
    match i, hf, hiN with
    | 0, hf, _ => obtain ⟨rfl, -, rfl⟩ := Fr.mk.inj (Option.some.inj hf); exact ⟨fun _ => rfl, fun h => by omega, fun h => by omega⟩
    | 1, hf, _ => obtain ⟨rfl, -, rfl⟩ := Fr.mk.inj (Option.some.inj hf); exact ⟨fun h => by omega, fun _ => rfl, fun h => by omega⟩
    | n0 + 2, hf, hiN =>
      rw [cutF_at (by omega)] at hf
      obtain ⟨rfl, -, rfl⟩ := Fr.mk.inj (Option.some.inj hf)
      exact ⟨fun h => by omega, fun h => by omega, fun _ => rfl⟩
  obtain ⟨k0, k1, k2⟩ := hkind
  have hk8 : ¬ k = 8 := by
    intro h
    by_cases h0 : i = 0
    · have := k0 h0; omega
    · by_cases h1 : i = 1
      · have := k1 h1; omega
      · have := k2 (by omega); omega
  have err : (((J.st = 0 ∨ J.st = 3) ∧ ¬ k = 1) ∨ (J.st = 1 ∧ ¬ k = 2) ∨ (J.st = 2 ∧ ¬ k = 3)) → KOk m (putT l) b q o (i + 1) JS.none → Calls Try.prog 13 #[.pointer (some ⟨g, 0, none⟩), .agg #[.int .i64 k, .int .i64 9, .slice a n cap]] w fun e w' => ∃ (c : Int) (J' : JS) (bs' : List Nat) (ma' : Option Addr) (mc' : Nat) (pv' bv' : Value), e = .returned (.tuple #[.bool false, .int .i64 c]) ∧
      KOk m (putT l) b q o (i + 1) J' ∧ Added w g 9 bs J' w' bs' ma' mc' pv' bv' := by
    intro h h2
    refine (add_err hj k hk8 a n cap h).mono ?_
    rintro e w' ⟨rfl, h3, h4⟩
    exact ⟨501, _, bs, none, 0, _, _, rfl, h2, h3, fun x hx => .inl hx, h4⟩
  by_cases o0 : o = 0
  · have hst := hk.1 o0
    refine err (.inl ⟨.inl hst, ?_⟩) ⟨fun _ => rfl, fun h => by omega, fun h => by omega⟩
    by_cases h1 : i = 1
    · have := k1 h1; omega
    · have := k2 (by omega); omega
  by_cases o1 : o = 1
  · obtain ⟨s0, s1, s3⟩ := hk.2.1 o1
    by_cases h0 : i = 0
    · subst h0
      obtain ⟨rfl, -, rfl⟩ := Fr.mk.inj (Option.some.inj hf)
      refine (add_call (B := B) hj (.inl (s0 rfl)) a n cap m hm.good hm.has hm.args hn hlc hcm hB hat).mono ?_
      rintro e w' ⟨bs', ma', mc', pv', bv', rfl, h⟩
      exact ⟨0, _, bs', ma', mc', pv', bv', rfl, ⟨fun h => absurd h o0, fun _ => ⟨fun h => by omega, fun _ _ => rfl, fun h => by omega⟩, fun h => by omega⟩, h⟩
    · have h2 := k2 (by omega)
      refine err ?_ ⟨fun _ => rfl, fun _ => ⟨fun h => by omega, fun _ h => by omega, fun _ => rfl⟩, fun h => by omega⟩
      by_cases h3 : i ≤ 2
      · exact .inr (.inl ⟨s1 (by omega) h3, by omega⟩)
      · exact .inl ⟨.inl (s3 (by omega)), by omega⟩
  obtain ⟨t1, t2⟩ := hk.2.2 (by omega)
  by_cases hlt : i < o
  · obtain rfl := t1 (by omega)
    refine (addJ (B := B) hm hj k d hf a n cap hn hlc hcm hB hbs hat).mono ?_
    rintro e w' ⟨bs', ma', mc', pv', bv', rfl, h⟩
    refine ⟨0, _, bs', ma', mc', pv', bv', by rw [show decide (i + 1 = (cutF 9 m l b q).length) = false from decide_eq_false (by omega)], ⟨fun h => absurd h o0, fun h => absurd h o1, fun _ => ⟨fun _ => rfl, fun h => by omega⟩⟩, h⟩
  · obtain ⟨u1, u2, u3⟩ := t2 (by omega)
    obtain ⟨n0, rfl⟩ : ∃ n0, i = n0 + 2 := ⟨i - 2, by omega⟩
    obtain ⟨p0, rfl⟩ : ∃ p0, o = p0 + 2 := ⟨o - 2, by omega⟩
    have hl0 : n0 < (b.length + q - 1) / q := by omega
    rw [cutF_at hl0] at hf
    obtain ⟨rfl, -, rfl⟩ := Fr.mk.inj (Option.some.inj hf)
    have hin := pcs_in (by omega) hl0
    have hop := pcs_in (n := b.length) (q := q) (j := p0) (by omega) (by omega)
    have hdl : ((b.drop (n0 * q)).take q).length = min q (b.length - n0 * q) := by simp
    have hl6 := hm.len
    simp only [Nat.add_sub_cancel] at u2
    have hs : (n0 + 1) * q = n0 * q + q := Nat.succ_mul _ _
    refine (add_body (B := B) hj u1 a n cap _ hn hlc hcm (by rw [hdl]; omega) (by rw [hdl]; omega) (by omega) (by omega) hB hbs hat).mono ?_
    rintro e w' ⟨bs', ma', mc', pv', bv', rfl, h⟩
    rw [hdl] at h ⊢
    have hno : ¬ J.left = min q (b.length - n0 * q) := by omega
    rw [if_neg hno] at h
    refine ⟨0, _, bs', ma', mc', pv', bv', by rw [decide_eq_false hno], ⟨fun h => absurd h o0, fun h => absurd h o1, fun _ => ⟨fun h => by omega, fun _ => ⟨rfl, ?_, ?_⟩⟩⟩, h⟩
    · show J.left - min q (b.length - n0 * q) = b.length - (n0 + 2 + 1 - 2) * q + min q (b.length - (p0 + 2 - 2) * q)
      rw [show n0 + 2 + 1 - 2 = n0 + 1 by omega, show p0 + 2 - 2 = p0 by omega, hs]
      omega
    · show (J.body ++ (b.drop (n0 * q)).take q).length + (J.left - min q (b.length - n0 * q)) ≤ b.length
      rw [List.length_append, hdl]
      omega

end Go.Proofs.Ytjnnpgmgjdhfjaa
