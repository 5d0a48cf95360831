/-
  The document's Next, walked.
-/
import Derived.Test.YtpibbgencojbgaaRef4
import Derived.Deep.QuietTactic
import Derived.BigQuiet
import Derived.Lib.ConvBytes
import Derived.BigRegion
namespace Go.Proofs.Ytpibbgencojbgaa
open Go.RowKit
set_option linter.unusedVariables false

theorem size_len (s : ByteArray) : s.data.toList.length = s.size := by
  obtain ⟨⟨l⟩⟩ := s
  rfl
theorem get_len {s : ByteArray} {i : Nat} (h : i < s.size) : s.data.toList[i]'(by rw [size_len]; exact h) = s[i] := by
  obtain ⟨⟨l⟩⟩ := s
  rfl
theorem de_one {l : List UInt8} (h : 0 < l.length) : de (l.take 1) = l[0].toNat := by
  cases l with
  | nil => simp at h
  | cons x r => simp [de]
theorem de_two {l : List UInt8} (h : 1 < l.length) : de (l.take 2) = l[0].toNat * 256 + l[1].toNat := by
  match l, h with
  | x :: y :: r, _ => simp [de]
theorem de_four {l : List UInt8} (h : 3 < l.length) : de (l.take 4) = ((l[0].toNat * 256 + l[1].toNat) * 256 + l[2].toNat) * 256 + l[3].toNat := by
  match l, h with
  | x :: y :: z :: u :: r, _ => simp [de]
theorem kd_get {s : ByteArray} (h : 0 < s.size) : kd s.data.toList = s[0].toNat := by
  unfold kd
  rw [de_one (by rw [size_len]; exact h), get_len h]
theorem cn_get {s : ByteArray} (h : 2 < s.size) : cn s.data.toList = s[1].toNat * 256 + s[2].toNat := by
  unfold cn
  rw [de_two (by rw [List.length_drop, size_len]; omega), List.getElem_drop, List.getElem_drop, get_len (by omega), get_len (by omega)]
theorem ln_get {s : ByteArray} (h : 6 < s.size) : ln s.data.toList = ((s[3].toNat * 256 + s[4].toNat) * 256 + s[5].toNat) * 256 + s[6].toNat := by
  unfold ln
  rw [de_four (by rw [List.length_drop, size_len]; omega), List.getElem_drop, List.getElem_drop, List.getElem_drop, List.getElem_drop, get_len (by omega), get_len (by omega), get_len (by omega), get_len (by omega)]
theorem lst_get {s : ByteArray} {n : Nat} (hn : ln s.data.toList = n) (h : 7 + n < s.size) : lst s.data.toList = s[7 + n].toNat := by
  subst hn
  unfold lst
  rw [de_one (by rw [List.length_drop, size_len]; omega), List.getElem_drop, get_len (by omega)]
  rfl

set_option maxRecDepth 100000 in
set_option maxHeartbeats 4000000 in
theorem rnext_nil (w : World) : Calls Try.prog 34 #[.string ⟨#[]⟩] w (NextR [] w) := by
  go_enter Try.func34, Try.ntmps34
  go_wp2_with fail
  refine bodyPost_ret (v := .tuple #[.agg #[.int .i64 0, .int .i64 0, .slice none 0 0], .int .i64 0, .int .i64 3]) (by simp [results, Try.results34, go_sem, *]) rfl ?_
  exact ⟨(Below.refl _ _).alloc (Nat.le_refl _) _, .inl ⟨by unfold nextP; rw [if_pos (by simp)], rfl⟩⟩

set_option maxRecDepth 100000 in
set_option maxHeartbeats 4000000 in
theorem rnext_kind (s : ByteArray) (hl : s.size ≤ 100000) (h0 : 0 < s.size) (hk : ¬ KindOk (kd s.data.toList)) (w : World) :
    Calls Try.prog 34 #[.string s] w (NextR s.data.toList w) := by
  have i0 : (0 : Int) < (s.size : Int) := by omega
  have HN := Lib.hid (show nextP s.data.toList = .never by unfold nextP; rw [size_len, if_neg (by omega), if_pos hk])
  rw [kd_get h0] at hk
  have hk2 : (s[0].toNat : Int) < 1 ∨ (¬ (s[0].toNat : Int) < 1 ∧ (3 : Int) < (s[0].toNat : Int)) := by unfold KindOk at hk; omega
  have hk8 : ((s[0].toNat : Int) == 8) = false := by rw [beq_eq_false_iff_ne]; unfold KindOk at hk; omega
  have hn8 : ((s[0].toNat : Int) != 8) = true := by rw [bne_iff_ne]; unfold KindOk at hk; omega
  clear hk
  rcases hk2 with hk2 | ⟨hk3, hk2⟩
  all_goals
    go_enter Try.func34, Try.ntmps34
    go_wp2_with fail
    refine bodyPost_ret (v := .tuple #[.agg #[.int .i64 0, .int .i64 0, .slice none 0 0], .int .i64 0, .int .i64 501]) (by simp [results, Try.results34, go_sem, *]) rfl ?_
    exact ⟨(Below.refl _ _).alloc (Nat.le_refl _) _, .inr (.inl ⟨HN.out, rfl⟩)⟩

/-- four bytes as one number. -/
theorem or_four (a b c d : UInt8) : bits .or .i64 (bits .or .i64 (bits .or .i64 ((a.toNat : Int) * 16777216) ((b.toNat : Int) * 65536)) ((c.toNat : Int) * 256)) (d.toNat : Int) = ((((a.toNat * 256 + b.toNat) * 256 + c.toNat) * 256 + d.toNat : Nat) : Int) := by
  have ha := a.toNat_lt
  have hb := b.toNat_lt
  have hc := c.toNat_lt
  have hd := d.toNat_lt
  have e1 : bits .or .i64 ((a.toNat : Int) * 16777216) ((b.toNat : Int) * 65536) = ((a.toNat * 16777216 + b.toNat * 65536 : Nat) : Int) := by
    rw [show ((a.toNat : Int) * 16777216) = ((a.toNat * 16777216 : Nat) : Int) by omega, show ((b.toNat : Int) * 65536) = ((b.toNat * 65536 : Nat) : Int) by omega, or_i64 _ _ (by omega) (by omega)]
    congr 1
    rw [show a.toNat * 16777216 = a.toNat <<< 24 by rw [Nat.shiftLeft_eq], ← Nat.shiftLeft_add_eq_or_of_lt (by omega)]
  rw [e1]
  have e2 : bits .or .i64 ((a.toNat * 16777216 + b.toNat * 65536 : Nat) : Int) ((c.toNat : Int) * 256) = ((a.toNat * 16777216 + b.toNat * 65536 + c.toNat * 256 : Nat) : Int) := by
    rw [show ((c.toNat : Int) * 256) = ((c.toNat * 256 : Nat) : Int) by omega, or_i64 _ _ (by omega) (by omega)]
    congr 1
    rw [show a.toNat * 16777216 + b.toNat * 65536 = (a.toNat * 256 + b.toNat) <<< 16 by rw [Nat.shiftLeft_eq]; omega, ← Nat.shiftLeft_add_eq_or_of_lt (by omega)]
  rw [e2, or_i64 _ _ (by omega) (by omega)]
  congr 1
  rw [show a.toNat * 16777216 + b.toNat * 65536 + c.toNat * 256 = ((a.toNat * 256 + b.toNat) * 256 + c.toNat) <<< 8 by rw [Nat.shiftLeft_eq]; omega, ← Nat.shiftLeft_add_eq_or_of_lt (by omega)]
  rw [Nat.shiftLeft_eq]

/-- while the answer is laid: its box, what was there. -/
def RgS (w : World) (wx : World) : Prop := (∃ x y z, wx.heap[w.heap.size]? = some (.cells #[x, y, z] 48 (0, 0))) ∧ Below w.heap.size w wx
@[reducible] def RgF (w : World) (wx : World) : Prop :=
  (wx.cell? ⟨w.heap.size, 0, none⟩ = some (cellD wx w.heap.size 0) ∧ wx.cell? ⟨w.heap.size, 1, none⟩ = some (cellD wx w.heap.size 1) ∧ wx.cell? ⟨w.heap.size, 2, none⟩ = some (cellD wx w.heap.size 2)) ∧
    (wx.frozen? ⟨w.heap.size, 0, none⟩ = false ∧ wx.frozen? ⟨w.heap.size, 1, none⟩ = false ∧ wx.frozen? ⟨w.heap.size, 2, none⟩ = false) ∧ RgS w wx
theorem RgS.full {w wx : World} (h : RgS w wx) : RgF w wx := by
  have hh := h
  obtain ⟨⟨x, y, z, h2⟩, h3⟩ := h
  obtain ⟨c0, c1, c2⟩ := cells3 h2
  refine ⟨⟨by simp [cellD, c0], by simp [cellD, c1], by simp [cellD, c2]⟩, ⟨?_, ?_, ?_⟩, hh⟩
  all_goals simp [World.frozen?, h2]
theorem RgS.below {w wx wy : World} (h : RgS w wx) (hb : Below wx.heap.size wx wy) : RgS w wy := by
  obtain ⟨⟨x, y, z, h2⟩, h3⟩ := h
  exact ⟨⟨x, y, z, (hb.block _ (Array.getElem?_eq_some_iff.1 h2).1).trans h2⟩, h3.trans (hb.mono h3.size)⟩
theorem RgS.set {w wx : World} (h : RgS w wx) (v0 v1 v2 : Value) : RgS w (((wx.setCell ⟨w.heap.size, 0, none⟩ v0).setCell ⟨w.heap.size, 1, none⟩ v1).setCell ⟨w.heap.size, 2, none⟩ v2) := by
  obtain ⟨⟨x, y, z, h2⟩, h3⟩ := h
  refine ⟨⟨v0, v1, v2, ?_⟩, ((h3.setCell (Nat.le_refl _) _).setCell (Nat.le_refl _) _).setCell (Nat.le_refl _) _⟩
  rw [set_heap (set_heap (set_heap h2 0 v0) 1 v1) 2 v2]
  simp
theorem RgS.row {w wx : World} (h : RgS w wx) (v0 v1 v2 : Value) : (((wx.setCell ⟨w.heap.size, 0, none⟩ v0).setCell ⟨w.heap.size, 1, none⟩ v1).setCell ⟨w.heap.size, 2, none⟩ v2).heap[w.heap.size]? = some (.cells #[v0, v1, v2] 48 (0, 0)) := by
  obtain ⟨⟨x, y, z, h2⟩, h3⟩ := h
  rw [set_heap (set_heap (set_heap h2 0 v0) 1 v1) 2 v2]
  simp
theorem bytes_below (wx : World) (e : TypeId) (t : ByteArray) : Below wx.heap.size wx (Lib.bytesWorld wx e t) :=
  ⟨rfl, rfl, rfl, by rw [Lib.bytesWorld_size]; omega, fun k hk => Lib.bytesWorld_at_old wx e t k hk⟩

open Classical in
theorem nextP_eq {L : List UInt8} (h7 : 7 ≤ L.length) (hk : KindOk (kd L)) (hc : FitsN (kd L) (cn L) 65535) :
    nextP L = if ¬ FitsN (kd L) (ln L) 4096 then .never else if L.length < 8 + ln L then .cut else if ¬ lst L = 206 then .never else .got (frm L) (8 + ln L) := by
  unfold nextP
  rw [if_neg (by omega), if_neg (Classical.not_not.2 hk), if_neg (by omega), if_neg (Classical.not_not.2 hc), if_neg (by omega)]
  by_cases h1 : FitsN (kd L) (ln L) 4096
  · rw [if_neg (Classical.not_not.2 h1), if_neg (Classical.not_not.2 h1)]
    by_cases h2 : L.length < 7 + ln L
    · rw [if_pos h2, if_pos (by omega)]
    · rw [if_neg h2]
  · rw [if_pos h1, if_pos h1]
theorem kd_lt (L : List UInt8) : kd L < 256 := de_lt1 L
theorem cn_lt (L : List UInt8) : cn L < 65536 := de_lt2 _
theorem extract_list {s : ByteArray} {n : Nat} : (s.extract 7 (7 + n)).data.toList = (s.data.toList.drop 7).take n := by
  rw [ByteArray.data_extract, Array.toList_extract]
  simp [List.extract]

set_option maxRecDepth 100000 in
set_option maxHeartbeats 4000000 in
theorem rnext_three (s : ByteArray) (hl : s.size ≤ 100000) (h7 : 7 ≤ s.size) (k1 : 1 ≤ (s[0].toNat : Int)) (k3 : (s[0].toNat : Int) ≤ 3) (w : World) :
    Calls Try.prog 34 #[.string s] w (NextR s.data.toList w) := by
  have hk8 : ((s[0].toNat : Int) == 8) = false := by rw [beq_eq_false_iff_ne]; omega
  have hn8 : ((s[0].toNat : Int) != 8) = true := by rw [bne_iff_ne]; omega
  have i7 : ¬ (s.size : Int) < 7 := by omega
  have j0 : (0 : Int) < (s.size : Int) := by omega
  have j1 : (1 : Int) < (s.size : Int) := by omega
  have j2 : (2 : Int) < (s.size : Int) := by omega
  have j3 : (3 : Int) < (s.size : Int) := by omega
  have j4 : (4 : Int) < (s.size : Int) := by omega
  have j5 : (5 : Int) < (s.size : Int) := by omega
  have j6 : (6 : Int) < (s.size : Int) := by omega
  have j33 : (3 : Int) ≤ (s.size : Int) := by omega
  have b3 := s[3].toNat_lt
  have b4 := s[4].toNat_lt
  have b5 := s[5].toNat_lt
  have b6 := s[6].toNat_lt
  have hor := or_four s[3] s[4] s[5] s[6]
  rw [← ln_get (by omega)] at hor
  obtain ⟨n, hn⟩ : ∃ n, n = ln s.data.toList := ⟨_, rfl⟩
  rw [← hn] at hor
  have HNN := Lib.hid hn
  have hlnb : n < 4294967296 := by rw [hn]; exact de_lt4 _
  clear hn
  have hkd : KindOk (kd s.data.toList) := by rw [kd_get (by omega)]; unfold KindOk; omega
  have hkc : FitsN (kd s.data.toList) (cn s.data.toList) 65535 := by
    have := cn_lt s.data.toList
    rw [kd_get (by omega)]
    unfold FitsN
    omega
  have HNX := Lib.hid (nextP_eq (by rw [size_len]; exact h7) hkd hkc)
  have HK0 := Lib.hid (kd_get (s := s) (by omega))
  clear hkd hkc
  have hbel : Below w.heap.size w (w.alloc (.cells #[.int .i64 0, .int .i64 0, .slice none 0 0] 48)) := (Below.refl _ _).alloc (Nat.le_refl _) _
  have hres : (w.alloc (.cells #[.int .i64 0, .int .i64 0, .slice none 0 0] 48)).heap[w.heap.size]? = some (.cells #[.int .i64 0, .int .i64 0, .slice none 0 0] 48 (0, 0)) := heap_alloc_new w _
  have HBEL := Lib.hid hbel
  have HRES := Lib.hid hres
  clear hbel hres
  go_enter Try.func34, Try.ntmps34
  go_wp2_with fail
  go_quiet (fail)
  have hbel : Below w.heap.size w ((w.alloc (.cells #[.int .i64 0, .int .i64 0, .slice none 0 0] 48)).drewN nq) := ⟨HBEL.out.os, HBEL.out.tape, HBEL.out.output, HBEL.out.size, HBEL.out.block⟩
  have hres : ((w.alloc (.cells #[.int .i64 0, .int .i64 0, .slice none 0 0] 48)).drewN nq).heap[w.heap.size]? = some (.cells #[.int .i64 0, .int .i64 0, .slice none 0 0] 48 (0, 0)) := HRES.out
  generalize (w.alloc (.cells #[.int .i64 0, .int .i64 0, .slice none 0 0] 48)).drewN nq = W at *
  obtain ⟨r0, r1, r2⟩ := cells3 hres
  have f0 : W.frozen? ⟨w.heap.size, 0, none⟩ = false := by simp [World.frozen?, hres]
  have f1 : W.frozen? ⟨w.heap.size, 1, none⟩ = false := by simp [World.frozen?, hres]
  have f2 : W.frozen? ⟨w.heap.size, 2, none⟩ = false := by simp [World.frozen?, hres]
  have HB := Lib.hid hbel
  have HR := Lib.hid hres
  clear hbel hres HBEL HRES hor
  by_cases h4 : (4096 : Int) < (n : Int)
  · have HX := Lib.hid (show nextP s.data.toList = .never by rw [HNX.out, if_pos (by rw [HK0.out, ← HNN.out]; unfold FitsN; omega)])
    go_wp2_with fail
    refine bodyPost_ret (v := .tuple #[.agg #[.int .i64 0, .int .i64 0, .slice none 0 0], .int .i64 0, .int .i64 501]) (by simp [results, Try.results34, go_sem, *]) rfl ?_
    exact ⟨((HB.out.setCell (Nat.le_refl _) _).setCell (Nat.le_refl _) _).setCell (Nat.le_refl _) _, .inr (.inl ⟨HX.out, rfl⟩)⟩
  by_cases h8 : (s.size : Int) < 8 + (n : Int)
  · have HX := Lib.hid (show nextP s.data.toList = .cut by rw [HNX.out, if_neg (Classical.not_not.2 (by rw [HK0.out, ← HNN.out]; unfold FitsN; omega)), if_pos (by rw [size_len, ← HNN.out]; omega)])
    go_wp2_with fail
    refine bodyPost_ret (v := .tuple #[.agg #[.int .i64 0, .int .i64 0, .slice none 0 0], .int .i64 0, .int .i64 3]) (by simp [results, Try.results34, go_sem, *]) rfl ?_
    exact ⟨((HB.out.setCell (Nat.le_refl _) _).setCell (Nat.le_refl _) _).setCell (Nat.le_refl _) _, .inl ⟨HX.out, rfl⟩⟩
  have jn : (7 : Int) + (n : Int) < (s.size : Int) := by omega
  have hlst := lst_get (s := s) (n := n) HNN.out.symm (by omega)
  by_cases h9 : s[7 + n].toNat = 206
  rotate_left
  · have HX := Lib.hid (show nextP s.data.toList = .never by rw [HNX.out, if_neg (Classical.not_not.2 (by rw [HK0.out, ← HNN.out]; unfold FitsN; omega)), if_neg (by rw [size_len, ← HNN.out]; omega), if_pos (by rw [hlst]; exact h9)])
    have hb9 : ((s[7 + n].toNat : Int) != 206) = true := by rw [bne_iff_ne]; omega
    clear hlst
    go_wp2_with fail
    refine bodyPost_ret (v := .tuple #[.agg #[.int .i64 0, .int .i64 0, .slice none 0 0], .int .i64 0, .int .i64 501]) (by simp [results, Try.results34, go_sem, *]) rfl ?_
    exact ⟨((HB.out.setCell (Nat.le_refl _) _).setCell (Nat.le_refl _) _).setCell (Nat.le_refl _) _, .inr (.inl ⟨HX.out, rfl⟩)⟩
  have HX := Lib.hid (show nextP s.data.toList = .got (frm s.data.toList) (8 + ln s.data.toList) by rw [HNX.out, if_neg (Classical.not_not.2 (by rw [HK0.out, ← HNN.out]; unfold FitsN; omega)), if_neg (by rw [size_len, ← HNN.out]; omega), if_neg (by rw [hlst]; exact Classical.not_not.2 h9)])
  have hb9 : ((s[7 + n].toNat : Int) != 206) = false := by rw [h9]; rfl
  have b0 := s[0].toNat_lt
  have b1 := s[1].toNat_lt
  have b2 := s[2].toNat_lt
  have hoc := or_byte s[1].toNat s[2] (by omega)
  rw [← cn_get (by omega)] at hoc
  obtain ⟨ch, hch⟩ : ∃ ch, ch = cn s.data.toList := ⟨_, rfl⟩
  rw [← hch] at hoc
  have HCH := Lib.hid hch
  clear hch hlst
  obtain ⟨t, ht⟩ : ∃ t, s.extract 7 (7 + n) = t := ⟨_, rfl⟩
  have hts : t.size = n := by rw [← ht, ByteArray.size_extract]; omega
  have htd : t.data.toList = (s.data.toList.drop 7).take n := by rw [← ht, extract_list]
  have HTD := Lib.hid htd
  have HTS := Lib.hid hts
  have hcv : ∀ wx, (convert 9 25 (.string t)).run Try.prog wx = .ok (.slice (some ⟨wx.heap.size, 0, none⟩) n (grownCap wx n 0 5)) (Lib.bytesWorld wx 5 t) := by
    intro wx
    have := Lib.run_convert_string_bytes (P := Try.prog) wx 9 25 5 t Try.underlying9 Try.underlying25 Try.underlying5
    rwa [hts] at this
  have hs7 : (7 : Int) + (n : Int) ≤ (s.size : Int) := by omega
  have hs8 : IntKind.i64.wrap ((7 : Int) + (n : Int)) = (7 : Int) + (n : Int) := IntWalk.i64_in _ (by omega)
  have hs9 : IntKind.i64.wrap ((8 : Int) + (n : Int)) = (8 : Int) + (n : Int) := IntWalk.i64_in _ (by omega)
  have hs10 : ((7 : Int) + (n : Int)).toNat = 7 + n := by omega
  have hsl : ∀ wx, (Instr.slice 9 (.string s) (some (.int .i64 7)) (some (.int .i64 ((7 : Int) + (n : Int)))) none).run Try.prog wx = .ok (.string t) wx := by
    intro wx
    have := run_slice_string (P := Try.prog) (w := wx) 9 s .i64 .i64 7 ((7 : Int) + (n : Int)) Try.underlying9 (by omega) (by omega) (by omega)
    rw [this, hs10]
    show Result.ok (Value.string (s.extract 7 (7 + n))) wx = _
    rw [ht]
  have v0 : IntKind.i64.wrap (s[0].toNat : Int) = (s[0].toNat : Int) := IntWalk.i64_in _ (by omega)
  have v1 : IntKind.i64.wrap (s[1].toNat : Int) = (s[1].toNat : Int) := IntWalk.i64_in _ (by omega)
  have v2 : IntKind.i64.wrap (s[2].toNat : Int) = (s[2].toNat : Int) := IntWalk.i64_in _ (by omega)
  have v3 : IntKind.i64.wrap ((s[1].toNat : Int) * 256) = (s[1].toNat : Int) * 256 := IntWalk.i64_in _ (by omega)
  have hbw := bytes_below W.drew 5 t
  have hres2 : (Lib.bytesWorld W.drew 5 t).heap[w.heap.size]? = some (.cells #[.int .i64 0, .int .i64 0, .slice none 0 0] 48 (0, 0)) := (hbw.block _ (Array.getElem?_eq_some_iff.1 HR.out).1).trans HR.out
  obtain ⟨g0, g1, g2⟩ := cells3 hres2
  have p0 : (Lib.bytesWorld W.drew 5 t).frozen? ⟨w.heap.size, 0, none⟩ = false := by simp [World.frozen?, hres2]
  have p1 : (Lib.bytesWorld W.drew 5 t).frozen? ⟨w.heap.size, 1, none⟩ = false := by simp [World.frozen?, hres2]
  have p2 : (Lib.bytesWorld W.drew 5 t).frozen? ⟨w.heap.size, 2, none⟩ = false := by simp [World.frozen?, hres2]
  have hrg : RgS w (Lib.bytesWorld W.drew 5 t) := ⟨⟨_, _, _, hres2⟩, HB.out.drew.trans (hbw.mono HB.out.size)⟩
  have HRG := Lib.hid hrg
  have hwlt : w.heap.size < W.heap.size := (Array.getElem?_eq_some_iff.1 HR.out).1
  clear htd hts hrg ht hs10 hbw hres2
  go_wp2_with fail
  go_region
  have hrow := HRG.out.row (.int .i64 (s[0].toNat : Int)) (.int .i64 (ch : Int)) (.slice (some ⟨W.heap.size, 0, none⟩) n (grownCap W.drew n 0 5))
  have hset := (HRG.out.set (.int .i64 (s[0].toNat : Int)) (.int .i64 (ch : Int)) (.slice (some ⟨W.heap.size, 0, none⟩) n (grownCap W.drew n 0 5))).2
  have hdat : BytesAt (W.heap.size + 1) ((((Lib.bytesWorld W.drew 5 t).setCell ⟨w.heap.size, 0, none⟩ (.int .i64 (s[0].toNat : Int))).setCell ⟨w.heap.size, 1, none⟩ (.int .i64 (ch : Int))).setCell ⟨w.heap.size, 2, none⟩ (.slice (some ⟨W.heap.size, 0, none⟩) n (grownCap W.drew n 0 5))) (some ⟨W.heap.size, 0, none⟩) ((s.data.toList.drop 7).take n) := by
    intro h0
    refine ⟨W.heap.size, 0, rfl, by omega, fun i hi => ?_⟩
    have hne : W.heap.size ≠ w.heap.size := by omega
    rw [World.cell?_setCell_other _ _ _ _ (fun e => hne (congrArg Addr.block e).symm), World.cell?_setCell_other _ _ _ _ (fun e => hne (congrArg Addr.block e).symm), World.cell?_setCell_other _ _ _ _ (fun e => hne (congrArg Addr.block e).symm), Nat.zero_add]
    have hin : i < n := by rw [List.length_take] at hi; omega
    have := Lib.bytesWorld_cell W.drew 5 t i (by rw [HTS.out]; exact hin)
    rw [HTD.out] at this
    refine Eq.trans this ?_
    rw [List.getD, List.getElem?_eq_getElem hi]
    rfl
  have hsz : ((((Lib.bytesWorld W.drew 5 t).setCell ⟨w.heap.size, 0, none⟩ (.int .i64 (s[0].toNat : Int))).setCell ⟨w.heap.size, 1, none⟩ (.int .i64 (ch : Int))).setCell ⟨w.heap.size, 2, none⟩ (.slice (some ⟨W.heap.size, 0, none⟩) n (grownCap W.drew n 0 5))).heap.size = W.heap.size + 1 := by
    have := Lib.bytesWorld_size W.drew 5 t
    simpa [World.setCell] using this
  have hge := grownCap_ge W.drew n 0 5
  have hgm : grownCap W.drew n 0 5 ≤ maxLen := grownCap_le_maxLen W.drew n 0 5 (by unfold maxLen; omega)
  generalize (((Lib.bytesWorld W.drew 5 t).setCell ⟨w.heap.size, 0, none⟩ (.int .i64 (s[0].toNat : Int))).setCell ⟨w.heap.size, 1, none⟩ (.int .i64 (ch : Int))).setCell ⟨w.heap.size, 2, none⟩ (.slice (some ⟨W.heap.size, 0, none⟩) n (grownCap W.drew n 0 5)) = X at *
  obtain ⟨gc, hgc⟩ : ∃ gc, gc = grownCap W.drew n 0 5 := ⟨_, rfl⟩
  rw [← hgc] at hrow hge hgm
  rw [← hgc]
  obtain ⟨z0, z1, z2⟩ := cells3 hrow
  have HSET := Lib.hid hset
  have HSZ := Lib.hid hsz
  have HDAT := Lib.hid hdat
  clear hgc hset hsz hdat hrow hcv hsl hs8 hs9 v0 v1 v2 v3 g0 g1 g2 p0 p1 p2 hoc
  go_wp2_with fail
  refine bodyPost_ret (v := .tuple #[.agg #[.int .i64 (s[0].toNat : Int), .int .i64 (ch : Int), .slice (some ⟨W.heap.size, 0, none⟩) n gc], .int .i64 ((8 + n : Nat) : Int), .int .i64 0]) (by simp [results, Try.results34, go_sem, *]) rfl ?_
  have hfl : (frm s.data.toList).data.length = n := by
    show ((s.data.toList.drop 7).take (ln s.data.toList)).length = n
    rw [List.length_take, List.length_drop, size_len, ← HNN.out]
    omega
  refine ⟨HSET.out, .inr (.inr ⟨_, _, some ⟨W.heap.size, 0, none⟩, gc, HX.out, ?_, ?_, hgm, ?_, ?_⟩)⟩
  · rw [hfl, ← HNN.out]
    show _ = Ending.returned (.tuple #[Value.agg #[.int .i64 ((kd s.data.toList : Nat) : Int), .int .i64 ((cn s.data.toList : Nat) : Int), _], _, _])
    rw [HK0.out, ← HCH.out]
    try rfl
  · rw [hfl]; exact hge
  · rw [HSZ.out]
    show BytesAt _ _ _ ((s.data.toList.drop 7).take (ln s.data.toList))
    rw [← HNN.out]
    exact HDAT.out
  · intro x hx
    cases hx
    show w.heap.size ≤ W.heap.size
    omega

end Go.Proofs.Ytpibbgencojbgaa
