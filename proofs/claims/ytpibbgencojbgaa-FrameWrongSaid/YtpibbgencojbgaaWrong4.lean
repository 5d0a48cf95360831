/-
  FrameWrong.
-/
import Derived.Test.YtpibbgencojbgaaTold4
import Derived.Test.YtpibbgencojbgaaArg4
import Derived.Deep.LoopGhost
namespace Go.Proofs.Ytpibbgencojbgaa
open Go.RowKit
set_option linter.unusedVariables false

theorem Buf.below {w w' : World} {base : Nat} {v : Value} {l : List UInt8} (h : Buf w base v l) (hb : Below w.heap.size w w') : Buf w' base v l := World.ownsRow.below1 h hb
theorem flat_snoc {l : List Fr} {i : Nat} (h : i < l.length) : (l.take (i + 1)).flatMap putF = (l.take i).flatMap putF ++ putF l[i] := by
  rw [List.take_succ_eq_append_getElem h, List.flatMap_append]
  simp
theorem flat_le {l : List Fr} {k : Nat} (h : ∀ f ∈ l, (putF f).length ≤ k) : (l.flatMap putF).length ≤ l.length * k := by
  induction l with
  | nil => simp
  | cons f r ih =>
    rw [List.flatMap_cons, List.length_append, List.length_cons]
    have h1 := h f (by simp)
    have h2 := ih (fun g hg => h g (by simp [hg]))
    rw [Nat.add_mul]
    omega
def wrongRel (W : World) (l : List Fr) (n : Nat) (v7 v8 : Value) (wr : World) : Prop :=
  ∃ i : Nat, i ≤ l.length ∧ n = l.length - i ∧ v8 = .int .i64 i ∧ Below W.heap.size W wr ∧ Buf wr W.heap.size v7 ((l.take i).flatMap putF) ∧ ∀ f ∈ l.take i, MayF f ∧ (putF f).length ≤ 208

set_option maxRecDepth 100000 in
set_option maxHeartbeats 8000000 in
theorem wrong_no (a0 : Option Addr) (cap0 : Nat) (l0 : List Fr) (c : UInt8) (a2 : Option Addr) (m cap2 : Nat) (w : World) (hl : l0.length ≤ maxLen) (hm : m ≤ maxLen)
    (h : ¬ (l0.length ≤ 6 ∧ m ≤ 50 ∧ ¬ c = 1 ∧ ¬ c = 2 ∧ ¬ c = 3 ∧ ¬ c = 8)) :
    Calls Try.prog 14 #[.slice a0 l0.length cap0, .int .u8 c.toNat, .slice a2 m cap2] w fun e w' => e = .returned (.bool true) ∧ Below w.heap.size w w' := by
  unfold maxLen at hl hm
  have hc : ((6 : Int) < l0.length) ∨ ((l0.length : Int) ≤ 6 ∧ (50 : Int) < m) ∨ ((l0.length : Int) ≤ 6 ∧ (m : Int) ≤ 50 ∧ (c = 1 ∨ c = 2 ∨ c = 3 ∨ c = 8)) := by
    by_cases h1 : (6 : Int) < l0.length
    · exact .inl h1
    · by_cases h2 : (50 : Int) < m
      · exact .inr (.inl ⟨by omega, h2⟩)
      · refine .inr (.inr ⟨by omega, by omega, ?_⟩)
        by_cases e1 : c = 1
        · exact .inl e1
        by_cases e2 : c = 2
        · exact .inr (.inl e2)
        by_cases e3 : c = 3
        · exact .inr (.inr (.inl e3))
        by_cases e8 : c = 8
        · exact .inr (.inr (.inr e8))
        · exact absurd ⟨by omega, by omega, e1, e2, e3, e8⟩ h
  clear h
  rcases hc with h1 | ⟨h1, h2⟩ | ⟨h1, h2, rfl | rfl | rfl | rfl⟩
  · go_enter Try.func14, Try.ntmps14
    go_wp2_with fail
    refine (told_any _).mono ?_
    rintro e w1 ⟨rfl, hb⟩
    have HB := Lib.hid hb
    clear hb
    go_wp2_with fail
    go_ret
    exact ⟨rfl, HB.out⟩
  · go_enter Try.func14, Try.ntmps14
    go_wp2_with fail
    refine (told_any _).mono ?_
    rintro e w1 ⟨rfl, hb⟩
    have HB := Lib.hid hb
    clear hb
    go_wp2_with fail
    go_ret
    exact ⟨rfl, HB.out⟩
  · go_enter Try.func14, Try.ntmps14
    go_wp2_with fail
    refine (told_any _).mono ?_
    rintro e w1 ⟨rfl, hb⟩
    have HB := Lib.hid hb
    clear hb
    go_wp2_with fail
    go_ret
    exact ⟨rfl, HB.out⟩
  · go_enter Try.func14, Try.ntmps14
    go_wp2_with fail
    refine (told_any _).mono ?_
    rintro e w1 ⟨rfl, hb⟩
    have HB := Lib.hid hb
    clear hb
    go_wp2_with fail
    go_ret
    exact ⟨rfl, HB.out⟩
  · go_enter Try.func14, Try.ntmps14
    go_wp2_with fail
    refine (told_any _).mono ?_
    rintro e w1 ⟨rfl, hb⟩
    have HB := Lib.hid hb
    clear hb
    go_wp2_with fail
    go_ret
    exact ⟨rfl, HB.out⟩
  · go_enter Try.func14, Try.ntmps14
    go_wp2_with fail
    refine (told_any _).mono ?_
    rintro e w1 ⟨rfl, hb⟩
    have HB := Lib.hid hb
    clear hb
    go_wp2_with fail
    go_ret
    exact ⟨rfl, HB.out⟩
set_option maxRecDepth 100000 in
set_option maxHeartbeats 8000000 in
theorem wrong_yes (a0 : Option Addr) (cap0 : Nat) (l0 : List Fr) (c : UInt8) (a2 : Option Addr) (cap2 : Nat) (more : List UInt8) (w : World) (w0 : FrsAt w a0 cap0 l0) (w2 : BytesAt w.heap.size w a2 more)
    (h6 : l0.length ≤ 6) (h50 : more.length ≤ 50) (n1 : ¬ c.toNat = 1) (n2 : ¬ c.toNat = 2) (n3 : ¬ c.toNat = 3) (n8 : ¬ c.toNat = 8) :
    Calls Try.prog 14 #[.slice a0 l0.length cap0, .int .u8 c.toNat, .slice a2 more.length cap2] w fun e w' => e = .returned (.bool true) ∧ Below w.heap.size w w' := by
  have hnk : ¬ KindOk c.toNat := by unfold KindOk; omega
  have HNK := Lib.hid hnk
  have HF := Lib.hid w0
  have HM := Lib.hid w2
  have b1 : ((c.toNat : Int) == 1) = false := by rw [beq_eq_false_iff_ne]; omega
  have b2 : ((c.toNat : Int) == 2) = false := by rw [beq_eq_false_iff_ne]; omega
  have b3 : ((c.toNat : Int) == 3) = false := by rw [beq_eq_false_iff_ne]; omega
  have b8 : ((c.toNat : Int) == 8) = false := by rw [beq_eq_false_iff_ne]; omega
  have i6 : (l0.length : Int) ≤ 6 := by omega
  have i50 : (more.length : Int) ≤ 50 := by omega
  have hcap := w0.max
  have hlen := w0.len
  unfold maxLen at hcap
  clear hnk w0 w2 n1 n2 n3 n8
  go_enter Try.func14, Try.ntmps14
  go_wp2_with fail
  go_loopg [7, 8] l0.length (wrongRel w l0)
  case atStart => exact ⟨0, Nat.zero_le _, rfl, rfl, Below.refl _ _, by simpa using Buf.nil w w.heap.size, by simp⟩
  case round =>
    obtain ⟨i, hi, rfl, rfl, hb, hbuf, hok⟩ := hrel
    have HB := Lib.hid hb
    have HBUF := Lib.hid hbuf
    have HOK := Lib.hid hok
    clear hb hbuf hok
    by_cases hlt : i < l0.length
    · have hlti : (i : Int) < (l0.length : Int) := by omega
      have h0i : (0 : Int) ≤ (i : Int) := by omega
      obtain ⟨b, o, da, dc, rfl, hbw, c0, c1, c2, hdl, hdm, hdat⟩ := (HF.out.below HB.out).get i hlt
      have HPUT := Lib.hid (put_any wr.heap.size l0[i] da dc hdl hdm wr (Nat.le_refl _) hdat)
      have HS := Lib.hid (flat_snoc hlt)
      clear hdl hdm hdat
      go_wp2_with fail
      refine HPUT.out.mono ?_
      rintro e w1 ⟨hb1, h⟩
      have HB1 := Lib.hid (HB.out.trans (hb1.mono HB.out.size))
      have HBUF1 := Lib.hid (HBUF.out.below hb1)
      have hsz1 := hb1.size
      clear hb1 HBUF HB c0 c1 c2 HPUT
      rcases h with ⟨hno, rfl⟩ | ⟨hm, v, rfl, hbuf⟩
      · clear hno
        go_wp2_with fail
        refine (told_any _).mono ?_
        rintro e w2 ⟨rfl, hb2⟩
        have HB2 := Lib.hid (HB1.out.trans (hb2.mono HB1.out.size))
        clear hb2
        go_wp2_with fail
        go_ret
        exact ⟨rfl, HB2.out⟩
      have hpl := putF_length l0[i]
      obtain ⟨gb, cb, rfl, hgb, hbb⟩ := hbuf.bytes1 (by omega)
      rw [hpl]
      obtain ⟨d, hd⟩ : ∃ d, d = l0[i].data.length := ⟨_, rfl⟩
      rw [← hd] at hpl ⊢
      have HBB := Lib.hid hbb
      have HMAY := Lib.hid hm
      have HPL := Lib.hid hpl.symm
      clear hbuf hbb hm hpl hd
      by_cases h200 : (208 : Int) < (d : Int) + 8
      · go_wp2_with fail
        refine (told_any _).mono ?_
        rintro e w2 ⟨rfl, hb2⟩
        have HB2 := Lib.hid (HB1.out.trans (hb2.mono HB1.out.size))
        clear hb2
        go_wp2_with fail
        go_ret
        exact ⟨rfl, HB2.out⟩
      have hfl : ((l0.take i).flatMap putF).length ≤ 2000 := by
        have h1 := flat_le (l := l0.take i) (k := 208) (fun f hf => (HOK.out f hf).2)
        have h2 : (l0.take i).length ≤ 6 := by simp; omega
        have : (l0.take i).length * 208 ≤ 6 * 208 := Nat.mul_le_mul_right _ h2
        omega
      have hfp : ((l0.take i).flatMap putF).length + (putF l0[i]).length ≤ 1000000 := by have := HPL.out; omega
      have hbs1 : w.heap.size ≤ w1.heap.size := HB1.out.size
      have e1 : IntKind.i64.wrap ((i : Int) + 1) = (i : Int) + 1 := IntWalk.i64_in _ (by omega)
      go_wp2_with (at_builtin; refine put_bytes (base := w.heap.size) (w := w1) (m := putF l0[i]) rfl (.tmp 61) (.tmp 62) rfl HBUF1.out hbs1 HBB.out.at hfp HPL.out rfl rfl ?_; intro v2 w2 hb2 hon2; have HBUF2 := Lib.hid hb2; have HON2 := Lib.hid hon2; clear hb2 hon2)
      go_roundg (l0.length - (i + 1))
      case measure => omega
      case rel =>
        have hb2 := HBUF2.out
        rw [← HS.out] at hb2
        refine ⟨i + 1, by omega, rfl, by simp, HB1.out.trans ((HON2.out.below HBUF1.out hbs1)), hb2, fun f hf => ?_⟩
        rw [List.take_succ_eq_append_getElem hlt, List.mem_append, List.mem_singleton] at hf
        rcases hf with hf | rfl
        · exact HOK.out f hf
        · exact ⟨HMAY.out, by have := HPL.out; omega⟩
    · obtain rfl : i = l0.length := by omega
      rw [List.take_length] at HOK HBUF
      obtain ⟨a7, c7, rfl, hl7, hm7⟩ := HBUF.out.form
      have hfl : (l0.flatMap putF).length ≤ 2000 := by
        have h1 := flat_le (l := l0) (k := 208) (fun f hf => (HOK.out f hf).2)
        have : l0.length * 208 ≤ 6 * 208 := Nat.mul_le_mul_right _ h6
        omega
      obtain ⟨N, hN⟩ : ∃ N, N = (l0.flatMap putF).length := ⟨_, rfl⟩
      rw [← hN] at hl7 hfl ⊢
      have HN := Lib.hid hN
      clear hN
      unfold maxLen at hm7
      have hbs : w.heap.size ≤ wr.heap.size := HB.out.size
      have hlit : Buf (wr.alloc (.cells #[] 5)) wr.heap.size (.slice (some ⟨wr.heap.size, 0, none⟩) 0 0) [] := World.ownsRow_lit wr #[] 0 (Nat.le_refl _) (by decide) (by simp)
      have hba : Below wr.heap.size wr (wr.alloc (.cells #[] 5)) := (Below.refl _ _).alloc (Nat.le_refl _) _
      have hsrc : BytesAt (wr.alloc (.cells #[] 5)).heap.size (wr.alloc (.cells #[] 5)) a7 (l0.flatMap putF) := by
        obtain ⟨a', c', he, _, _, hat⟩ := (HBUF.out.below hba).bytes
        obtain ⟨rfl, -, rfl⟩ := Value.slice.inj he
        exact hat
      have HLIT := Lib.hid hlit
      have HBA := Lib.hid hba
      have HSRC := Lib.hid hsrc
      have hszl : wr.heap.size ≤ (wr.alloc (.cells #[] 5)).heap.size := by simp
      have hfp : (([] : List UInt8)).length + (l0.flatMap putF).length ≤ 1000000 := by have := HN.out; rw [List.length_nil]; omega
      clear hlit hba hsrc
      have HBW := Lib.hid HB.out
      go_wp2_with (at_builtin; first
        | (refine put_bytes (base := wr.heap.size) (w := wr.alloc (.cells #[] 5)) (l := []) (m := l0.flatMap putF) rfl (.tmp 65) (.tmp 66) rfl HLIT.out hszl HSRC.out hfp HN.out rfl rfl ?_; intro v2 w2 hb2 hon2; rw [List.nil_append] at hb2; have HBUF2 := Lib.hid hb2; have hbel2 := HBA.out.trans (hon2.below HLIT.out hszl); have hsz2 := hbel2.size; have HBEL2 := Lib.hid hbel2; have hl2 : (l0.flatMap putF).length ≤ 1000000 := (by have := HN.out; omega); clear hb2 hon2 hbel2 HLIT HSRC HBA)
        | (refine put_one (w := w2) rfl (.tmp 67) (.tmp 69) rfl HBUF2.out hsz2 hl2 c rfl rfl _ rfl rfl ?_; intro v3 w3 hb3 hon3; have HBUF3 := Lib.hid hb3; have hbel3 := HBEL2.out.trans (hon3.below HBUF2.out hsz2); have hsz3 := hbel3.size; have HBEL3 := Lib.hid hbel3; have hsrc3 := HM.out.under (HBW.out.trans (hbel3.mono HBW.out.size)); have HSRC3 := Lib.hid hsrc3; have hl3 : (l0.flatMap putF ++ [c]).length + more.length ≤ 1000000 := (by rw [List.length_append, List.length_singleton]; have := HN.out; omega); clear hb3 hon3 hbel3 hsrc3)
        | (refine put_bytes (base := wr.heap.size) (w := w3) (m := more) rfl (.tmp 70) (.tmp 71) rfl HBUF3.out hsz3 HSRC3.out hl3 rfl rfl rfl ?_; intro v4 w4 hb4 hon4; have HBUF4 := Lib.hid hb4; have HBEL4 := Lib.hid (HBEL3.out.trans (hon4.below HBUF3.out hsz3)); clear hb4 hon4))
      obtain ⟨a4, c4, rfl, hl4, hm4, hat4⟩ := HBUF4.out.bytes
      refine (all_any (B := w4.heap.size) a4 c4 (l0.flatMap putF ++ [c] ++ more) hl4 hm4 (by simp only [List.length_append, List.length_singleton]; have := HN.out; omega) w4 (Nat.le_refl _) hat4).mono ?_
      rintro e w5 ⟨hb5, a5, c5, he, hfr⟩
      have hall : allP ((l0.flatMap putF ++ [c] ++ more).length + 1) (l0.flatMap putF ++ [c] ++ more) = (l0, (l0.flatMap putF).length, 501) := by
        rw [show l0.flatMap putF ++ [c] ++ more = l0.flatMap putF ++ (c :: more) by simp]
        rw [allP_puts l0 (c :: more) _ (fun f hf => (HOK.out f hf).1) (by omega), allP_never (by simp) (nextP_kind HNK.out)]
        simp
      rw [hall] at he
      obtain rfl : e = .returned (.tuple #[.slice a5 l0.length c5, .int .i64 (l0.flatMap putF).length, .int .i64 501]) := he
      rw [← HN.out]
      have HB5 := Lib.hid (HBW.out.trans ((HBEL4.out.trans (hb5.mono HBEL4.out.size)).mono HBW.out.size))
      clear hb5 hfr hall hl4 hm4 hat4 HBUF4 HBEL4 HBUF3 HBEL3 HSRC3 HBUF2 HBEL2
      go_wp2_with fail
      refine (told_any _).mono ?_
      rintro e w6 ⟨rfl, hb6⟩
      have HB6 := Lib.hid (HB5.out.trans (hb6.mono HB5.out.size))
      clear hb6
      go_wp2_with fail
      go_ret
      exact ⟨rfl, HB6.out⟩

theorem wrong_any (a0 : Option Addr) (cap0 : Nat) (l0 : List Fr) (p1 : Int) (a2 : Option Addr) (len2 cap2 : Nat) (z2 : List Int) (w : World) (w0 : FrsAt w a0 cap0 l0) (w1 : (Lit.int .u8 p1).wf = true) (w2 : IsRow .u8 w a2 len2 cap2 z2) :
    Calls Try.prog 14 #[.slice a0 l0.length cap0, .int .u8 p1, .slice a2 len2 cap2] w fun e w' => e = .returned (.bool true) ∧ Below w.heap.size w w' := by
  obtain ⟨c, rfl⟩ := byte_of (in_u8 w1)
  obtain ⟨more, rfl, a', c', hv, hm1, hm2, hm3⟩ := bytes_of_row w2
  obtain ⟨rfl, -, rfl⟩ := Value.slice.inj hv
  by_cases h : l0.length ≤ 6 ∧ more.length ≤ 50 ∧ ¬ c = 1 ∧ ¬ c = 2 ∧ ¬ c = 3 ∧ ¬ c = 8
  · obtain ⟨h1, h2, n1, n2, n3, n8⟩ := h
    exact wrong_yes a0 cap0 l0 c a2 cap2 more w w0 hm3 h1 h2 (fun e => n1 (UInt8.toNat_inj.1 (by rw [e]; rfl))) (fun e => n2 (UInt8.toNat_inj.1 (by rw [e]; rfl))) (fun e => n3 (UInt8.toNat_inj.1 (by rw [e]; rfl))) (fun e => n8 (UInt8.toNat_inj.1 (by rw [e]; rfl)))
  · exact wrong_no a0 cap0 l0 c a2 more.length cap2 w (Nat.le_trans w0.len w0.max) (Nat.le_trans hm1 hm2) h

end Go.Proofs.Ytpibbgencojbgaa
