/-
  Law ChannelPrefetch, walked.
-/
import Derived.Test.YtiobcgolcoocnaaGreatDoorChQos
import Derived.Test.YtiobcgolcoocnaaGreatDoorChQue
namespace Go.Proofs.YtiobcgolcoocnaaGreatDoor.Ch
open Go.RowKit Rg Sh Bt
set_option linter.unusedVariables false
set_option linter.unusedSimpArgs false

/-- tags from 1 on. -/
def stp (n : Nat) : List Int := (List.range n).map fun (j : Nat) => (j : Int) + 1
theorem stp_len (n : Nat) : (stp n).length = n := by simp [stp]
theorem stp_succ (n : Nat) : stp n ++ [(n : Int) + 1] = stp (n + 1) := by unfold stp; rw [List.range_succ, List.map_append]; rfl
theorem stp_up (n : Nat) : Cr.Up (stp n) := by
  intro a b ha hb h
  simp only [stp, List.getElem_map, List.getElem_range]
  omega
theorem stp_to : ∀ n, n < 21 → 1 ≤ n → Cr.toF (stp n) n true = n := by decide
theorem free_pos {m n : Nat} (h : n < m) : ¬ Cr.freeF m n = 0 := by unfold Cr.freeF; rw [if_neg (by omega)]; omega
theorem free_none {m n : Nat} (hm : 0 < m) (h : m ≤ n) : Cr.freeF m n = 0 := by unfold Cr.freeF; rw [if_neg (by omega)]; omega

theorem cr_kept {B : Nat} {w w' : World} {k g : Nat} {lim last : Int} {l : List Int} {v : Value} (h : Cr.CrO B w k lim last l v) (hg : g < B) (hk : Kept [g] w w') : Cr.CrO B w' k lim last l v :=
  CrO.stay h (hk.block k (box_lt h.bx).1 (by have := h.lo; simp; omega)) fun j hj => by
    obtain ⟨hB, cur, hc⟩ := h.own.block hj
    exact hk.block j (box_lt hc).1 (by simp; omega)
theorem own_cr {B B' : Nat} {w w' : World} {k : Nat} {lim last : Int} {l : List Int} {v q : Value} {ls : List (List UInt8)} (ho : OwnS w B' q ls) (h : Cr.CrO B w k lim last l v) (hk : Kept (wrt k v) w w') : OwnS w' B' q ls :=
  hk.row ho fun j hj hm => by
    rcases mem_wrt.1 hm with rfl | h9
    · exact own_box ho h.bx (by decide) hj
    · obtain ⟨-, cur, hc⟩ := h.own.block h9
      exact own_box ho hc (by decide) hj
theorem kept_cr {B g : Nat} {w w1 w2 : World} {k : Nat} {lim last : Int} {l : List Int} {v : Value} (hb : Below g w w1) (h : Cr.CrO B w1 k lim last l v) (hg : g ≤ B) (hk : Kept (wrt k v) w1 w2) : Below g w w2 :=
  hb.trans (hk.below (by have := h.lo; have := (box_lt h.bx).1; omega) fun b hm => by
    rcases mem_wrt.1 hm with rfl | h9
    · have := h.lo; omega
    · have := (h.own.block h9).1; omega)
theorem kept_k {k : Nat} {v : Value} {w w' : World} (h : Kept [k] w w') : Kept (wrt k v) w w' := h.mono fun x hx => mem_wrt.2 (.inl (by simpa using hx))

theorem own_g {w w' : World} {g B : Nat} {v : Value} {ls : List (List UInt8)} {st : Int} {x b q c p : Value} {cf tx : Bool} (h1 : OwnS w B v ls) (h2 : ChB w g st x b q c p cf tx) (hk : Kept [g] w w') : OwnS w' B v ls :=
  hk.row h1 fun j hj hm => by
    obtain rfl : j = g := by simpa using hm
    exact own_box h1 h2 (by decide) hj
/-- what holds between two calls. -/
structure PfS (w : World) (g k : Nat) (M : Nat) (qa : Option Addr) (qc : Nat) (ca : Option Addr) (cc : Nat) (wr : World) (last : Int) (l : List Int) (v : Value) : Prop where
  ch : ChB wr g 1 (.slice none 0 0) (.slice none 0 0) (.slice qa 1 qc) (.slice ca 1 cc) (.pointer (some ⟨k, 0, none⟩)) false false
  q : OwnS wr g (.slice qa 1 qc) [[113]]
  c : OwnS wr g (.slice ca 1 cc) [[116]]
  cr : Cr.CrO (g + 1) wr k M last l v
  be : Below g w wr
theorem PfS.below {w : World} {g k M : Nat} {qa : Option Addr} {qc : Nat} {ca : Option Addr} {cc : Nat} {wr w' : World} {last : Int} {l : List Int} {v : Value} (h : PfS w g k M qa qc ca cc wr last l v) (hb : Below wr.heap.size wr w') : PfS w g k M qa qc ca cc w' last l v :=
  ⟨h.ch.below hb, h.q.below1 hb, h.c.below1 hb, h.cr.below hb, h.be.trans (hb.mono (Nat.le_of_lt h.ch.lt))⟩
theorem PfS.kept {w : World} {g k M : Nat} {qa : Option Addr} {qc : Nat} {ca : Option Addr} {cc : Nat} {wr w' : World} {last last' : Int} {l l' : List Int} {v v' : Value} (h : PfS w g k M qa qc ca cc wr last l v) (hk : Kept (wrt k v) wr w') (hc : Cr.CrO (g + 1) w' k M last' l' v') : PfS w g k M qa qc ca cc w' last' l' v' :=
  ⟨cr_ch h.ch h.cr hk, own_cr h.q h.cr hk, own_cr h.c h.cr hk, hc, kept_cr h.be h.cr (by omega) hk⟩
theorem st_of {w : World} {B n cap : Nat} {a : Option Addr} {s : List UInt8} (h : OwnS w B (.slice a n cap) [s]) : StAt w a cap [s] := by
  obtain ⟨a', c', he, hat, -⟩ := OwnE.at stE h
  injection he with e1 _ e3
  subst e1 e3
  exact hat
def pfRel (w : World) (g k M K : Nat) (qa : Option Addr) (qc : Nat) (ca : Option Addr) (cc : Nat) (m : Nat) (v14 : Value) (wr : World) : Prop :=
  ∃ i : Nat, i ≤ K ∧ m = K - i ∧ v14 = .int .i64 ((i : Int) + 1) ∧ ∃ v, PfS w g k M qa qc ca cc wr (min i M : Nat) (stp (min i M)) v

set_option maxRecDepth 100000 in
set_option maxHeartbeats 8000000 in
theorem prefetch_law (p0 p1 : Int) (w : World) :
    Calls Tryz.prog 6 #[.int .i64 p0, .int .i64 p1] w fun e w' => e = .returned (.bool true) ∧ Below w.heap.size w w' := by
  have HT := Lib.hid told_any
  obtain ⟨ha1, ha2⟩ := u64_mod p0 20 (by decide)
  obtain ⟨hb1, hb2⟩ := u64_mod p1 31 (by decide)
  rw [show ((20 : Nat) : Int) = 20 from rfl] at ha1
  rw [show ((31 : Nat) : Int) = 31 from rfl] at hb1
  generalize u64m p0 20 = a at *
  generalize u64m p1 31 = K at *
  obtain ⟨M, hM⟩ : ∃ M, M = a + 1 := ⟨_, rfl⟩
  have wa : IntKind.i64.wrap (a : Int) = (a : Int) := IntWalk.i64_in _ (by omega)
  have wb : IntKind.i64.wrap (K : Int) = (K : Int) := IntWalk.i64_in _ (by omega)
  have wn : IntKind.i64.wrap (1 + (a : Int)) = (M : Int) := by rw [IntWalk.i64_in _ (by omega)]; omega
  have HMK : Hid ((1 ≤ M ∧ M ≤ 20) ∧ K ≤ 30) := Lib.hid (by omega)
  clear hM
  have hn := opened_any w
  go_enter Tryz.func6, Tryz.ntmps6
  go_upto_region 5 with (go_at_call 12; refine hn.mono ?_; clear hn; rintro e w1 ⟨rfl, ⟨k, hc1, hr1⟩, hb1⟩; have HC1 := Lib.hid hc1; have HR1 := Lib.hid hr1; have HB1 := Lib.hid hb1; clear hc1 hb1 hr1)
  clear wa wb wn ha1 hb1
  generalize hG : w.heap.size = g at *
  have HG := Lib.hid hG
  clear hG
  have hk := op_new g g _ _ (.slice none 0 0) _ _ _ _ [] [113] w1 (Nat.le_of_lt HC1.out.lt) (by simp) (by simp) (by decide) (by decide) HC1.out (OwnE.nil _ _ _ _ _)
  go_upto_region 6 with (go_at_call 9; refine hk.mono ?_; clear hk; rintro e w2 ⟨s2, v2, rfl, -, hc2, ho2, hk2, -⟩; obtain ⟨qa, qc, he, -, -⟩ := OwnE.at stE ho2; have he : v2 = .slice qa 1 qc := he; subst he; have HC2 := Lib.hid hc2; have HO2 : Hid (OwnS w2 g (.slice qa 1 qc) [[113]]) := Lib.hid ho2; have HR2 := Lib.hid (cr_kept HR1.out.o (Nat.lt_succ_self g) hk2); have HB2 := Lib.hid (kept_g HB1.out HC1.out.lt hk2); clear hc2 ho2 hk2)
  clear HC1 HR1 HB1
  have hk := op_qos (g + 1) g k _ _ _ _ _ _ 0 0 M (by have := HMK.out; omega) [] _ w2 HC2.out HR2.out
  go_upto_region 7 with (go_at_call 9; refine hk.mono ?_; clear hk; rintro e w3 ⟨s3, rfl, hr3, hk3⟩; have HR3 := Lib.hid hr3; have HC3 := Lib.hid (cr_ch HC2.out HR2.out (kept_k hk3)); have HO3 := Lib.hid (own_cr HO2.out HR2.out (kept_k hk3)); have HB3 := Lib.hid (kept_cr HB2.out HR2.out (Nat.le_succ g) (kept_k hk3)); clear hr3 hk3)
  clear HC2 HR2 HB2 HO2
  have hk := op_con g g _ _ _ _ _ _ [[113]] [113] [116] w3 (by decide) (by decide) (by simp) HC3.out HO3.out
  go_upto_region 8 with (go_at_call 9; refine hk.mono ?_; clear hk; rintro e w4 ⟨s4, v4, rfl, hc4, ho4, hk4⟩; obtain ⟨ca, cc, he, -, -⟩ := OwnE.at stE ho4; have he : v4 = .slice ca 1 cc := he; subst he; have HP4 : Hid (PfS w g k M qa qc ca cc w4 0 [] _) := Lib.hid ⟨hc4, own_g HO3.out HC3.out hk4, OwnE.mono ho4 (Nat.le_of_lt HC3.out.lt), cr_kept HR3.out (Nat.lt_succ_self g) hk4, kept_g HB3.out HC3.out.lt hk4⟩; clear hc4 ho4 hk4)
  clear HC3 HR3 HB3 HO3
  have hk := give_none g (.slice none 0 0) (.slice none 0 0) (.slice qa 1 qc) ca 1 cc [[116]] rfl (.pointer (some ⟨k, 0, none⟩)) false false 1 (by decide) [117] (by decide) w4 (by decide) HP4.out.ch (st_of HP4.out.c)
  go_upto_region 9 with (go_at_call 14; refine hk.mono ?_; clear hk; rintro e w5 ⟨rfl, hb5⟩; have HP5 := Lib.hid (HP4.out.below hb5); clear hb5)
  have HP6 : Hid (PfS w g k M qa qc ca cc (w5.alloc (.cells #[.int .i64 0, .string ⟨#[]⟩, .string ⟨#[]⟩, .string ⟨#[]⟩, .string ⟨#[]⟩, .string ⟨#[]⟩, .int .i64 0, .int .i64 0, .int .u64 0, .bool false, .bool false, .slice none 0 0] 31)) 0 [] _) := Lib.hid (HP5.out.below ((Below.refl _ _).alloc (Nat.le_refl _) _))
  generalize w5.alloc (.cells #[.int .i64 0, .string ⟨#[]⟩, .string ⟨#[]⟩, .string ⟨#[]⟩, .string ⟨#[]⟩, .string ⟨#[]⟩, .int .i64 0, .int .i64 0, .int .u64 0, .bool false, .bool false, .slice none 0 0] 31) = w6 at HP6 ⊢
  clear HP4 HP5
  go_wp2_with fail
  go_loopg [14] K (pfRel w g k M K qa qc ca cc)
  case atStart => exact ⟨0, Nat.zero_le _, rfl, rfl, _, by rw [show min 0 M = 0 from Nat.zero_min M]; exact HP6.out⟩
  case round =>
    obtain ⟨i, hi, rfl, rfl, v, hp⟩ := hrel
    have HP := Lib.hid hp
    clear hp HP6
    by_cases hlt : i < K
    · have q0 : (i : Int) + 1 ≤ (K : Int) := by omega
      have q1 : IntKind.u64.wrap ((i : Int) + 1) = (i : Int) + 1 := by rw [IntKind.wrap_u64]; have := HMK.out; omega
      have q2 : IntKind.i64.wrap ((i : Int) + 1 + 1) = (i : Int) + 1 + 1 := IntWalk.i64_in _ (by have := HMK.out; omega)
      have q3 : ((i : Int) + 1 != (i : Int) + 1) = false := by simp
      by_cases hm : i < M
      · have q4 : (i : Int) + 1 ≤ (M : Int) := by omega
        have hp := HP.out
        rw [Nat.min_eq_left (Nat.le_of_lt hm)] at hp
        have hgv := give_ok g (.slice none 0 0) (.slice none 0 0) (.slice qa 1 qc) ca 1 cc [[116]] rfl false false (i + 1) (by have := HMK.out; omega) [116] (by decide) (g + 1) k M i (stp i) v wr (by simp) hp.ch (st_of hp.c) (by have := HMK.out; omega) (by omega) (by rw [stp_len]; exact free_pos hm) (by rw [stp_len]; have := HMK.out; omega) hp.ch.lt hp.cr
        rw [show (((i + 1 : Nat)) : Int) = (i : Int) + 1 by omega, stp_succ] at hgv
        have HGV := Lib.hid hgv
        have HPP := Lib.hid hp
        clear hp hgv HP
        go_upto_region 15 with (go_at_call 14; refine HGV.out.mono ?_; rintro e w7 ⟨rfl, ⟨v7, hr7⟩, hk7⟩; have HP7 := Lib.hid (HPP.out.kept hk7 hr7); clear hr7 hk7)
        have HPA := Lib.hid (HP7.out.below ((Below.refl _ _).alloc (Nat.le_refl _) (.cells #[.int .i64 6060, .string ⟨#[]⟩, .string ⟨#[]⟩, .string ⟨#[]⟩, .string ⟨#[]⟩, .string ⟨#[116]⟩, .int .i64 0, .int .i64 0, .int .u64 ((i : Int) + 1), .bool false, .bool false, .slice none 0 0] 31)))
        clear HP7 HPP HGV
        go_wp2_with fail
        go_roundg (K - (i + 1))
        case measure => omega
        case rel => exact ⟨i + 1, by omega, rfl, by go_num, v7, by rw [Nat.min_eq_left (show i + 1 ≤ M by omega), show (((i + 1 : Nat)) : Int) = (i : Int) + 1 by omega]; exact HPA.out⟩
      · have q4 : ¬ (i : Int) + 1 ≤ (M : Int) := by omega
        have hp := HP.out
        rw [Nat.min_eq_right (show M ≤ i by omega)] at hp
        have hgv := give_full g (.slice none 0 0) (.slice none 0 0) (.slice qa 1 qc) ca 1 cc [[116]] rfl false false (i + 1) (by have := HMK.out; omega) [116] (by decide) (g + 1) k M M (stp M) v wr (by simp) hp.ch (st_of hp.c) (by have := HMK.out; omega) (by omega) (by rw [stp_len]; exact free_none (by have := HMK.out; omega) (Nat.le_refl _)) hp.cr
        have HGV := Lib.hid hgv
        have HPP := Lib.hid hp
        clear hp hgv HP
        go_upto_region 15 with (go_at_call 14; refine HGV.out.mono ?_; rintro e w7 ⟨rfl, hb7⟩; have HP7 := Lib.hid (HPP.out.below hb7); clear hb7)
        have HPA := Lib.hid (HP7.out.below ((Below.refl _ _).alloc (Nat.le_refl _) (.cells #[.int .i64 0, .string ⟨#[]⟩, .string ⟨#[]⟩, .string ⟨#[]⟩, .string ⟨#[]⟩, .string ⟨#[]⟩, .int .i64 0, .int .i64 0, .int .u64 0, .bool false, .bool false, .slice none 0 0] 31)))
        clear HP7 HPP HGV
        go_wp2_with fail
        go_roundg (K - (i + 1))
        case measure => omega
        case rel => exact ⟨i + 1, by omega, rfl, by go_num, v, by rw [Nat.min_eq_right (show M ≤ i + 1 by omega)]; exact HPA.out⟩
    · obtain rfl : i = K := by omega
      have q0 : ¬ (i : Int) + 1 ≤ (i : Int) := by omega
      by_cases h0 : i = 0
      · have q1 : ((i : Int) == 0) = true := by rw [beq_iff_eq]; omega
        go_wp2_with (first
          | (go_at_call 10; refine (HT.out _).mono ?_; rintro e w9 ⟨rfl, hb9⟩; have HP9 := Lib.hid (HP.out.below hb9); clear hb9)
          | (go_at_call 11; refine (open_any g 1 _ _ _ _ _ _ _ _ HP9.out.ch).mono ?_; rintro e w10 ⟨rfl, rfl⟩)
          | fail)
        go_ret
        exact ⟨rfl, HG.out ▸ HP9.out.be⟩
      · have q1 : ((i : Int) == 0) = false := by rw [beq_eq_false_iff_ne]; omega
        obtain ⟨T, hT⟩ : ∃ T, T = min i M := ⟨_, rfl⟩
        have hT2 : 1 ≤ T ∧ T ≤ 20 := by have := HMK.out; omega
        have wT : IntKind.u64.wrap (min (i : Int) (M : Int)) = (T : Int) := by rw [IntKind.wrap_u64]; have := HMK.out; omega
        have hp := HP.out
        rw [← hT] at hp
        have hk := op_ack (g + 1) g k _ _ _ _ _ _ M T T (by omega) (stp T) v wr (stp_up T) (.inl (by rw [stp_to T (by omega) hT2.1]; omega)) hp.ch.lt hp.ch hp.cr
        rw [stp_to T (by omega) hT2.1, show (stp T).drop T = [] from List.drop_eq_nil_of_le (by rw [stp_len]; exact Nat.le_refl _)] at hk
        have HT2 := Lib.hid hT2
        have HPP := Lib.hid hp
        have HKK := Lib.hid hk
        clear hp hk HP hT hT2
        go_upto_region 20 with (go_at_call 9; refine HKK.out.mono ?_; rintro e w7 ⟨rfl, ⟨v7, hr7⟩, hk7⟩; have HP7 := Lib.hid (HPP.out.kept hk7 hr7); clear hr7 hk7)
        clear HKK HPP wT
        have hgv := give_get g (.slice none 0 0) (.slice none 0 0) (.slice qa 1 qc) ca 1 cc [[116]] false false 100 (by decide) (g + 1) k M T [] v7 w7 HP7.out.ch (by have := HMK.out; omega) (by have := HT2.out; omega) (free_pos (by have := HMK.out; simp; omega)) (by simp) HP7.out.ch.lt HP7.out.cr
        go_upto_region 21 with (go_at_call 14; refine hgv.mono ?_; clear hgv; rintro e w8 ⟨rfl, ⟨v8, hr8⟩, hk8⟩; have HP8 := Lib.hid (HP7.out.kept hk8 hr8); clear hr8 hk8)
        have HPA := Lib.hid (HP8.out.below ((Below.refl _ _).alloc (Nat.le_refl _) (.cells #[.int .i64 6071, .string ⟨#[]⟩, .string ⟨#[]⟩, .string ⟨#[]⟩, .string ⟨#[]⟩, .string ⟨#[]⟩, .int .i64 0, .int .i64 0, .int .u64 100, .bool false, .bool false, .slice none 0 0] 31)))
        clear HP7 HP8
        generalize w8.alloc (.cells #[.int .i64 6071, .string ⟨#[]⟩, .string ⟨#[]⟩, .string ⟨#[]⟩, .string ⟨#[]⟩, .string ⟨#[]⟩, .int .i64 0, .int .i64 0, .int .u64 100, .bool false, .bool false, .slice none 0 0] 31) = w9 at HPA ⊢
        have hk := op_con_no g g g _ _ _ _ _ _ _ [[113]] [[116]] [113] [116] w9 (by decide) (by decide) (by simp) (by simp) HPA.out.ch HPA.out.q HPA.out.c
        go_upto_region 22 with (go_at_call 9; refine hk.mono ?_; clear hk; rintro e w10 ⟨s10, rfl, hc10, hk10⟩; have HC10 := Lib.hid hc10; have HB10 := Lib.hid (kept_g HPA.out.be HPA.out.ch.lt hk10); clear hc10 hk10)
        clear HPA
        go_wp2_with (first
          | (go_at_call 10; refine (HT.out _).mono ?_; rintro e w11 ⟨rfl, hb11⟩; have HC11 := Lib.hid (HC10.out.below hb11); have HB11 := Lib.hid (HB10.out.trans (hb11.mono (Nat.le_of_lt HC10.out.lt))); clear hb11)
          | (go_at_call 11; refine (open_any g 2 _ _ _ _ _ _ _ _ HC11.out).mono ?_; rintro e w12 ⟨rfl, rfl⟩)
          | fail)
        go_ret
        exact ⟨rfl, HG.out ▸ HB11.out⟩

end Go.Proofs.YtiobcgolcoocnaaGreatDoor.Ch
