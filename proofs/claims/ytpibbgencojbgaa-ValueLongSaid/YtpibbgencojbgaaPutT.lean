/-
  putTable and Put, walked.
-/
import Derived.Test.YtpibbgencojbgaaPut
namespace Go.Proofs.Ytpibbgencojbgaa
open Go.RowKit
set_option linter.unusedVariables false

theorem TbU.keep {w w' : World} {B : Nat} {a : Option Addr} {cap : Nat} {l : List It} (h : TbU w B a cap l) (hk : ∀ b, b < B → w'.heap[b]? = w.heap[b]?) : TbU w' B a cap l := by
  obtain ⟨bs, h, hl⟩ := h
  exact ⟨bs, h.keep fun b hb => hk b (hl b hb), hl⟩
theorem PutP.mono {base : Nat} {v : Value} {L E : List UInt8} {N N' : Nat} {w : World} {e : Ending} {w' : World} (h : PutP base v L E N w e w') (hN : N ≤ N') : PutP base v L E N' w e w' := by
  obtain ⟨v', R, h1, h2, h3, h4, h5, h6⟩ := h
  exact ⟨v', R, h1, h2, h3, h4, by omega, h6⟩

theorem putV_any (d : Nat) (x : It) (hm : x.May d) (base : Nat) (v : Value) (L : List UInt8) (a : Option Addr) (cap : Nat) (w : World) (hb : Buf w base v L) (hbase : base ≤ w.heap.size) (hL : L.length ≤ 3050)
    (hT : TbU w base a cap x.sub)
    (ih : MayT d x.sub → ∀ v1 L1 w1, Buf w1 base v1 L1 → base ≤ w1.heap.size → TbU w1 base a cap x.sub → L1.length ≤ 3100 → Calls Try.prog 41 #[v1, .slice a x.sub.length cap] w1 (PutP base v1 L1 (putT x.sub) (max L1.length 3000 + 300 * (5 - d)) w1)) :
    Calls Try.prog 64 #[v, .agg #[.int .i64 x.kind, .int .i64 x.n, .string x.s, .slice a x.sub.length cap]] w (PutP base v L x.putV (max L.length 3000 + 210 + 300 * (5 - d)) w) := by
  obtain ⟨nm, k, n, s, sub⟩ := x
  have hm' := hm
  rw [may_iff] at hm'
  simp only [It.kind_mk, It.n_mk, It.s_mk, It.sub_mk] at *
  rcases hm' with ⟨rfl, h⟩ | ⟨rfl, h⟩ | ⟨rfl, h⟩ | ⟨rfl, h⟩ | ⟨rfl, _, hs, _⟩ | ⟨rfl, _, _, hsub⟩
  · exact putV0_any base v L nm s n a cap sub w hb hbase hL _ (by omega)
  · exact putV1_any base v L nm s n a cap sub w hb hbase hL _ (by omega)
  · exact putV2_any base v L nm s n a cap sub w hb hbase hL _ (by omega)
  · exact putV3_any base v L nm s n a cap sub w hb hbase hL _ (by omega)
  · exact putV4_any base v L nm s n a cap sub w hb hbase hL _ hs (by omega)
  · exact putV5_any d base v L nm s n a cap sub w hb hbase hL _ (by omega) hT (fun v1 L1 w1 h1 h2 h3 h4 => ih hsub v1 L1 w1 h1 h2 h3 h4)

/-- the buffer, with some of its bytes laid anew. -/
theorem Buf.laid {w w' : World} {base g cap start : Nat} {R bs : List UInt8} {cur : Array Value} (h : Buf w base (.slice (some ⟨g, 0, none⟩) R.length cap) R) (hg : w.heap[g]? = some (.cells cur 5 (0, 0)))
    (hfit : start + bs.length ≤ R.length) (hr : Row8 w' g (cur.toList.take start ++ cellsOf bs ++ cur.toList.drop (start + bs.length))) :
    Buf w' base (.slice (some ⟨g, 0, none⟩) R.length cap) (R.take start ++ bs ++ R.drop (start + bs.length)) := by
  rcases h.2 with ⟨h0, _⟩ | ⟨g', cap', cur', hv, hbg, hg', hnc, hcm, hcs, htake⟩
  · cases h0
  · cases hv
    rw [hg] at hg'
    cases hg'
    have hlen : (R.take start ++ bs ++ R.drop (start + bs.length)).length = R.length := by simp; omega
    rw [Nat.mul_one] at hcs htake
    refine ⟨by simp [cellsOf], .inr ⟨g, cap, _, by rw [hlen], hbg, hr, by omega, hcm, ?_, ?_⟩⟩
    · have : cur.toList.length = cap := by simpa using hcs
      simp; omega
    · rw [hlen, Nat.mul_one]
      have hc : cellsOf (R.take start ++ bs ++ R.drop (start + bs.length)) = (cellsOf R).take start ++ cellsOf bs ++ (cellsOf R).drop (start + bs.length) := by
        simp [cellsOf, List.map_take, List.map_drop]
      rw [hc, ← htake]
      have hl1 : (cur.toList.take start ++ cellsOf bs).length = start + bs.length := by
        have : cur.toList.length = cap := by simpa using hcs
        simp; omega
      show (cur.toList.take start ++ cellsOf bs ++ cur.toList.drop (start + bs.length)).take R.length = _
      rw [List.take_append, hl1, List.take_of_length_le (by omega), List.take_take, Nat.min_eq_left (by omega), List.take_drop, show start + bs.length + (R.length - (start + bs.length)) = R.length by omega]

theorem patch_eq {L E R : List UInt8} (h : R = L ++ be 4 0 ++ E) : R.take L.length ++ be 4 (R.length - L.length - 4) ++ R.drop (L.length + 4) = L ++ (be 4 E.length ++ E) := by
  have hl : R.length - L.length - 4 = E.length := by
    have := congrArg List.length h
    simp at this
    omega
  rw [hl]
  subst h
  have h1 : (L ++ be 4 0 ++ E).take L.length = L := by rw [List.append_assoc]; exact List.take_left' rfl
  have h2 : (L ++ be 4 0 ++ E).drop (L.length + 4) = E := List.drop_left' (by simp)
  rw [h1, h2, List.append_assoc]

def putTRel (W : World) (v0 : Value) (base N : Nat) (L : List UInt8) (a : Option Addr) (cap : Nat) (l : List It) (n : Nat) (a' : Act) (w' : World) : Prop :=
  ∃ (k : Nat) (a1 : Option Addr) (c1 : Nat) (R : List UInt8) (u7 u8 u9 u10 u11 u12 u13 u14 u15 u16 u17 u18 u19 u20 u21 u22 u23 u24 u25 u26 u27 u28 u29 u30 u31 u32 u33 u34 u35 u36 u37 u38 u39 u40 u41 u42 u43 u44 u45 u46 : Value), Onto W v0 w' (.slice a1 R.length c1) ∧ Buf w' base (.slice a1 R.length c1) R ∧
    a' = { tmps := #[.slice a1 R.length c1, .slice a l.length cap, undef, undef, .slice none 0 0, .int .i64 L.length, .int .i64 k, u7, u8, u9, u10, u11, u12, u13, u14, u15, u16, u17, u18, u19, u20, u21, u22, u23, u24, u25, u26, u27, u28, u29, u30, u31, u32, u33, u34, u35, u36, u37, u38, u39, u40, u41, u42, u43, u44, u45, u46], defers := [] } ∧ k ≤ l.length ∧ n = l.length - k ∧
    L.length + 4 ≤ R.length ∧ R.length ≤ N ∧ (R.length ≤ 3000 → R = L ++ be 4 0 ++ putAll (l.take k)) ∧ (3000 < R.length → 3000 < (L ++ putT l).length)

set_option maxRecDepth 100000 in
set_option maxHeartbeats 8000000 in
theorem putTab_any : ∀ (n : Nat) {a : Option Addr} {cap : Nat} {l : List It} (_ : weigh l ≤ n) (d : Nat) (_ : MayT d l) (base : Nat) (v : Value) (L : List UInt8) (w : World) (_ : Buf w base v L) (_ : base ≤ w.heap.size) (_ : TbU w base a cap l) (_ : L.length ≤ 3100),
    Calls Try.prog 41 #[v, .slice a l.length cap] w (PutP base v L (putT l) (max L.length 3000 + 300 * (5 - d)) w)
  | 0, a, cap, l, h, _, _, _, _, _, _, _, _, _, _ => by have := weigh_pos l; omega
  | n + 1, a, cap, l, hn, d, hm, base, v, L, w, hb, hbase, hT, hL => by
    obtain ⟨a0, c0, rfl, hlc, hcm⟩ := hb.form
    have hlen := hT.tb.len
    unfold maxLen at hlen hcm
    have hd4 : d ≤ 4 := hm.1
    have HB := Lib.hid hb
    have HM := Lib.hid hm
    clear hb hm
    go_enter Try.func41, Try.ntmps41
    go_wp2
    refine wp_scope_ghost 0 (putTRel w (.slice a0 L.length c0) base (max L.length 3000 + 300 * (5 - d)) L a cap l) rfl ?_ ?_
    · intro H hbk
      have HBK := Lib.hid hbk
      clear hbk
      go_wp2_with fail
      refine (putNum_any base (.slice a0 L.length c0) L 0 4 (by omega) (by omega) _ HB.out hbase (by omega)).mono ?_
      rintro e w2 ⟨v2, rfl, hb2, hon2⟩
      obtain ⟨R2, hR2⟩ : ∃ R2, R2 = L ++ be 4 0 := ⟨_, rfl⟩
      rw [← hR2] at hb2
      obtain ⟨a2, c2, rfl, hlc2, hcm2⟩ := hb2.form
      have HR2 := Lib.hid hR2
      clear hR2
      have HB2 := Lib.hid hb2
      have HO2 := Lib.hid hon2
      clear hb2 hon2
      go_wp2_with fail
      go_step3
      rename_i hK
      refine hK _ _ (HBK.out l.length _ _ ⟨0, a2, c2, R2, ?_⟩)
      repeat apply Exists.intro
      have hR2 := HR2.out
      have hl2 : R2.length = L.length + 4 := by rw [hR2]; simp
      refine ⟨HO2.out, HB2.out, rfl, Nat.zero_le _, rfl, by omega, by omega, fun _ => by rw [hR2]; simp [putAll], fun h => by rw [List.length_append, putT_length]; omega⟩
    · rintro m a' w' ⟨k, a1, c1, R, u7, u8, u9, u10, u11, u12, u13, u14, u15, u16, u17, u18, u19, u20, u21, u22, u23, u24, u25, u26, u27, u28, u29, u30, u31, u32, u33, u34, u35, u36, u37, u38, u39, u40, u41, u42, u43, u44, u45, u46, hon, hb, rfl, hk, rfl, hR4, hRN, hR1, hR2⟩ H hH
      obtain ⟨_, _, hv1, hlc1, hcm1⟩ := hb.form
      cases hv1
      unfold maxLen at hcm1
      have hbel := hon.below HB.out hbase
      have HB1 := Lib.hid hb
      have HO1 := Lib.hid hon
      have HR1 := Lib.hid hR1
      have HR2 := Lib.hid hR2
      clear hb hon hR1 hR2
      by_cases hgo : k < l.length ∧ R.length ≤ 3000
      · obtain ⟨hlt, hR3⟩ := hgo
        obtain ⟨b, o, a2, cap2, rfl, hbB, _, hi, hT2⟩ := (hT.below hbel).get hlt
        have hnm := HM.out.2.2.1 k hlt
        have hn1 : l[k].name.size ≤ 40 := hnm.2.1
        have hmay : l[k].May (d + 1) := (mayAll_iff _ _).1 HM.out.2.2.2 _ (List.getElem_mem hlt)
        have HMY := Lib.hid hmay
        have HI := Lib.hid hi
        have HT2 := Lib.hid hT2
        have HW := Lib.hid (weigh_mem (List.getElem_mem hlt))
        have hc0 := hi.c0
        clear hnm hmay hi hT2
        have hRl : R.length ≤ 1000000 := by omega
        have hb1 := Nat.le_trans hbase hbel.size
        go_wp2_with fail
        refine (putText_any base _ R l[k].name 1 (by decide) (by decide) _ HB1.out hb1 (by omega) (by omega)).mono ?_
        rintro e w3 ⟨v3, rfl, hb3, hon3⟩
        have HB3 := Lib.hid hb3
        have HO3 := Lib.hid (HO1.out.trans hon3)
        have hbl3 := HO3.out.below HB.out hbase
        have hi3 := HI.out.keep ((hbl3.block b hbB).trans (hbel.block b hbB).symm)
        have d0 := hi3.c0
        have d1 := hi3.c1
        have d2 := hi3.c2
        have d3 := hi3.c3
        have d4 := hi3.c4
        clear hb3 hon3 hi3
        go_wp2_with fail
        obtain ⟨R3, hE3⟩ : ∃ R3, R3 = R ++ (be 1 l[k].name.size ++ l[k].name.data.toList) := ⟨_, rfl⟩
        rw [← hE3] at HB3
        have hl3 : R3.length = R.length + 1 + l[k].name.size := by rw [hE3]; simp; omega
        have HE3 := Lib.hid hE3
        have HL3 := Lib.hid hl3
        clear hE3 hl3
        refine (putV_any (d + 1) l[k] HMY.out base v3 R3 a2 cap2 _ HB3.out (Nat.le_trans hbase hbl3.size) (by have := HL3.out; omega) (HT2.out.keep fun i hi => (hbl3.block i hi).trans (hbel.block i hi).symm)
          (fun hsub v1 L1 w1 q1 q2 q3 q4 => putTab_any n (by have := HW.out; omega) (d + 1) hsub base v1 L1 w1 q1 q2 q3 q4)).mono ?_
        rintro e w4 ⟨v4, R4, rfl, hb4, hon4, hlt4, hN4, hg4⟩
        obtain ⟨a4, c4, rfl, hlc4, hcm4⟩ := hb4.form
        have HB4 := Lib.hid hb4
        have HO4 := Lib.hid (HO3.out.trans hon4)
        have HG4 := Lib.hid hg4
        have HN4 := Lib.hid hN4
        have HT4 := Lib.hid hlt4
        clear hb4 hon4 hg4 hN4 hlt4
        go_wp2_with fail
        go_step3
        refine ⟨rfl, hH (l.length - (k + 1)) _ _ (by omega) ⟨k + 1, a4, c4, R4, ?_⟩⟩
        repeat apply Exists.intro
        have e3 := HE3.out
        have l3 := HL3.out
        have g4 := HG4.out
        have n4 := HN4.out
        have t4 := HT4.out
        have r1 := HR1.out hR3
        have hput : R ++ l[k].put = R3 ++ l[k].putV := by rw [e3, put_eq, be_one]; simp
        refine ⟨HO4.out, HB4.out, rfl, by omega, rfl, by omega, by omega, fun h => ?_, fun h => ?_⟩
        · rw [g4.1 h, ← hput, r1, List.take_succ_eq_append_getElem hlt, putAll_append]
          simp [putAll]
        · have := g4.2 h
          rw [← hput, r1] at this
          have hp : (putAll (l.take k)).length + l[k].put.length ≤ (putAll l).length := by
            have h1 := putAll_append (l.take (k + 1)) (l.drop (k + 1))
            rw [List.take_append_drop, List.take_succ_eq_append_getElem hlt, putAll_append] at h1
            rw [h1]
            simp [putAll]
          rw [List.length_append, putT_length]
          simp at this
          omega
      · rcases HB1.out.2 with ⟨_, h0⟩ | ⟨g, cap', cur, hv, hbg, hg, hnc, hcm', hcs, htake⟩
        · omega
        cases hv
        rw [Nat.mul_one] at hcs
        have hrow : Row8 w' g cur.toList := by unfold Row8; simpa using hg
        have i0 : (0 : Int) ≤ (L.length : Int) := by omega
        have i1 : (L.length : Int) ≤ (c1 : Int) := by omega
        have hw : IntKind.u64.wrap ((R.length : Int) - (L.length : Int) - 4) = ((R.length - L.length - 4 : Nat) : Int) := by rw [IntKind.wrap_u64]; omega
        have HROW := Lib.hid hrow
        have HG := Lib.hid hg
        have HCS := Lib.hid hcs
        have HGO := Lib.hid hgo
        have HCM := Lib.hid hcm'
        have hways : ¬ k < l.length ∨ (k < l.length ∧ 3000 < R.length) := by omega
        clear hrow hg hcs htake hgo hcm'
        rcases hways with hlt | ⟨hlt, hgt⟩
        all_goals
          go_wp2_with fail
          refine (putNum_in g c1 L.length cur.toList (R.length - L.length - 4) 4 (by omega) (by omega) _ HROW.out (by have := HCS.out; simpa using this.symm) (by omega) HCM.out).mono ?_
          rintro e w5 ⟨v5, rfl, hr5, hg5⟩
          have HR5 := Lib.hid hr5
          have HG5 := Lib.hid hg5
          clear hr5 hg5
          go_wp2_with fail
          simp only [Exit.jump]
          go_ret
          have hr5 := HR5.out
          have hbl : (be 4 (R.length - L.length - 4)).length = 4 := be_length _ _
          have hb5 := Buf.laid (start := L.length) (bs := be 4 (R.length - L.length - 4)) HB1.out HG.out (by rw [hbl]; omega) (by rw [hbl]; exact hr5)
          rw [hbl] at hb5
          have ho5 : Onto w' (.slice (some ⟨g, 0, none⟩) R.length c1) w5 (.slice (some ⟨g, 0, none⟩) R.length c1) := ⟨HG5.out, .inl rfl⟩
          have hlen5 : (R.take L.length ++ be 4 (R.length - L.length - 4) ++ R.drop (L.length + 4)).length = R.length := by simp; omega
          refine ⟨_, _, rfl, hb5, HO1.out.trans ho5, by rw [hlen5]; omega, by rw [hlen5]; exact hRN, ?_, ?_⟩
          · rw [hlen5]
            intro h3
            have hke : k = l.length := by omega
            have hr1 := HR1.out h3
            rw [hke, List.take_length] at hr1
            exact patch_eq hr1
          · rw [hlen5]
            exact HR2.out

/-- the code, and the bytes, that Put answers. -/
def PutR (l : List It) (w : World) (e : Ending) (w' : World) : Prop :=
  Below w.heap.size w w' ∧ ((¬ MayT 1 l ∧ e = .returned (.tuple #[.slice none 0 0, .int .i64 1])) ∨ (MayT 1 l ∧ 3000 < (putT l).length ∧ e = .returned (.tuple #[.slice none 0 0, .int .i64 502])) ∨
    (MayT 1 l ∧ (putT l).length ≤ 3000 ∧ ∃ v, e = .returned (.tuple #[v, .int .i64 0]) ∧ Buf w' w.heap.size v (putT l)))

set_option maxHeartbeats 1000000 in
theorem put_any {a : Option Addr} {cap : Nat} {l : List It} (w : World) (hl : Tb w a cap l) :
    Calls Try.prog 18 #[.slice a l.length cap] w (PutR l w) := by
  go_enter Try.func18, Try.ntmps18
  go_wp2_with fail
  refine (mayTable_any _ hl).mono ?_
  rintro e w1 ⟨r, hr, rfl, hb1⟩
  have HB1 := Lib.hid hb1
  clear hb1
  cases r
  · replace hr : ¬ MayT 1 l := by simpa using hr
    have HR := Lib.hid hr
    clear hr
    go_wp2_with fail
    go_ret2
    exact ⟨HB1.out, .inl ⟨HR.out, rfl⟩⟩
  · replace hr : MayT 1 l := by simpa using hr
    have HR := Lib.hid hr
    clear hr
    go_wp2_with fail
    refine (putTab_any _ (Nat.le_refl _) 1 HR.out w.heap.size (.slice none 0 0) [] _ (Buf.nil _ _) HB1.out.size (hl.up.below HB1.out) (by simp)).mono ?_
    rintro e w2 ⟨v2, R, rfl, hb2, hon2, hlt, hN, hg⟩
    have hbel : Below w.heap.size w w2 := HB1.out.trans (hon2.below (Buf.nil _ _) HB1.out.size)
    obtain ⟨a2, c2, rfl, hlc2, hcm2⟩ := hb2.form
    have HB2 := Lib.hid hb2
    have HG := Lib.hid hg
    have HBL := Lib.hid hbel
    simp only [List.length_nil] at hN
    clear hb2 hg hon2 hbel hlt
    unfold maxLen at hcm2
    by_cases h3 : (R.length : Int) ≤ 3000
    · go_wp2_with fail
      go_ret2
      have hR := HG.out.1 (by omega)
      rw [List.nil_append] at hR
      subst hR
      exact ⟨HBL.out, .inr (.inr ⟨HR.out, by omega, _, rfl, HB2.out⟩)⟩
    · go_wp2_with fail
      go_ret2
      have hR := HG.out.2 (by omega)
      rw [List.nil_append] at hR
      exact ⟨HBL.out, .inr (.inl ⟨HR.out, hR, rfl⟩)⟩

end Go.Proofs.Ytpibbgencojbgaa
