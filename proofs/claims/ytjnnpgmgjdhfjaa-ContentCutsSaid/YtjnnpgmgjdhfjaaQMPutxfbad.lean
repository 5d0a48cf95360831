/-
  package method's putParts, Put, walked.
-/
import Derived.Test.YtjnnpgmgjdhfjaaQMMayMxfbfe
import Derived.BigQuiet
import Derived.Deep.QuietTactic
namespace Go.Proofs.Ytjnnpgmgjdhfjaa
open Go.RowKit
set_option linter.unusedVariables false

theorem below_grown {w w' : World} (h : Below w.heap.size w w') (row : Option Nat) : w.grownBy w' row := ⟨h.os, h.tape, h.output, h.size, fun k hk _ => h.block k hk⟩
theorem Onto.of_below {w w' : World} (h : Below w.heap.size w w') (v : Value) : Onto w v w' v := ⟨below_grown h _, .inl rfl⟩
theorem Buf.under {w w' : World} {base : Nat} {v : Value} {l : List UInt8} (h : Buf w base v l) (hb : Below w.heap.size w w') : Buf w' base v l :=
  World.ownsRow.kept h (below_grown hb none) (by cases v.ownBlock <;> simp)

/-- so far: k parts are put. -/
structure PSt (W : World) (v0 : Value) (base : Nat) (L : List UInt8) (m : Me) (l : List Pt) (k : Nat) (w' : World) (v : Value) : Prop where
  on : Onto W v0 w' v
  buf : Buf w' base v (L ++ encL m (l.take k))
  few : .a ∈ l.take k → (putT m.args).length ≤ 3000
theorem PSt.drewN {W : World} {v0 : Value} {base : Nat} {L : List UInt8} {m : Me} {l : List Pt} {k : Nat} {w' : World} {v : Value} (h : PSt W v0 base L m l k w' v) (n : Nat) : PSt W v0 base L m l k (w'.drewN n) v :=
  ⟨⟨⟨h.on.grew.os, h.on.grew.tape, h.on.grew.output, h.on.grew.size, h.on.grew.block⟩, h.on.own⟩, h.buf, h.few⟩
def putJ (g : Nat) (W : World) (mv : Value) (v0 : Value) (base : Nat) (L : List UInt8) (m : Me) (l : List Pt) (lb n : Nat) (a' : Act) (w' : World) : Prop :=
  (lb = 0 ∧ ∃ (k : Nat) (v : Value), (k ≤ l.length ∧ n = 2 * (l.length - k) + 1 ∧ PSt W v0 base L m l k w' v) ∧ ∃ (u6 u7 u8 u9 u10 u12 u13 u14 u15 u16 u17 u18 u19 u20 u21 u22 u23 u24 u25 u26 u27 u28 u29 u30 u31 u32 u33 u34 u35 u36 u37 u38 u39 u40 u41 u42 u43 u44 u45 u46 u47 u48 u49 u50 u51 u52 u53 : Value), a' = { tmps := #[v, mv, undef, .pointer (some ⟨g, 0, none⟩), .slice none 0 0, .int .i64 0, u6, u7, u8, u9, u10, .string (ltr (l.drop k)), u12, u13, u14, u15, u16, u17, u18, u19, u20, u21, u22, u23, u24, u25, u26, u27, u28, u29, u30, u31, u32, u33, u34, u35, u36, u37, u38, u39, u40, u41, u42, u43, u44, u45, u46, u47, u48, u49, u50, u51, u52, u53], defers := [] }) ∨
  (lb = 1 ∧ ∃ (k : Nat) (v : Value), ((∃ h : k < l.length, l[k] = .a) ∧ n = 2 * (l.length - k) ∧ PSt W v0 base L m l k w' v) ∧ ∃ (u6 u7 u8 u9 u10 u12 u13 u14 u15 u16 u17 u18 u19 u20 u21 u22 u23 u24 u25 u26 u27 u28 u29 u30 u31 u32 u33 u34 u35 u36 u37 u38 u39 u40 u41 u42 u43 u44 u45 u46 u47 u48 u49 u50 u51 u52 u53 : Value), a' = { tmps := #[v, mv, undef, .pointer (some ⟨g, 0, none⟩), .slice none 0 0, .int .i64 0, u6, u7, u8, u9, u10, .string (ltr (l.drop (k + 1))), u12, u13, u14, u15, u16, u17, u18, u19, u20, u21, u22, u23, u24, u25, u26, u27, u28, u29, u30, u31, u32, u33, u34, u35, u36, u37, u38, u39, u40, u41, u42, u43, u44, u45, u46, u47, u48, u49, u50, u51, u52, u53], defers := [] }) ∨
  (lb = 2 ∧ ∃ (k : Nat) (v : Value) (p : Pt), ((∃ h : k < l.length, l[k] = p) ∧ p.isT = true ∧ n = 2 * (l.length - k) ∧ PSt W v0 base L m l k w' v) ∧ ∃ (u7 u8 u9 u10 u12 u13 u14 u15 u16 u17 u18 u19 u20 u21 u22 u23 u24 u25 u26 u27 u28 u29 u30 u31 u32 u33 u34 u35 u36 u37 u38 u39 u40 u41 u42 u43 u44 u45 u46 u47 u48 u49 u50 u51 u52 u53 : Value), a' = { tmps := #[v, mv, undef, .pointer (some ⟨g, 0, none⟩), .slice none 0 0, .int .i64 0, .int .u8 p.byte.toNat, u7, u8, u9, u10, .string (ltr (l.drop (k + 1))), u12, u13, u14, u15, u16, u17, u18, u19, u20, u21, u22, u23, u24, u25, u26, u27, u28, u29, u30, u31, u32, u33, u34, u35, u36, u37, u38, u39, u40, u41, u42, u43, u44, u45, u46, u47, u48, u49, u50, u51, u52, u53], defers := [] })

def PutPR (base : Nat) (L : List UInt8) (m : Me) (l : List Pt) (W : World) (e : Ending) (w' : World) : Prop :=
  Below base W w' ∧ ((.a ∈ l ∧ 3000 < (putT m.args).length ∧ e = .returned (.tuple #[.slice none 0 0, .int .i64 502])) ∨
    ((.a ∈ l → (putT m.args).length ≤ 3000) ∧ ∃ v, e = .returned (.tuple #[v, .int .i64 0]) ∧ Buf w' base v (L ++ encL m l)))

theorem putTlen (m : Me) (p : Pt) (hp : m.MayP p) (ha : p ≠ .a) : (m.enc p).length ≤ 256 := by
  have hs : ∀ s : ByteArray, s.data.toList.length = s.size := size_toList
  cases p <;> simp only [Me.MayP] at hp <;> simp only [Me.enc, List.length_append, be_length, hs] <;> first | omega | exact absurd rfl ha

theorem take_step {m : Me} {l : List Pt} {k : Nat} (h : k < l.length) : encL m (l.take (k + 1)) = encL m (l.take k) ++ m.enc l[k] := by
  rw [List.take_succ_eq_append_getElem h, encL_append]
  simp [encL]
theorem drop_step {l : List Pt} {k : Nat} (h : k < l.length) : l.drop k = l[k] :: l.drop (k + 1) := List.drop_eq_getElem_cons h

set_option maxRecDepth 100000 in
set_option maxHeartbeats 8000000 in
theorem putP_any (base : Nat) (v0 : Value) (L : List UInt8) {m : Me} {a : Option Addr} {cap : Nat} {l : List Pt} (hl : partsOf m.id = some l) (hmay : ∀ p ∈ l, m.MayP p) (wf : m.Wf) (w : World) (hb : Buf w base v0 L) (hbase : base ≤ w.heap.size)
    (hT : TbU w base a cap m.args) (hL : L.length ≤ 10) :
    Calls Try.prog 36 #[v0, .agg (meC m a cap)] w (PutPR base L m l w) := by
  have hl5 := partsOf_some hl
  obtain ⟨W, hW⟩ : ∃ W, W = w.alloc (.cells (meC m a cap) 25) := ⟨_, rfl⟩
  have hbW : Buf W base v0 L := by rw [hW]; exact World.ownsRow.alloc hb _
  have hat0 : MeAt W w.heap.size m a cap := by rw [hW]; exact heap_alloc_new w _
  have hb0 : Below w.heap.size w W := by rw [hW]; exact (Below.refl _ _).alloc (Nat.le_refl _) _
  have hws : W.heap.size = w.heap.size + 1 := by rw [hW]; simp
  have hlen := hT.tb.len
  unfold maxLen at hlen
  have hc0 := hat0.cells.1.1
  have HB0 := Lib.hid hb0
  have HBW := Lib.hid hbW
  have HB := Lib.hid hb
  have HAT := Lib.hid hat0
  have HT := Lib.hid hT
  have HM := Lib.hid hmay
  have HWF := Lib.hid wf
  have HL5 := Lib.hid hl5
  obtain ⟨mc, hmc⟩ : ∃ c, c = meC m a cap := ⟨_, rfl⟩
  have HMC := Lib.hid hmc
  rw [← hmc] at hW ⊢
  clear hb hbW hat0 hT hmay wf hl5 hb0 hmc
  have hpl : partsStr m.id = ltr l := by unfold partsStr; rw [hl]
  go_enter Try.func36, Try.ntmps36
  go_wp2
  rw [← hW]
  have HWE := Lib.hid hW
  clear hW
  have hbx : ∀ {k : Nat} {w' : World} {v : Value}, PSt W v0 base L m l k w' v → MBox base w' w.heap.size m a cap := by
    intro k w' v hst
    have hbel := hst.on.below HBW.out (by omega)
    refine ⟨HAT.out.keep (hst.on.block (by omega) (fun e => ?_)), HT.out.below ((HB0.out.mono hbase).trans hbel), HWF.out⟩
    have := (World.ownsRow.lt HB.out _ e).2
    omega
  have hln : ∀ {k : Nat} {w' : World} {v : Value}, PSt W v0 base L m l k w' v → (L ++ encL m (l.take k)).length ≤ 20000 := by
    intro k w' v hst
    have hh := HL5.out.1
    by_cases ha : .a ∈ l.take k
    · have h1 := encL_le (m := m) (l := l.take k) (hst.few ha) (fun p hp => HM.out p (List.mem_of_mem_take hp))
      have h2 : (l.take k).length ≤ 5 := by simp; omega
      rw [List.length_append]
      omega
    · have h1 : ∀ q : List Pt, (∀ p ∈ q, m.MayP p ∧ p ≠ .a) → (encL m q).length ≤ 256 * q.length := by
        intro q
        induction q with
        | nil => intro _; simp [encL]
        | cons p r ih =>
          intro h
          have h3 := putTlen m p (h p (by simp)).1 (h p (by simp)).2
          have h4 := ih fun z hz => h z (by simp [hz])
          rw [encL, List.length_append, List.length_cons]
          omega
      have h2 := h1 (l.take k) (fun p hp => ⟨HM.out p (List.mem_of_mem_take hp), fun e => ha (e ▸ hp)⟩)
      have h3 : (l.take k).length ≤ 5 := by simp; omega
      rw [List.length_append]
      omega
  have HBX := Lib.hid (fun k w' v (h : PSt W v0 base L m l k w' v) => hbx h)
  have HLN := Lib.hid (fun k w' v (h : PSt W v0 base L m l k w' v) => hln h)
  clear hbx hln
  refine wp_scope_many (putJ w.heap.size W (.agg mc) v0 base L m l) ?_ ?_
  · intro H _ hbk
    have HBK := Lib.hid hbk
    clear hbk
    go_wp2_with fail
    refine (parts_any m.id _).mono ?_
    rintro e w1 ⟨rfl, rfl⟩
    rw [hpl]
    go_wp2_with fail
    go_step3
    rename_i hK
    refine hK _ _ (HBK.out 0 _ _ _ _ rfl (.inl ⟨rfl, 0, v0, ⟨Nat.zero_le _, rfl, Onto.refl _ _, by simpa [encL] using HBW.out, by simp⟩, ?_⟩))
    repeat apply Exists.intro
    rfl
  · rintro lb n a' w' (⟨rfl, k, v, ⟨hk, rfl, hst⟩, u6, u7, u8, u9, u10, u12, u13, u14, u15, u16, u17, u18, u19, u20, u21, u22, u23, u24, u25, u26, u27, u28, u29, u30, u31, u32, u33, u34, u35, u36, u37, u38, u39, u40, u41, u42, u43, u44, u45, u46, u47, u48, u49, u50, u51, u52, u53, rfl⟩ | ⟨rfl, k, v, ⟨⟨hk, hpk⟩, rfl, hst⟩, u6, u7, u8, u9, u10, u12, u13, u14, u15, u16, u17, u18, u19, u20, u21, u22, u23, u24, u25, u26, u27, u28, u29, u30, u31, u32, u33, u34, u35, u36, u37, u38, u39, u40, u41, u42, u43, u44, u45, u46, u47, u48, u49, u50, u51, u52, u53, rfl⟩ | ⟨rfl, k, v, p, ⟨⟨hk, hpk⟩, hp, rfl, hst⟩, u7, u8, u9, u10, u12, u13, u14, u15, u16, u17, u18, u19, u20, u21, u22, u23, u24, u25, u26, u27, u28, u29, u30, u31, u32, u33, u34, u35, u36, u37, u38, u39, u40, u41, u42, u43, u44, u45, u46, u47, u48, u49, u50, u51, u52, u53, rfl⟩)
    · refine ⟨_, rfl, fun H hH => ?_⟩
      have HH := Lib.hid hH
      have HST := Lib.hid hst
      clear hH hst
      by_cases hlt : k < l.length
      · obtain ⟨p, hpk⟩ : ∃ p, p = l[k] := ⟨_, rfl⟩
        have hdrop : l.drop k = p :: l.drop (k + 1) := by rw [hpk]; exact List.drop_eq_getElem_cons hlt
        have hix : ∀ wx, (Instr.index 9 (.string (ltr (p :: l.drop (k + 1)))) (.int .i64 0)).run Try.prog wx = .ok (.int .u8 (p.byte.toNat)) wx := ltr_index (p :: l.drop (k + 1)) 0 (by simp)
        have hsl := ltr_slice p (l.drop (k + 1))
        obtain ⟨hn1, hn2, hn3⟩ := ltr_cons p (l.drop (k + 1))
        have HD := Lib.hid hdrop
        have HPK := Lib.hid hpk
        rw [hdrop]
        clear hdrop hpk
        by_cases ha : p = .a
        · subst ha
          have h97 : (((Pt.a).byte.toNat : Int) == 97) = true := by decide
          go_wp2_with fail
          go_quiet (fail)
          clear hix hsl
          go_wp2_with fail
          go_step3
          refine HH.out 1 (2 * (l.length - k)) _ _ (by omega) (.inr (.inl ⟨rfl, k, v, ⟨⟨hlt, HPK.out.symm⟩, rfl, HST.out.drewN _⟩, ?_⟩))
          repeat apply Exists.intro
          rfl
        · have h97 : ((p.byte.toNat : Int) == 97) = false := by cases p <;> first | decide | exact absurd rfl ha
          go_wp2_with fail
          go_quiet (fail)
          clear hix hsl
          have hst := HST.out.drewN nq
          generalize w'.drewN nq = w1 at *
          have HST1 := Lib.hid hst
          clear HST hst
          go_wp2_with fail
          by_cases hp : p.isT = true
          · refine (text_yes w.heap.size p hp _).mono ?_
            rintro e w2 ⟨rfl, rfl⟩
            go_wp2_with fail
            go_step3
            refine HH.out 2 (2 * (l.length - k)) _ _ (by omega) (.inr (.inr ⟨rfl, k, v, p, ⟨⟨hlt, HPK.out.symm⟩, hp, rfl, HST1.out⟩, ?_⟩))
            repeat apply Exists.intro
            rfl
          · replace hp : p.isT = false := by simpa using hp
            refine (text_no w.heap.size p hp _).mono ?_
            rintro e w2 ⟨rfl, rfl⟩
            go_wp2_with fail
            refine (num_any (HBX.out _ _ _ HST1.out).at_ p hp ha).mono ?_
            rintro e w2 ⟨rfl, rfl⟩
            go_wp2_with fail
            have hs8 : p.size ≤ 8 := by cases p <;> decide
            have hbw := HST1.out.on.grew.size
            refine (putNum_any base v _ (m.num p) p.size (Me.num_lt HWF.out p) hs8 _ HST1.out.buf (by omega) (Nat.le_trans (HLN.out _ _ _ HST1.out) (by decide))).mono ?_
            rintro e w2 ⟨v2, rfl, hb2, hon2⟩
            have hst2 : PSt W v0 base L m l (k + 1) w2 v2 := by
              refine ⟨HST1.out.on.trans hon2, ?_, fun h => ?_⟩
              · rw [take_step hlt, ← HPK.out, ← List.append_assoc, Me.enc_num m hp ha]
                exact hb2
              · rw [List.take_succ_eq_append_getElem hlt, ← HPK.out] at h
                rcases List.mem_append.1 h with h | h
                · exact HST1.out.few h
                · exact absurd (List.mem_singleton.1 h).symm ha
            have HST2 := Lib.hid hst2
            clear hst2 hb2 hon2
            go_wp2_with fail
            go_step3
            refine HH.out 0 _ _ _ (by omega) (.inl ⟨rfl, k + 1, v2, ⟨by omega, rfl, HST2.out⟩, ?_⟩)
            repeat apply Exists.intro
            rfl
      · obtain rfl : k = l.length := by omega
        rw [List.drop_length, ltr_nil]
        go_wp2_with fail
        go_ret2
        have h1 := HST.out.buf
        have h2 := HST.out.few
        rw [List.take_length] at h1 h2
        refine ⟨?_, .inr ⟨h2, _, rfl, h1⟩⟩
        exact (HB0.out.mono hbase).trans (HST.out.on.below HBW.out (by omega))
    · refine ⟨_, rfl, fun H hH => ?_⟩
      have HH := Lib.hid hH
      have HST := Lib.hid hst
      have HPK := Lib.hid hpk
      have hb' := HBX.out _ _ _ hst
      have hc11 := hb'.at_.cells.2.2.2.2.2.2
      have HX := Lib.hid hb'
      have hbw := hst.on.grew.size
      clear hH hst hpk hb'
      have hmem : .a ∈ l := by rw [← HPK.out]; exact List.getElem_mem hk
      have hmt : MayT 1 m.args := HM.out .a hmem
      have HMT := Lib.hid hmt
      have HMEM := Lib.hid hmem
      clear hmt hmem
      go_wp2_with fail
      refine (put_any _ HX.out.tab.tb).mono ?_
      rintro e w1 ⟨hb1, h⟩
      have hst1 : PSt W v0 base L m l k w1 v := ⟨HST.out.on.trans (Onto.of_below hb1 v), HST.out.buf.under hb1, HST.out.few⟩
      have hz1 := hb1.size
      have HB1 := Lib.hid hb1
      have HST1 := Lib.hid hst1
      clear hb1 hst1
      rcases h with ⟨h, _⟩ | ⟨_, h, rfl⟩ | ⟨_, h, v1, rfl, hbuf1⟩
      · exact absurd HMT.out h
      · have H3 := Lib.hid h
        clear h
        go_wp2_with fail
        go_ret2
        exact ⟨(HB0.out.mono hbase).trans (HST1.out.on.below HBW.out (by omega)), .inl ⟨HMEM.out, H3.out, rfl⟩⟩
      · obtain ⟨a1, c1, rfl, hlc1, hcm1⟩ := hbuf1.form
        have H3 := Lib.hid h
        have HBT := Lib.hid hbuf1.bytes
        have hl0 := HLN.out _ _ _ HST1.out
        have hl1 : (L ++ encL m (l.take k)).length + (putT m.args).length ≤ 1000000 := by omega
        have hat1 : BytesAt w1.heap.size w1 a1 (putT m.args) := by
          obtain ⟨a2, c2, he, _, _, h2⟩ := hbuf1.bytes
          cases he
          exact h2
        have HA1 := Lib.hid hat1
        have hbb : base ≤ w1.heap.size := by omega
        have HL1 := Lib.hid hl1
        clear h hbuf1 hl0 hl1 hat1
        go_wp2_with (at_builtin; refine put_bytes rfl (.tmp 51) (.tmp 52) rfl HST1.out.buf hbb HA1.out HL1.out rfl rfl rfl ?_; intro v2 w2 hb2 hon2; have HB2 := Lib.hid hb2; have HO2 := Lib.hid hon2; clear hb2 hon2)
        have hst2 : PSt W v0 base L m l (k + 1) w2 v2 := by
          refine ⟨HST1.out.on.trans HO2.out, ?_, fun _ => H3.out⟩
          rw [take_step hk, HPK.out, ← List.append_assoc]
          exact HB2.out
        have HST2 := Lib.hid hst2
        clear hst2
        go_step3
        refine HH.out 0 _ _ _ (by omega) (.inl ⟨rfl, k + 1, v2, ⟨by omega, rfl, HST2.out⟩, ?_⟩)
        repeat apply Exists.intro
        rfl
    · refine ⟨_, rfl, fun H hH => ?_⟩
      have HH := Lib.hid hH
      have HST := Lib.hid hst
      have HPK := Lib.hid hpk
      have hb' := HBX.out _ _ _ hst
      have hcell : w'.cell? ⟨w.heap.size, p.off, none⟩ = some (.string (m.str p)) := by
        obtain ⟨⟨x0, x1, x2, x3, x4, x5⟩, x6⟩ := hb'.at_.cells
        cases p <;> first | assumption | cases hp
      have hbw := hst.on.grew.size
      have hmay : m.MayP p := HM.out p (by rw [← hpk]; exact List.getElem_mem hk)
      rw [Me.may_str m hp] at hmay
      have ha : p ≠ .a := by rintro rfl; cases hp
      clear hH hst hpk hb'
      go_wp2_with fail
      refine (text_yes w.heap.size p hp _).mono ?_
      rintro e w1 ⟨rfl, rfl⟩
      go_wp2_with fail
      refine (putText_any base v _ (m.str p) 1 (by decide) (by decide) _ HST.out.buf (by omega) (Nat.le_trans (HLN.out _ _ _ HST.out) (by decide)) (by omega)).mono ?_
      rintro e w2 ⟨v2, rfl, hb2, hon2⟩
      have hst2 : PSt W v0 base L m l (k + 1) w2 v2 := by
        refine ⟨HST.out.on.trans hon2, ?_, fun h => ?_⟩
        · rw [take_step hk, HPK.out, ← List.append_assoc, Me.enc_str m hp]
          exact hb2
        · rw [List.take_succ_eq_append_getElem hk, HPK.out] at h
          rcases List.mem_append.1 h with h | h
          · exact HST.out.few h
          · exact absurd (List.mem_singleton.1 h).symm ha
      have HST2 := Lib.hid hst2
      clear hst2 hb2 hon2
      go_wp2_with fail
      go_step3
      refine HH.out 0 _ _ _ (by omega) (.inl ⟨rfl, k + 1, v2, ⟨by omega, rfl, HST2.out⟩, ?_⟩)
      repeat apply Exists.intro
      rfl

/-- what Put answers. -/
def PutMR (m : Me) (w : World) (e : Ending) (w' : World) : Prop :=
  Below w.heap.size w w' ∧ ((¬ MayM m ∧ e = .returned (.tuple #[.slice none 0 0, .int .i64 1])) ∨ (MayM m ∧ 3000 < (putT m.args).length ∧ e = .returned (.tuple #[.slice none 0 0, .int .i64 502])) ∨
    (Good m ∧ ∃ v, e = .returned (.tuple #[v, .int .i64 0]) ∧ Buf w' w.heap.size v (putM m)))

set_option maxRecDepth 100000 in
set_option maxHeartbeats 4000000 in
theorem putM_any {w : World} {m : Me} {a : Option Addr} {cap : Nat} (ht : Tb w a cap m.args) (wf : m.Wf) :
    Calls Try.prog 19 #[.agg (meC m a cap)] w (PutMR m w) := by
  have hat0 : MeAt (w.alloc (.cells (meC m a cap) 25)) w.heap.size m a cap := heap_alloc_new w _
  have hb0 : Below w.heap.size w (w.alloc (.cells (meC m a cap) 25)) := (Below.refl _ _).alloc (Nat.le_refl _) _
  have hws : (w.alloc (.cells (meC m a cap) 25)).heap.size = w.heap.size + 1 := by simp
  obtain ⟨⟨c0, c1, c2, c3, c4, c5⟩, c6, c7, c8, c9, c10, c11⟩ := hat0.cells
  have HB0 := Lib.hid hb0
  have HAT := Lib.hid hat0
  have HT := Lib.hid ht
  have HWF := Lib.hid wf
  have HTW := Lib.hid (ht.below hb0)
  obtain ⟨mc, hmc⟩ : ∃ c, c = meC m a cap := ⟨_, rfl⟩
  have HMC := Lib.hid hmc
  rw [← hmc] at c0 c1 c2 c3 c4 c5 c6 c7 c8 c9 c10 c11 hws HAT HTW HB0 ⊢
  clear hat0 ht wf hb0 hmc
  go_enter Try.func19, Try.ntmps19
  go_wp2_with fail
  refine (mayM_any (a := a) (cap := cap) HTW.out HWF.out).mono ?_
  rintro e w1 ⟨r, hr, rfl, hb1⟩
  have hat1 := HAT.out.keep (hb1.block _ HAT.out.lt)
  have ht1 := HTW.out.below hb1
  have HB1 := Lib.hid (HB0.out.trans (hb1.mono (by omega)))
  have HR := Lib.hid hr
  have HAT1 := Lib.hid hat1
  have HT1 := Lib.hid ht1
  have hz1 := hb1.size
  clear hr hb1 c0 c1 c2 c3 c4 c5 c6 c7 c8 c9 c10 c11 hat1 ht1
  obtain ⟨⟨c0, c1, c2, c3, c4, c5⟩, c6, c7, c8, c9, c10, c11⟩ := HAT1.out.cells
  cases r
  · go_wp2_with fail
    go_ret2
    exact ⟨HB1.out, .inl ⟨fun h => (by have := HR.out.2 h; cases this), rfl⟩⟩
  · have hmay : MayM m := HR.out.1 (by trivial)
    obtain ⟨l, hl, _⟩ := hmay
    have hl5 := partsOf_some hl
    have hmay := HR.out.1 (by trivial)
    have HL := Lib.hid hl
    have HM := Lib.hid hmay
    clear hl hmay HR
    obtain ⟨hi1, hi2⟩ : 2010 ≤ m.id ∧ m.id ≤ 9031 := ⟨hl5.2.2.2.1, hl5.2.2.2.2⟩
    clear hl5
    obtain ⟨C, hC⟩ : ∃ C : Nat, C = (m.id / 100).toNat := ⟨_, rfl⟩
    obtain ⟨D, hD⟩ : ∃ D : Nat, D = (m.id % 100).toNat := ⟨_, rfl⟩
    have hC1 : C ≤ 91 := by omega
    have hD1 : D ≤ 99 := by omega
    have e1 : m.id.tdiv 100 = (C : Int) := by rw [Int.tdiv_eq_ediv_of_nonneg (by omega)]; omega
    have e2 : m.id.tmod 100 = (D : Int) := by rw [Int.tmod_eq_emod_of_nonneg (by omega)]; omega
    have u1 : IntKind.u64.wrap (C : Int) = (C : Int) := by rw [IntKind.wrap_u64]; omega
    have u2 : IntKind.u64.wrap (D : Int) = (D : Int) := by rw [IntKind.wrap_u64]; omega
    have i1 : IntKind.i64.wrap (C : Int) = (C : Int) := IntWalk.i64_in _ (by omega)
    have HCD := Lib.hid (And.intro hC hD)
    clear hC hD
    have HI := Lib.hid (And.intro hi1 hi2)
    clear hi1 hi2
    go_wp2_with fail
    refine (putNum_any w.heap.size (.slice none 0 0) [] C 2 (by omega) (by decide) _ (Buf.nil _ _) HB1.out.size (by simp)).mono ?_
    rintro e w2 ⟨v2, rfl, hb2, hon2⟩
    have hbl2 : Below w1.heap.size w1 w2 := (Below.refl _ _).grown hon2.grew (Nat.le_refl _) (fun k hk => by cases hk)
    have hat2 := HAT1.out.keep (hbl2.block _ HAT1.out.lt)
    have HT2 := Lib.hid (HT1.out.below hbl2)
    have HB2 := Lib.hid (HB1.out.trans (hbl2.mono HB1.out.size))
    have HBF2 := Lib.hid hb2
    have HAT2 := Lib.hid hat2
    have hne2 : v2.ownBlock ≠ some w.heap.size := fun e => by
      rcases hon2.own with h | ⟨g, h, hg⟩
      · rw [e] at h; cases h
      · rw [e] at h
        cases h
        omega
    have HNE := Lib.hid hne2
    clear hne2 hb2 hon2 hbl2 HT1 c0 c1 c2 c3 c4 c5 c6 c7 c8 c9 c10 c11
    have c0 := hat2.cells.1.1
    clear hat2
    go_wp2_with fail
    refine (putNum_any w.heap.size v2 _ D 2 (by omega) (by decide) _ HBF2.out HB2.out.size (by simp)).mono ?_
    rintro e w3 ⟨v3, rfl, hb3, hon3⟩
    have hbl3 := hon3.below HBF2.out HB2.out.size
    have hat3 : MeAt w3 w.heap.size m a cap := HAT2.out.keep (hon3.block HAT2.out.lt HNE.out)
    have hB3 := HB2.out.trans hbl3
    have HT3 := Lib.hid (HT.out.up.below hB3)
    have HB3 := Lib.hid hB3
    have HBF3 := Lib.hid hb3
    clear hb3 hon3 hbl3 HT2 c0 hB3
    obtain ⟨⟨c0, c1, c2, c3, c4, c5⟩, c6, c7, c8, c9, c10, c11⟩ := hat3.cells
    clear hat3
    have hh : headM m.id = [] ++ be 2 C ++ be 2 D := by unfold headM; rw [← HCD.out.1, ← HCD.out.2]; simp
    have HH := Lib.hid hh
    clear hh
    go_wp2_with fail
    refine (putP_any (m := m) (a := a) (cap := cap) w.heap.size v3 _ HL.out (fun p _ => mayM_all HM.out p) HWF.out _ HBF3.out HB3.out.size HT3.out (by simp)).mono ?_
    rintro e w4 ⟨hb4, h⟩
    have HB4 := Lib.hid (HB3.out.trans hb4)
    clear hb4 c0 c1 c2 c3 c4 c5 c6 c7 c8 c9 c10 c11
    have hno : .a ∉ l → (putT m.args).length ≤ 3000 := fun h => by
      have := ((mayM_iff HL.out).1 HM.out).2 .a h
      rw [show m.args = [] from this]
      decide
    have HNO := Lib.hid hno
    clear hno
    rcases h with ⟨h1, h2, rfl⟩ | ⟨h1, v4, rfl, h2⟩
    · have H2 := Lib.hid h2
      clear h1 h2
      go_wp2_with fail
      go_ret2
      exact ⟨HB4.out, .inr (.inl ⟨HM.out, H2.out, rfl⟩)⟩
    · have H1 := Lib.hid h1
      have H2 := Lib.hid h2
      clear h1 h2
      go_wp2_with fail
      go_ret2
      refine ⟨HB4.out, .inr (.inr ⟨⟨HM.out, HWF.out, ?_⟩, _, rfl, ?_⟩)⟩
      · by_cases ha : .a ∈ l
        · exact H1.out ha
        · exact HNO.out ha
      · have h2 := H2.out
        rw [← HH.out] at h2
        rw [putM_eq HL.out]
        exact h2

end Go.Proofs.Ytjnnpgmgjdhfjaa
