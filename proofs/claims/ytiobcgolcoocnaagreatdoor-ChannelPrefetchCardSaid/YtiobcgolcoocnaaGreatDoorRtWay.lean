/-
  Package point's Of and Way; route.way, walked.
  route.nearest, walked.
-/
import Derived.Test.YtiobcgolcoocnaaGreatDoorRtMayL
import Derived.Test.YtiobcgolcoocnaaGreatDoorShelf
import Derived.Lib.ItoaLen
import Derived.Deep.QuietTactic
import Derived.BigQuiet

namespace Go.Proofs.YtiobcgolcoocnaaGreatDoor.Rt
open Go.RowKit Top
set_option linter.unusedVariables false

def stirB (h : Int) : Int :=
  bits .xor .u32 (bits .xor .u32 h (h / 32768) * 2246822519 % 4294967296) (bits .xor .u32 h (h / 32768) * 2246822519 % 4294967296 / 8192)

def mix1 (h : Int) (c : UInt8) : Int := bits .xor .u32 h (c.toNat % 4294967296) * 16777619 % 4294967296

def mixB (l : List UInt8) : Int := l.foldl mix1 2166136261

def ofB (l : List UInt8) : Int := stirB (mixB l)

theorem mixB_snoc (l : List UInt8) (c : UInt8) : mixB (l ++ [c]) = mix1 (mixB l) c := by unfold mixB; simp

theorem mixB_in (l : List UInt8) : 0 ≤ mixB l ∧ mixB l < 4294967296 := by
  rcases List.eq_nil_or_concat l with rfl | ⟨l', c, rfl⟩
  · exact ⟨by decide, by decide⟩
  · rw [List.concat_eq_append, mixB_snoc]; unfold mix1; omega

theorem take_snoc (s : ByteArray) (k : Nat) (h : k < s.size) : s.data.toList.take (k + 1) = s.data.toList.take k ++ [s[k]] := by
  rw [List.take_succ_eq_append_getElem (by simpa using h)]; rfl

theorem ret_u32 {a b : Int} (h : a = b) : Ending.returned (.int .u32 a) = .returned (.int .u32 b) := by rw [h]

theorem stir_any (h : Int) (h0 : 0 ≤ h) (h1 : h < 4294967296) (w : World) :
    Calls Tryz.prog 73 #[.int .u32 h] w fun e w' => e = .returned (.int .u32 (stirB h)) ∧ w = w' := by
  go_enter Tryz.func73, Tryz.ntmps73
  go_wp2
  go_ret
  exact ⟨rfl, rfl⟩

theorem way_any (a b : Int) (w : World) :
    Calls Tryz.prog 75 #[.int .u32 a, .int .u32 b] w fun e w' => e = .returned (.int .u32 ((b - a) % 4294967296)) ∧ w = w' := by
  go_enter Tryz.func75, Tryz.ntmps75
  go_wp2
  go_ret
  exact ⟨rfl, rfl⟩

theorem mix_any (s : ByteArray) (hs : s.size ≤ maxLen) (w : World) :
    Calls Tryz.prog 74 #[.string s] w fun e w' => e = .returned (.int .u32 (mixB s.data.toList)) ∧ w = w' := by
  unfold maxLen at hs
  go_enter Tryz.func74, Tryz.ntmps74
  go_wp2
  refine wp_scope_jumps 0 (fun a' w' => w = w' ∧ ∃ (k : Nat) (u5 u6 u7 u8 u9 u10 u11 u12 u13 u14 u15 u16 u17 : Value), a' = { tmps := #[.string s, undef, .int .u32 0, .int .u32 (mixB (s.data.toList.take k)), .int .i64 k, u5, u6, u7, u8, u9, u10, u11, u12, u13, u14, u15, u16, u17, undef], defers := [] } ∧ k ≤ s.size) (fun a' _ => s.size - (intOf (a'.tmps.getD 4 undef)).toNat) rfl ?_ ?_
  · go_wp2
    go_step3
    by_cases hlt : 0 < s.size
    · have hsn := mixB_snoc (s.data.toList.take 0) (s[0]'hlt)
      rw [← take_snoc s 0 hlt] at hsn
      have HS := Lib.hid hsn
      clear hsn
      go_wp2
      go_step3
      refine ⟨rfl, rfl, 1, ?_⟩
      repeat apply Exists.intro
      refine ⟨?_, by omega⟩
      rw [show (1 : Nat) = 0 + 1 from rfl, HS.out]
      unfold mix1
      rfl
    · have hall : s.data.toList = [] := List.eq_nil_of_length_eq_zero (by have e : s.data.toList.length = s.size := by simp
                                                                          omega)
      have HS := Lib.hid hall
      clear hall
      go_wp2
      simp only [Exit.jump]
      go_ret
      exact ⟨ret_u32 (by rw [HS.out]; rfl), rfl⟩
  · rintro a' w' ⟨rfl, k, u5, u6, u7, u8, u9, u10, u11, u12, u13, u14, u15, u16, u17, rfl, hk⟩
    have hm := mixB_in (s.data.toList.take k)
    by_cases hlt : k < s.size
    · have hsn := mixB_snoc (s.data.toList.take k) s[k]
      rw [← take_snoc s k hlt] at hsn
      have HS := Lib.hid hsn
      clear hsn
      go_wp2
      go_step3
      refine ⟨rfl, ⟨rfl, k + 1, ?_⟩, ?_⟩
      · repeat apply Exists.intro
        refine ⟨?_, by omega⟩
        rw [HS.out]
        unfold mix1
        rfl
      · simp [intOf]; omega
    · have hall : s.data.toList.take k = s.data.toList := List.take_of_length_le (by simp; omega)
      have HS := Lib.hid hall
      clear hall
      go_wp2
      simp only [Exit.jump]
      go_ret
      exact ⟨ret_u32 (by rw [HS.out]), rfl⟩

theorem of_any (s : ByteArray) (hs : s.size ≤ maxLen) (w : World) :
    Calls Tryz.prog 58 #[.string s] w fun e w' => e = .returned (.int .u32 (ofB s.data.toList)) ∧ w = w' := by
  have hm := mixB_in s.data.toList
  go_enter Tryz.func58, Tryz.ntmps58
  go_wp2_with fail
  refine (mix_any s hs _).mono ?_
  rintro e w' ⟨rfl, rfl⟩
  go_wp2_with fail
  refine (stir_any _ hm.1 hm.2 _).mono ?_
  rintro e w' ⟨rfl, rfl⟩
  go_wp2_with fail
  go_ret
  exact ⟨rfl, rfl⟩

/-- the place of a binding's point. -/
def dotB (q : List UInt8) (i : Nat) : Int := ofB (q ++ 35 :: Lib.decDigits i)
def stepW (src : Int) (q : List UInt8) (m : Int) (i : Nat) : Int := min m ((dotB q i - src) % 4294967296)
def wayN (src : Int) (q : List UInt8) (n : Nat) : Int := (List.range n).foldl (stepW src q) 4294967295
theorem wayN_succ (src : Int) (q : List UInt8) (n : Nat) : wayN src q (n + 1) = stepW src q (wayN src q n) n := by
  unfold wayN
  rw [List.range_succ, List.foldl_append]
  rfl
/-- how far it is to the binding's next point. -/
def wayB (src : Int) (b : Bd) : Int := wayN src b.q (min b.wt 4).toNat

def wayRel (w : World) (src : Int) (b : Bd) (M : Int) (m : Nat) (v5 v10 : Value) (wr : World) : Prop :=
  ∃ i : Nat, i ≤ M.toNat ∧ v5 = .int .u32 (wayN src b.q i) ∧ v10 = .int .i64 i ∧ m = M.toNat - i ∧ BoxB wr w.heap.size b ∧ Below w.heap.size w wr

theorem dot_text (q : List UInt8) (i : Nat) (hq : q.length ≤ 1000000) (hi : i < 100) :
    ((⟨q.toArray⟩ : ByteArray) ++ ⟨#[35]⟩ ++ ⟨(Lib.decDigits i).toArray⟩) = ⟨(q ++ 35 :: Lib.decDigits i).toArray⟩ := by
  rw [show (⟨#[35]⟩ : ByteArray) = ⟨[35].toArray⟩ from rfl, cat_list, cat_list]; simp

set_option maxRecDepth 100000 in
set_option maxHeartbeats 1000000 in
theorem wayTo_any (src : Int) (b : Bd) (hq : b.q.length ≤ 1000000) (w : World) :
    Calls Tryz.prog 59 #[.int .u32 src, .agg #[.string ⟨b.ex.toArray⟩, .string ⟨b.q.toArray⟩, .string ⟨b.key.toArray⟩, .int .i64 b.wt]] w fun e w' => e = .returned (.int .u32 (wayB src b)) ∧ Below w.heap.size w w' := by
  have HBOX := Lib.hid (boxB w b)
  have HB0 := Lib.hid (show Below w.heap.size w (w.alloc (.cells #[.string ⟨b.ex.toArray⟩, .string ⟨b.q.toArray⟩, .string ⟨b.key.toArray⟩, .int .i64 b.wt] 92)) from (Below.refl _ _).alloc (Nat.le_refl _) _)
  obtain ⟨M, hM⟩ : ∃ M, min b.wt 4 = M := ⟨_, rfl⟩
  have hM4 : M ≤ 4 := by omega
  have hV : wayB src b = wayN src b.q M.toNat := by unfold wayB; rw [hM]
  rw [hV]
  clear hV
  go_enter Tryz.func59, Tryz.ntmps59
  go_wp2_with fail
  go_loopg [5, 10] M.toNat (wayRel w src b M)
  case atStart => exact ⟨0, Nat.zero_le _, rfl, rfl, rfl, HBOX.out, HB0.out⟩
  case round =>
    obtain ⟨i, hi, rfl, rfl, rfl, hbox, hb⟩ := hrel
    have HB := Lib.hid hb
    have HBX := Lib.hid hbox
    obtain ⟨k0, k1, k2, k3⟩ := hbox
    clear hb
    by_cases hlt : i < M.toNat
    · have hlti : (i : Int) < M := by omega
      have hi4 : i < 100 := by omega
      have hdt := dot_text b.q i hq hi4
      have hdl : (Lib.decDigits i).length ≤ 100 := by
        have hi44 : i < 4 := by omega
        have h' : ∀ j : Fin 4, (Lib.decDigits j.val).length ≤ 100 := by decide +kernel
        exact h' ⟨i, hi44⟩
      have hsz : (⟨(b.q ++ 35 :: Lib.decDigits i).toArray⟩ : ByteArray).size ≤ maxLen := by
        show (b.q ++ 35 :: Lib.decDigits i).toArray.size ≤ maxLen
        simp [maxLen]; omega
      have HO := Lib.hid (of_any _ hsz)
      have HIT := Lib.hid (fun w => Tryz.strconv_Itoa_small i hi4 w)
      have hQs : (⟨b.q.toArray⟩ : ByteArray).size ≤ 1000000 := by show b.q.toArray.size ≤ 1000000; simpa using hq
      have hDs : (⟨(Lib.decDigits i).toArray⟩ : ByteArray).size ≤ 100 := by show (Lib.decDigits i).toArray.size ≤ 100; simpa using hdl
      clear hsz hdl
      obtain ⟨Q, hQd⟩ : ∃ Q : ByteArray, Q = ⟨b.q.toArray⟩ := ⟨_, rfl⟩
      obtain ⟨D, hDd⟩ : ∃ D : ByteArray, D = ⟨(Lib.decDigits i).toArray⟩ := ⟨_, rfl⟩
      rw [← hQd] at k1 hdt hQs
      rw [← hDd] at HIT hdt hDs
      clear hQd hDd
      have HDT := Lib.hid hdt
      clear hdt
      go_wp2_with fail
      go_quiet ((first | (go_at_call 76; exact Calls.quiet_of_same (HIT.out _)) | (go_at_call 58; rw [HDT.out]; exact Calls.quiet_of_same ((HO.out _).mono fun e w' h => ⟨h.1, h.2.symm⟩)) | (go_at_call 75; exact Calls.quiet_of_same ((way_any _ _ _).mono fun e w' h => ⟨h.1, h.2.symm⟩))))
      go_wp2_with fail
      go_roundg (M.toNat - (i + 1))
      case measure => omega
      case rel => exact ⟨i + 1, by omega, by rw [wayN_succ]; rfl, by simp, rfl, HBX.out.below (Below.drewN (Below.refl _ _) _), Below.drewN HB.out _⟩
    · obtain rfl : i = M.toNat := by omega
      have hge : ¬ ((M.toNat : Int) < M) := by omega
      go_wp2_with fail
      go_ret
      exact ⟨rfl, HB.out⟩

end Go.Proofs.YtiobcgolcoocnaaGreatDoor.Rt

namespace Go.Proofs.YtiobcgolcoocnaaGreatDoor.Rt
open Go.RowKit Top
set_option linter.unusedVariables false

/-- the nearest so far: none, or its queue and how far it is. -/
def nearB (ex : List UInt8) (src : Int) (s : Option (List UInt8 × Int)) (b : Bd) : Option (List UInt8 × Int) :=
  if b.ex = ex then (match s with
    | none => some (b.q, wayB src b)
    | some (q, m) => if wayB src b < m then some (b.q, wayB src b) else some (q, m))
  else s
def nearS (ex : List UInt8) (src : Int) (s : Option (List UInt8 × Int)) (l : List Bd) : Option (List UInt8 × Int) := l.foldl (nearB ex src) s
def nearL (ex key : List UInt8) (l : List Bd) : Option (List UInt8 × Int) := nearS ex (ofB key) none l
/-- the queue, in memory. -/
def nearQ (w : World) (base : Nat) (v : Value) (s : Option (List UInt8 × Int)) : Prop :=
  match s with
  | none => v = .slice none 0 0
  | some (q, _) => ∃ g, v = .slice (some ⟨g, 0, none⟩) 1 1 ∧ base ≤ g ∧ w.cell? ⟨g, 0, none⟩ = some (.string ⟨q.toArray⟩)
theorem nearQ.below {w w' : World} {base : Nat} {v : Value} {s : Option (List UInt8 × Int)} (h : nearQ w base v s) (hb : Below w.heap.size w w') : nearQ w' base v s := by
  match s with
  | none => exact h
  | some (q, m) =>
    obtain ⟨g, hv, hg, hc⟩ := h
    exact ⟨g, hv, hg, (hb.cell (lt_of_cell hc)).trans hc⟩
theorem nearQ.mono {w : World} {base base' : Nat} {v : Value} {s : Option (List UInt8 × Int)} (h : nearQ w base v s) (hb : base' ≤ base) : nearQ w base' v s := by
  match s with
  | none => exact h
  | some (q, m) =>
    obtain ⟨g, hv, hg, hc⟩ := h
    exact ⟨g, hv, Nat.le_trans hb hg, hc⟩
def nearM (s : Option (List UInt8 × Int)) : Int := match s with | none => 0 | some (_, m) => m

def nearRel (ex key : List UInt8) (l : List Bd) (w : World) (m : Nat) (a' : Act) (w' : World) : Prop :=
  ∃ (rest : List Bd) (s : Option (List UInt8 × Int)) (a : Option Addr) (cap : Nat) (v : Value) (u10 u11 u12 u13 u14 u15 u16 u17 u18 u19 u20 u21 u22 u23 u24 u25 u26 u27 u28 u29 u30 u31 u32 u33 u34 u35 u36 u37 u38 u39 u40 : Value), a' = { tmps := #[.slice a rest.length cap, .string ⟨ex.toArray⟩, .string ⟨key.toArray⟩, undef, undef, undef, .slice none 0 0, v, .int .u32 (ofB key), .int .u32 (nearM s), u10, u11, u12, u13, u14, u15, u16, u17, u18, u19, u20, u21, u22, u23, u24, u25, u26, u27, u28, u29, u30, u31, u32, u33, u34, u35, u36, u37, u38, u39, u40], defers := [] } ∧
    m = rest.length ∧ nearS ex (ofB key) s rest = nearL ex key l ∧ BsAt w a cap rest ∧ (∀ b ∈ rest, b ∈ l) ∧ Below w.heap.size w w' ∧ nearQ w' w.heap.size v s

set_option maxRecDepth 100000 in
set_option maxHeartbeats 1000000 in
theorem nearest_any (a : Option Addr) (cap : Nat) (l : List Bd) (ex key : List UInt8) (hk : key.length ≤ 1000000) (hq : ∀ b ∈ l, b.q.length ≤ 1000000) (w : World) (hl : BsAt w a cap l) :
    Calls Tryz.prog 44 #[.slice a l.length cap, .string ⟨ex.toArray⟩, .string ⟨key.toArray⟩] w fun r w' => Below w.heap.size w w' ∧ ∃ v, r = .returned v ∧ nearQ w' w.heap.size v (nearL ex key l) := by
  have HL := Lib.hid hl
  have HQ := Lib.hid hq
  have hksz : (⟨key.toArray⟩ : ByteArray).size ≤ maxLen := by show key.toArray.size ≤ maxLen; simp [maxLen]; omega
  have HOF := Lib.hid (of_any ⟨key.toArray⟩ hksz)
  clear hl hq hksz
  go_enter Tryz.func44, Tryz.ntmps44
  go_wp2_with fail
  refine wp_scope_ghost 0 (nearRel ex key l w) rfl ?_ ?_
  · intro H hb'
    have HBK := Lib.hid hb'
    clear hb'
    go_wp2_with (go_at_call 58; refine (HOF.out _).mono ?_; rintro r w2 ⟨rfl, rfl⟩)
    go_step3
    rename_i hK
    refine hK _ _ (HBK.out l.length _ _ ⟨l, none, a, cap, .slice none 0 0, ?_⟩)
    repeat apply Exists.intro
    exact ⟨rfl, rfl, rfl, HL.out, fun b h => h, Below.refl _ _, rfl⟩
  · rintro m a' w' ⟨rest, s, a, cap, v, u10, u11, u12, u13, u14, u15, u16, u17, u18, u19, u20, u21, u22, u23, u24, u25, u26, u27, u28, u29, u30, u31, u32, u33, u34, u35, u36, u37, u38, u39, u40, rfl, rfl, hsp, hat, hsub, hb, hv⟩ H hH
    have HH := Lib.hid hH
    have HSP := Lib.hid hsp
    have HSUB := Lib.hid hsub
    have HB := Lib.hid hb
    have HV := Lib.hid hv
    clear hH hsp hsub
    cases rest with
    | nil =>
      clear hat hb hv
      go_wp2_with fail
      simp only [Exit.jump]
      go_ret
      refine ⟨HB.out, v, rfl, ?_⟩
      rw [← HSP.out]
      exact HV.out
    | cons b rest =>
      obtain ⟨lb, lo, a2, rfl, c0, c1, c2, c3, hat2, hcap1, hrun⟩ := BsAt.head hat
      have HAT2 := Lib.hid hat2
      have d0 := (hb.cell (lt_of_cell c0)).trans c0
      have d1 := (hb.cell (lt_of_cell c1)).trans c1
      have d2 := (hb.cell (lt_of_cell c2)).trans c2
      have d3 := (hb.cell (lt_of_cell c3)).trans c3
      have hbq := HQ.out b (HSUB.out b (by simp))
      have hbN : Below w'.heap.size w' (w'.alloc (.cells #[.string ⟨b.ex.toArray⟩, .string ⟨b.q.toArray⟩, .string ⟨b.key.toArray⟩, .int .i64 b.wt] 92)) := (Below.refl _ _).alloc (Nat.le_refl _) _
      have HBN := Lib.hid hbN
      have HBB := Lib.hid (boxB w' b)
      have hl0 : ((rest.length : Int) + 1 == 0) = false := by simp; omega
      clear c0 c1 c2 c3 hat hat2 hb hv hbN
      by_cases hx : b.ex = ex
      · have hxb : (b.ex == ex) = true := by simpa using hx
        have HX := Lib.hid hx
        have HWAY := Lib.hid (wayTo_any (ofB key) b hbq (w'.alloc (.cells #[.string ⟨b.ex.toArray⟩, .string ⟨b.q.toArray⟩, .string ⟨b.key.toArray⟩, .int .i64 b.wt] 92)))
        have wWAY := Lib.hid (show ∀ Q : Ending → World → Prop, (∀ w2, Below w'.heap.size w' w2 → BoxB w2 w'.heap.size b → Q (.returned (.int .u32 (wayB (ofB key) b))) w2) → Calls Tryz.prog 59 #[.int .u32 (ofB key), .agg #[.string ⟨b.ex.toArray⟩, .string ⟨b.q.toArray⟩, .string ⟨b.key.toArray⟩, .int .i64 b.wt]] (w'.alloc (.cells #[.string ⟨b.ex.toArray⟩, .string ⟨b.q.toArray⟩, .string ⟨b.key.toArray⟩, .int .i64 b.wt] 92)) Q from fun Q hQ => by
          refine HWAY.out.mono ?_
          rintro r w2 ⟨rfl, hb2⟩
          exact hQ w2 (HBN.out.trans (hb2.mono HBN.out.size)) (HBB.out.below hb2))
        have hst := show nearS ex (ofB key) (nearB ex (ofB key) s b) rest = nearL ex key l from HSP.out
        have HST := Lib.hid hst
        clear hx HWAY HBB hst HSP
        generalize hWW : wayB (ofB key) b = W at wWAY
        have HWW := Lib.hid hWW
        clear hWW
        cases s with
        | none =>
          obtain rfl : v = .slice none 0 0 := HV.out
          have hnil : ∀ wx, (binOp .eql 36 (.slice none 0 0) (.slice none 0 0)).run Tryz.prog wx = .ok (.bool true) wx := fun wx => Lib.run_eql_slice_nil wx 36 9 none 0 0 0 0 Tryz.underlying36
          go_wp2_with (go_at_call 59; refine wWAY.out _ ?_; intro w2 hb2 hbb2; have HB2 := Lib.hid hb2; obtain ⟨f0, f1, f2, f3⟩ := hbb2; clear hb2)
          go_step3
          have hb3 : Below w'.heap.size w' (w2.alloc (.cells #[.string ⟨b.q.toArray⟩] 9)) := HB2.out.alloc HB2.out.size _
          refine ⟨rfl, HH.out rest.length _ _ (by simp) ⟨rest, some (b.q, W), a2, cap - 1, .slice (some ⟨w2.heap.size, 0, none⟩) 1 1, ?_⟩⟩
          repeat apply Exists.intro
          refine ⟨rfl, rfl, ?_, HAT2.out, fun c hc => HSUB.out c (by simp [hc]), HB.out.trans (hb3.mono HB.out.size), w2.heap.size, rfl, Nat.le_trans HB.out.size HB2.out.size, by rw [cell_of_row _ _ _ _ _ _ (heap_alloc_new w2 _)]; rfl⟩
          rw [← HST.out]
          unfold nearB
          rw [if_pos HX.out, HWW.out]
        | some qm =>
          obtain ⟨q, m⟩ := qm
          obtain ⟨g, rfl, hgb, hgc⟩ : ∃ g, v = .slice (some ⟨g, 0, none⟩) 1 1 ∧ w.heap.size ≤ g ∧ w'.cell? ⟨g, 0, none⟩ = some (.string ⟨q.toArray⟩) := HV.out
          have hnil : ∀ wx, (binOp .eql 36 (.slice (some ⟨g, 0, none⟩) 1 1) (.slice none 0 0)).run Tryz.prog wx = .ok (.bool false) wx := fun wx => Lib.run_eql_slice_nil wx 36 9 (some ⟨g, 0, none⟩) 1 1 0 0 Tryz.underlying36
          have hm : nearM (some (q, m)) = m := rfl
          clear hgb hgc
          by_cases hlt : W < m
          · go_wp2_with (go_at_call 59; refine wWAY.out _ ?_; intro w2 hb2 hbb2; have HB2 := Lib.hid hb2; obtain ⟨f0, f1, f2, f3⟩ := hbb2; clear hb2)
            go_step3
            have hb3 : Below w'.heap.size w' (w2.alloc (.cells #[.string ⟨b.q.toArray⟩] 9)) := HB2.out.alloc HB2.out.size _
            refine ⟨rfl, HH.out rest.length _ _ (by simp) ⟨rest, some (b.q, W), a2, cap - 1, .slice (some ⟨w2.heap.size, 0, none⟩) 1 1, ?_⟩⟩
            repeat apply Exists.intro
            refine ⟨rfl, rfl, ?_, HAT2.out, fun c hc => HSUB.out c (by simp [hc]), HB.out.trans (hb3.mono HB.out.size), w2.heap.size, rfl, Nat.le_trans HB.out.size HB2.out.size, by rw [cell_of_row _ _ _ _ _ _ (heap_alloc_new w2 _)]; rfl⟩
            rw [← HST.out]
            unfold nearB
            rw [if_pos HX.out, HWW.out]
            show _ = nearS ex (ofB key) (if W < m then some (b.q, W) else some (q, m)) rest
            rw [if_pos hlt]
          · have hltb : decide (W < m) = false := decide_eq_false hlt
            have HLT := Lib.hid hlt
            clear hlt
            go_wp2_with (go_at_call 59; refine wWAY.out _ ?_; intro w2 hb2 hbb2; have HB2 := Lib.hid hb2; obtain ⟨f0, f1, f2, f3⟩ := hbb2; clear hb2)
            go_step3
            refine ⟨rfl, HH.out rest.length _ _ (by simp) ⟨rest, some (q, m), a2, cap - 1, .slice (some ⟨g, 0, none⟩) 1 1, ?_⟩⟩
            repeat apply Exists.intro
            refine ⟨rfl, rfl, ?_, HAT2.out, fun c hc => HSUB.out c (by simp [hc]), HB.out.trans (HB2.out.mono HB.out.size), HV.out.below HB2.out⟩
            rw [← HST.out]
            unfold nearB
            rw [if_pos HX.out, HWW.out]
            show _ = nearS ex (ofB key) (if W < m then some (b.q, W) else some (q, m)) rest
            rw [if_neg (by have := HLT.out; omega)]
      · have hxb : (b.ex == ex) = false := by simpa using hx
        have HX := Lib.hid hx
        clear hx
        go_wp2_with fail
        go_step3
        refine ⟨rfl, HH.out rest.length _ _ (by simp) ⟨rest, s, a2, cap - 1, v, ?_⟩⟩
        repeat apply Exists.intro
        exact ⟨rfl, rfl, by rw [← HSP.out]; show _ = nearS ex (ofB key) (nearB ex (ofB key) s b) rest; unfold nearB; rw [if_neg HX.out], HAT2.out, fun c hc => HSUB.out c (by simp [hc]), HB.out.trans (HBN.out.mono HB.out.size), HV.out.below HBN.out⟩

end Go.Proofs.YtiobcgolcoocnaaGreatDoor.Rt
