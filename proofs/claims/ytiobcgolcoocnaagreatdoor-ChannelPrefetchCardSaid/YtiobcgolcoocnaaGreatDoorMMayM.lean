/-
  package method's May, walked.
-/
import Derived.Test.YtiobcgolcoocnaaGreatDoorMMay
import Derived.Test.YtiobcgolcoocnaaGreatDoorMSame
import Derived.Test.YtiobcgolcoocnaaGreatDoorMDat
import Derived.Test.YtiobcgolcoocnaaGreatDoorSameW
namespace Go.Proofs.YtiobcgolcoocnaaGreatDoor
open Go.RowKit
set_option linter.unusedVariables false

/-- two tables of unlike lengths are not the same. -/
theorem same_len0 (a : Option Addr) (n cap : Nat) (h1 : n ≤ maxLen) (hne : n ≠ 0) (w : World) :
    Calls Tryz.prog 50 #[.slice a n cap, .slice none 0 0] w fun e w' => e = .returned (.bool false) ∧ w = w' := by
  unfold maxLen at h1
  have hb : ((n : Int) == 0) = false := by rw [beq_eq_false_iff_ne]; omega
  have HL := Lib.hid hne
  clear hne
  go_enter Tryz.func50, Tryz.ntmps50
  go_wp2_with fail
  go_step3
  go_wp2_with fail
  try rw [Exit.noGoto_ret]
  go_ret
  exact ⟨rfl, rfl⟩
/-- Same of a table and none. -/
theorem same_none {w : World} {a : Option Addr} {cap : Nat} {l : List It} (h : Tb w a cap l) :
    Calls Tryz.prog 50 #[.slice a l.length cap, .slice none 0 0] w (fun e w' => ∃ r : Bool, e = .returned (.bool r) ∧ Below w.heap.size w w' ∧ (r = true ↔ l = [])) := by
  by_cases hl : l = []
  · subst hl
    obtain ⟨bs, hs⟩ := h
    refine (same_two (m := []) False hs (Tb.nil w none (by decide)) (by simp [weigh]) (fun h => h.elim)).mono ?_
    rintro e w' ⟨r, rfl, hb, hr, _⟩
    exact ⟨r, rfl, hb, fun _ => rfl, hr⟩
  · have hn : l.length ≠ 0 := fun e => hl (List.eq_nil_of_length_eq_zero e)
    refine (same_len0 a l.length cap (Nat.le_trans h.len.1 h.len.2) hn w).mono ?_
    rintro e w' ⟨rfl, rfl⟩
    exact ⟨false, rfl, Below.refl _ _, by simp [hl]⟩

def mayMRel (W : World) (M m : Me) (v : Value) (l : List Pt) (n : Nat) (a' : Act) (w' : World) : Prop :=
  ∃ (k : Nat) (m' : Me) (a : Option Addr) (cap : Nat) (u5 u6 u7 u8 u9 u10 u11 u12 u13 u14 u15 u16 u17 u18 u19 u20 u21 u22 u23 u24 u25 u26 u27 u28 u29 : Value), a' = { tmps := #[v, .pointer (some ⟨W.heap.size, 0, none⟩), .bool false, .string (ltr l), .int .i64 k, u5, u6, u7, u8, u9, u10, u11, u12, u13, u14, u15, u16, u17, u18, u19, u20, u21, u22, u23, u24, u25, u26, u27, u28, u29], defers := [] } ∧
    k ≤ l.length ∧ n = l.length - k ∧ MBox W.heap.size w' W.heap.size m' a cap ∧ m'.id = m.id ∧ (mayL m l ↔ mayL m' (l.drop k)) ∧ Below W.heap.size W w'

set_option maxRecDepth 100000 in
set_option maxHeartbeats 8000000 in
theorem mayM_any {w : World} {m : Me} {a : Option Addr} {cap : Nat} (ht : Tb w a cap m.args) (wf : m.Wf) :
    Calls Tryz.prog 17 #[.agg (meC m a cap)] w (SaysB (MayM m) w) := by
  have hbox : MBox w.heap.size (w.alloc (.cells (meC m a cap) 31)) w.heap.size m a cap :=
    ⟨heap_alloc_new w _, ht.up.below ((Below.refl _ _).alloc (Nat.le_refl _) _), wf⟩
  have hb0 : Below w.heap.size w (w.alloc (.cells (meC m a cap) 31)) := (Below.refl _ _).alloc (Nat.le_refl _) _
  have HBOX := Lib.hid hbox
  have HB0 := Lib.hid hb0
  have hc0 := hbox.at_.cells.1.1
  clear hbox hb0
  obtain ⟨mc, hmc⟩ : ∃ c, c = meC m a cap := ⟨_, rfl⟩
  rw [← hmc] at HBOX HB0 hc0 ⊢
  clear hmc
  have hw0 : (w.alloc (.cells mc 31)).heap.size = w.heap.size + 1 := by simp
  cases hp : partsOf m.id with
  | none =>
    have hs : partsStr m.id = ⟨#[45]⟩ := by unfold partsStr; rw [hp]
    have HP := Lib.hid hp
    clear hp
    go_enter Tryz.func17, Tryz.ntmps17
    go_wp2
    refine wp_scope_ghost 0 (fun _ _ _ => False) rfl ?_ (fun _ _ _ h => h.elim)
    intro H hbk
    clear hbk
    go_wp2_with fail
    refine (parts_any m.id _).mono ?_
    rintro e w1 ⟨rfl, rfl⟩
    rw [hs]
    go_wp2_with fail
    try simp only [Exit.jump]
    go_ret
    exact ⟨false, ⟨fun h => by (cases h), fun ⟨l, h, _⟩ => by rw [HP.out] at h; cases h⟩, rfl, HB0.out⟩
  | some l =>
    have hs : partsStr m.id = ltr l := by unfold partsStr; rw [hp]
    obtain ⟨hd1, hd2⟩ := ltr_dash l
    have hl5 := (partsOf_some hp).1
    have HP := Lib.hid hp
    have HS := Lib.hid hs
    clear hp hs
    go_enter Tryz.func17, Tryz.ntmps17
    go_wp2
    refine wp_scope_ghost 0 (mayMRel w m m (.agg mc) l) rfl ?_ ?_
    · intro H hbk
      have HBK := Lib.hid hbk
      clear hbk
      go_wp2_with fail
      refine (parts_any m.id _).mono ?_
      rintro e w1 ⟨rfl, rfl⟩
      rw [HS.out]
      go_wp2_with fail
      go_step3
      rename_i hK
      refine hK _ _ (HBK.out l.length _ _ ⟨0, m, a, cap, ?_⟩)
      repeat apply Exists.intro
      exact ⟨rfl, Nat.zero_le _, rfl, HBOX.out, rfl, by simp, HB0.out⟩
    · rintro n a' w' ⟨k, m', a1, cap1, u5, u6, u7, u8, u9, u10, u11, u12, u13, u14, u15, u16, u17, u18, u19, u20, u21, u22, u23, u24, u25, u26, u27, u28, u29, rfl, hk, rfl, hbox, hid, hiff, hb⟩ H hH
      have HBX := Lib.hid hbox
      have HI := Lib.hid hiff
      have HBB := Lib.hid hb
      have hbs := hb.size
      have hgl := hbox.lt
      clear hbox hiff hb
      by_cases hlt : k < l.length
      · have hlti : (k : Int) < (l.length : Int) := by omega
        have hix := ltr_index l k hlt
        obtain ⟨p, hpk⟩ : ∃ p, p = l[k] := ⟨_, rfl⟩
        rw [← hpk] at hix
        have hdrop : l.drop k = p :: l.drop (k + 1) := by rw [hpk]; exact List.drop_eq_getElem_cons hlt
        have HD := Lib.hid hdrop
        clear hdrop hpk
        go_wp2_with fail
        refine (mayPart_any HBX.out p).mono ?_
        rintro e w1 ⟨r, hr, rfl, hb1⟩
        have HB1 := Lib.hid (HBB.out.trans (hb1.mono hbs))
        have HBX1 := Lib.hid (HBX.out.below hbs hb1)
        have HR := Lib.hid hr
        have hbs1 := hb1.size
        clear hr hb1
        cases r
        · go_wp2_with fail
          try simp only [Exit.jump]
          go_ret
          refine ⟨false, ⟨fun h => by (cases h), ?_⟩, rfl, HB1.out⟩
          rintro ⟨l', hl', hm'⟩
          rw [HP.out] at hl'
          obtain rfl := Option.some.inj hl'
          have h2 := HI.out.1 hm'
          rw [HD.out, mayL] at h2
          exact absurd (HR.out.2 h2.1) (by simp)
        · go_wp2_with fail
          refine (takeAway_any HBX1.out (Nat.le_refl _) p).mono ?_
          rintro e w2 ⟨rfl, ⟨a2, cap2, hbox2⟩, hg2⟩
          have HBX2 := Lib.hid hbox2
          have HB2 := Lib.hid (HB1.out.grown hg2 (Nat.le_trans hbs hbs1) (fun k hk => by cases hk; exact Nat.le_refl _))
          clear hbox2 hg2
          go_wp2_with fail
          go_step3
          refine ⟨rfl, hH (l.length - (k + 1)) _ _ (by omega) ⟨k + 1, m'.cut p, a2, cap2, ?_⟩⟩
          repeat apply Exists.intro
          refine ⟨rfl, by omega, rfl, HBX2.out, by rw [Me.cut_id]; exact hid, ?_, HB2.out⟩
          rw [HI.out, HD.out, mayL]
          exact ⟨fun h => h.2, fun h => ⟨HR.out.1 (by trivial), h⟩⟩
      · have hlti : ¬ (k : Int) < (l.length : Int) := by omega
        obtain rfl : k = l.length := by omega
        obtain ⟨⟨c0, c1, c2, c3, c4, c5⟩, c6, c7, c8, c9, c10, c11⟩ := HBX.out.at_.cells
        have HID := Lib.hid hid
        clear hid
        go_wp2_with fail
        refine (sameM_any (m := m') (s := Me.of m'.id) (a := a1) (cap := cap1) (b := none) (cap' := 0) (fun r => r = true ↔ m'.args = []) (fun w1 hb1 => same_none (HBX.out.tab.tb.below hb1))).mono ?_
        rintro e w1 ⟨r, rfl, hb1, hr⟩
        have HB1 := Lib.hid (HBB.out.trans (hb1.mono hbs))
        have HR := Lib.hid hr
        clear hr hb1 HBX
        go_wp2_with fail
        try simp only [Exit.jump]
        go_ret
        refine ⟨r, ?_, rfl, HB1.out⟩
        have h1 : MayM m ↔ mayL m l := ⟨fun ⟨l', hl', h⟩ => by rw [HP.out] at hl'; obtain rfl := Option.some.inj hl'; exact h, fun h => ⟨l, HP.out, h⟩⟩
        rw [h1, HI.out, List.drop_length, mayL]
        rcases HR.out with ⟨he, hq⟩ | ⟨he, rfl⟩
        · rw [hq]
          exact ⟨fun h => he.eq h, fun h => by rw [h]; rfl⟩
        · exact ⟨fun h => (by cases h), fun h => absurd (show HeadEq m' (Me.of m'.id) by rw [← h]; exact HeadEq.refl _) he⟩

end Go.Proofs.YtiobcgolcoocnaaGreatDoor
