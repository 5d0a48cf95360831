/-
  route.wants, wanting, walked: a set of the queues that were had, beside the row that is handed back.
  route.wanting, walked.
-/
import Derived.Test.YtiobcgolcoocnaaGreatDoorRtMayL
import Derived.Test.YtiobcgolcoocnaaGreatDoorTMatch
import Derived.Maps.OwnSet
import Derived.Maps.OwnOps
import Derived.Maps.AppendAt

namespace Go.Proofs.YtiobcgolcoocnaaGreatDoor.Rt
open Go.RowKit Top
set_option linter.unusedVariables false

set_option maxHeartbeats 400000 in
theorem wants_any (k : Int) (p key : List UInt8) (hp : p.length ≤ 1000000) (hk : key.length ≤ 1000000) (w : World) :
    Calls Tryz.prog 60 #[.int .i64 k, .string ⟨p.toArray⟩, .string ⟨key.toArray⟩] w fun e w' => e = .returned (.bool (wantB k p key)) ∧ Below w.heap.size w w' := by
  by_cases h1 : k = 1
  · subst h1
    go_enter Tryz.func60, Tryz.ntmps60
    go_wp2_with fail
    go_ret
    refine ⟨?_, Below.refl _ _⟩
    unfold wantB
    rw [if_pos rfl]
    show Ending.returned (.bool _) = .returned (.bool (p == key))
    congr 2
  have b1 : (k == 1) = false := by simpa using h1
  by_cases h3 : k = 3
  · subst h3
    have hm := Lib.hid (match_any p key hp hk)
    go_enter Tryz.func60, Tryz.ntmps60
    go_wp2_with (go_at_call 77; refine (hm.out _).mono ?_; rintro e w2 ⟨rfl, hb2⟩; have HB2 := Lib.hid hb2; clear hb2)
    go_ret
    refine ⟨?_, HB2.out⟩
    unfold wantB
    rw [if_neg h1, if_pos rfl]
    rfl
  have b3 : (k == 3) = false := by simpa using h3
  go_enter Tryz.func60, Tryz.ntmps60
  go_wp2_with fail
  go_ret
  refine ⟨?_, Below.refl _ _⟩
  unfold wantB
  rw [if_neg h1, if_neg h3]
  rfl

theorem lawS : Go.Maps.Keyed Tryz.prog 9 := Go.Maps.string_keyed Tryz.underlying9
theorem zeroU (w : World) : (zeroValue 105).run Tryz.prog w = .ok (.agg #[]) w := by kernel_rfl
/-- the set holds just these. -/
structure Had (w : World) (b n : Nat) (acc : List (List UInt8)) (D : DataW Unit) : Prop where
  own : w.ownsMap Tryz.prog 9 unitElem b n D
  has : ∀ q : List UInt8, Go.Maps.has D (.string q) = decide (q ∈ acc)
theorem Had.below {w w' : World} {b n : Nat} {acc : List (List UInt8)} {D : DataW Unit} (h : Had w b n acc D) (hb : Below w.heap.size w w') : Had w' b n acc D := by
  refine ⟨?_, h.has⟩
  obtain ⟨es, clock, he, F, hs, hD⟩ := h.own
  exact ⟨es, clock, (hb.block b h.own.lt).trans he, F, hs, hD⟩
theorem has_step {D : DataW Unit} {acc : List (List UInt8)} (hm : Go.Maps.IsMap D) (h : ∀ q : List UInt8, Go.Maps.has D (.string q) = decide (q ∈ acc)) (q0 : List UInt8) (d : DataW Unit) (q : List UInt8) :
    Go.Maps.has (D.put (.string q0) d) (.string q) = decide (q ∈ acc ++ [q0]) := by
  by_cases hq : q = q0
  · subst hq
    rw [Go.Maps.has_put_same hm (by trivial)]
    simp
  · rw [Go.Maps.has_put_other (by simpa using hq), h q]
    simp [hq]

end Go.Proofs.YtiobcgolcoocnaaGreatDoor.Rt

namespace Go.Proofs.YtiobcgolcoocnaaGreatDoor.Rt
open Go.RowKit Top
set_option linter.unusedVariables false

theorem wantS_skip {e : Ex} {key : List UInt8} {b : Bd} (h : takes e key b = false) (acc : List (List UInt8)) (l : List Bd) : wantS e key acc (b :: l) = wantS e key acc l := by
  show wantS e key (if takes e key b then addQ acc b.q else acc) l = _
  rw [h]; rfl
theorem wantS_take {e : Ex} {key : List UInt8} {b : Bd} (h : takes e key b = true) (acc : List (List UInt8)) (l : List Bd) : wantS e key acc (b :: l) = wantS e key (addQ acc b.q) l := by
  show wantS e key (if takes e key b then addQ acc b.q else acc) l = _
  rw [h]; rfl
theorem addQ_had {acc : List (List UInt8)} {q : List UInt8} (h : q ∈ acc) : addQ acc q = acc := if_pos h
theorem addQ_new {acc : List (List UInt8)} {q : List UInt8} (h : ¬ q ∈ acc) : addQ acc q = acc ++ [q] := if_neg h
theorem BoxX.grown {w w' : World} {g : Nat} {e : Ex} {row : Option Nat} (h : BoxX w g e) (hg : w.grownBy w' row) (hne : some g ≠ row) : BoxX w' g e := ⟨hg.cell h.c0 hne, hg.cell h.c1 hne⟩
theorem BoxB.grown {w w' : World} {g : Nat} {e : Bd} {row : Option Nat} (h : BoxB w g e) (hg : w.grownBy w' row) (hne : some g ≠ row) : BoxB w' g e := ⟨hg.cell h.c0 hne, hg.cell h.c1 hne, hg.cell h.c2 hne, hg.cell h.c3 hne⟩
theorem key_str (q : List UInt8) (h : q.length ≤ 1000000) : keyOf Tryz.prog 9 (.string ⟨q.toArray⟩) = some (.string q) := by
  have := Go.WideMaps.keyOf_string_mk Tryz.underlying9 (s := ⟨q.toArray⟩) (by show q.toArray.size ≤ maxLen; simp [maxLen]; omega)
  simpa using this
theorem Own.lt2 {w : World} {base : Nat} {v : Value} {l : List (List UInt8)} (h : Own w base v l) (g : Nat) (e : v.ownBlock = some g) : base ≤ g := (World.ownsRow.lt h g e).1

def wantRel (e : Ex) (key : List UInt8) (l : List Bd) (w : World) (m : Nat) (a' : Act) (w' : World) : Prop :=
  ∃ (rest : List Bd) (acc : List (List UInt8)) (a : Option Addr) (cap n : Nat) (v : Value) (D : DataW Unit) (u9 u10 u11 u12 u13 u14 u15 u16 u17 u18 u19 u20 u21 u22 u23 u24 u25 u26 u27 u28 u29 u30 u31 u32 u33 u34 u35 u36 u37 u38 u39 u40 u41 u42 u43 u44 u45 u46 u47 u48 u49 u50 u51 u52 u53 : Value), a' = { tmps := #[.slice a rest.length cap, .agg #[.string ⟨e.name.toArray⟩, .int .i64 e.kind], .string ⟨key.toArray⟩, undef, .pointer (some ⟨w.heap.size, 0, none⟩), undef, .slice none 0 0, v, .map (some (w.heap.size + 1)), u9, u10, u11, u12, u13, u14, u15, u16, u17, u18, u19, u20, u21, u22, u23, u24, u25, u26, u27, u28, u29, u30, u31, u32, u33, u34, u35, u36, u37, u38, u39, u40, u41, u42, u43, u44, u45, u46, u47, u48, u49, u50, u51, u52, u53], defers := [] } ∧
    m = rest.length ∧ wantS e key acc rest = wantL e key l ∧ BsAt w a cap rest ∧ (∀ b ∈ rest, b ∈ l) ∧ acc.length + rest.length ≤ l.length ∧ n ≤ acc.length ∧ Below w.heap.size w w' ∧ w.heap.size + 2 ≤ w'.heap.size ∧ BoxX w' w.heap.size e ∧ Own w' (w.heap.size + 2) v acc ∧ Had w' (w.heap.size + 1) n acc D

set_option maxRecDepth 100000 in
set_option maxHeartbeats 1000000 in
theorem wanting_any (a : Option Addr) (cap : Nat) (l : List Bd) (e : Ex) (key : List UInt8) (hl9 : l.length ≤ 1000000) (hk : key.length ≤ 1000000) (hq : ∀ b ∈ l, b.q.length ≤ 1000000 ∧ b.key.length ≤ 1000000) (w : World) (hl : BsAt w a cap l) :
    Calls Tryz.prog 45 #[.slice a l.length cap, .agg #[.string ⟨e.name.toArray⟩, .int .i64 e.kind], .string ⟨key.toArray⟩] w fun r w' => Below w.heap.size w w' ∧ ∃ v, r = .returned v ∧ Own w' w.heap.size v (wantL e key l) := by
  have HL := Lib.hid hl
  have HQ := Lib.hid hq
  have hmm := @run_makeMap Tryz.prog
  clear hl hq
  go_enter Tryz.func45, Tryz.ntmps45
  go_wp2_with fail
  refine wp_scope_ghost 0 (wantRel e key l w) rfl ?_ ?_
  · intro H hb'
    have HBK := Lib.hid hb'
    clear hb'
    go_wp2_with fail
    go_step3
    rename_i hK
    refine hK _ _ (HBK.out l.length _ _ ⟨l, [], a, cap, 0, .slice none 0 0, .map [], ?_⟩)
    repeat apply Exists.intro
    have hb1 : Below w.heap.size w (w.alloc (.cells #[.string ⟨e.name.toArray⟩, .int .i64 e.kind] 78)) := (Below.refl _ _).alloc (Nat.le_refl _) _
    have hs1 : (w.alloc (.cells #[.string ⟨e.name.toArray⟩, .int .i64 e.kind] 78)).heap.size = w.heap.size + 1 := by simp
    refine ⟨rfl, rfl, rfl, HL.out, fun b h => h, by simp, Nat.le_refl _, hb1.alloc hb1.size _, by simp, (boxX w e).below ((Below.refl _ _).alloc (Nat.le_refl _) _), Own.nil _ _, ?_, fun q => by simp [Go.Maps.has]⟩
    have := World.ownsMap_made (H := Unit) (w.alloc (.cells #[.string ⟨e.name.toArray⟩, .int .i64 e.kind] 78)) Tryz.prog 9 unitElem
    rw [hs1] at this
    exact this
  · rintro m a' w' ⟨rest, acc, a, cap, n, v, D, u9, u10, u11, u12, u13, u14, u15, u16, u17, u18, u19, u20, u21, u22, u23, u24, u25, u26, u27, u28, u29, u30, u31, u32, u33, u34, u35, u36, u37, u38, u39, u40, u41, u42, u43, u44, u45, u46, u47, u48, u49, u50, u51, u52, u53, rfl, rfl, hsp, hat, hsub, hlen, hn, hb, hs2, hbox, hown, hhad⟩ H hH
    have HH := Lib.hid hH
    have HSP := Lib.hid hsp
    have HSUB := Lib.hid hsub
    have HB := Lib.hid hb
    have HBOX := Lib.hid hbox
    have HOWN := Lib.hid hown
    have HHAD := Lib.hid hhad
    clear hH hsp hsub
    cases rest with
    | nil =>
      clear hat hb hbox hown hhad
      go_wp2_with fail
      simp only [Exit.jump]
      go_ret
      refine ⟨HB.out, v, rfl, ?_⟩
      rw [← HSP.out]
      exact own_mono HOWN.out (by omega)
    | cons b rest =>
      obtain ⟨lb, lo, a2, rfl, c0, c1, c2, c3, hat2, hcap1, hrun⟩ := BsAt.head hat
      have HAT2 := Lib.hid hat2
      have d0 := (hb.cell (lt_of_cell c0)).trans c0
      have d1 := (hb.cell (lt_of_cell c1)).trans c1
      have d2 := (hb.cell (lt_of_cell c2)).trans c2
      have d3 := (hb.cell (lt_of_cell c3)).trans c3
      have hbq := HQ.out b (HSUB.out b (by simp))
      have hlen1 : acc.length + (rest.length + 1) ≤ l.length := by simpa using hlen
      have hN : (w'.alloc (.cells #[.string ⟨b.ex.toArray⟩, .string ⟨b.q.toArray⟩, .string ⟨b.key.toArray⟩, .int .i64 b.wt] 92)).heap.size = w'.heap.size + 1 := by simp
      have hbN : Below w'.heap.size w' (w'.alloc (.cells #[.string ⟨b.ex.toArray⟩, .string ⟨b.q.toArray⟩, .string ⟨b.key.toArray⟩, .int .i64 b.wt] 92)) := (Below.refl _ _).alloc (Nat.le_refl _) _
      obtain ⟨e0, e1⟩ := hbox.below hbN
      have HBN := Lib.hid hbN
      have HSN := Lib.hid hN
      clear c0 c1 c2 c3 hat hat2 hb hbox hown hhad hbN hN hlen
      have HLEN1 := Lib.hid hlen1
      have HNN := Lib.hid hn
      have HS2 := Lib.hid hs2
      have hl0 : ((rest.length : Int) + 1 == 0) = false := by simp; omega
      clear hn hs2 hlen1
      by_cases hx : b.ex = e.name
      · have hxb : (b.ex == e.name) = true := by simpa using hx
        have HX := Lib.hid hx
        obtain ⟨q, hq⟩ : ∃ q, wantB e.kind b.key key = q := ⟨_, rfl⟩
        have htk : takes e key b = q := by unfold takes; rw [decide_eq_true hx, hq]; rfl
        have HTK := Lib.hid htk
        have hw := wants_any e.kind b.key key hbq.2 hk (w'.alloc (.cells #[.string ⟨b.ex.toArray⟩, .string ⟨b.q.toArray⟩, .string ⟨b.key.toArray⟩, .int .i64 b.wt] 92))
        rw [hq] at hw
        have HW := Lib.hid hw
        have HBB := Lib.hid (boxB w' b)
        have wWANT := Lib.hid (show ∀ Q : Ending → World → Prop, (∀ w2, Below w'.heap.size w' w2 → w'.heap.size < w2.heap.size → BoxB w2 w'.heap.size b → Q (.returned (.bool q)) w2) → Calls Tryz.prog 60 #[.int .i64 e.kind, .string ⟨b.key.toArray⟩, .string ⟨key.toArray⟩] (w'.alloc (.cells #[.string ⟨b.ex.toArray⟩, .string ⟨b.q.toArray⟩, .string ⟨b.key.toArray⟩, .int .i64 b.wt] 92)) Q from fun Q hQ => by
          refine HW.out.mono ?_
          rintro r w2 ⟨rfl, hb2⟩
          exact hQ w2 (HBN.out.trans (hb2.mono HBN.out.size)) (Nat.lt_of_lt_of_le (by rw [HSN.out]; omega) hb2.size) (HBB.out.below hb2))
        clear hx hq htk hw HW HBB
        cases q
        · go_wp2_with (go_at_call 60; refine wWANT.out _ ?_; intro w2 hb2 hsz2 hbb2; have HB2 := Lib.hid hb2; clear hb2 hsz2 hbb2)
          go_step3
          refine ⟨rfl, HH.out rest.length _ _ (by simp) ⟨rest, acc, a2, cap - 1, n, v, D, ?_⟩⟩
          repeat apply Exists.intro
          exact ⟨rfl, rfl, by rw [← HSP.out, wantS_skip HTK.out], HAT2.out, fun c hc => HSUB.out c (by simp [hc]), by have := HLEN1.out; omega, HNN.out, HB.out.trans (HB2.out.mono HB.out.size), Nat.le_trans HS2.out HB2.out.size, HBOX.out.below HB2.out, World.ownsRow.below1 HOWN.out HB2.out, HHAD.out.below HB2.out⟩
        · have hkey := key_str b.q hbq.1
          have hhas := HHAD.out.has b.q
          by_cases hin : b.q ∈ acc
          · rw [decide_eq_true hin] at hhas
            have HIN := Lib.hid hin
            clear hin
            go_wp2_with (first | (go_at_call 60; refine wWANT.out _ ?_; intro w2 hb2 hsz2 hbb2; have HB2 := Lib.hid hb2; obtain ⟨f0, f1, f2, f3⟩ := hbb2; clear hb2 hsz2) | (at_lookup; refine wpList_lookup_own_unit _ rfl _ _ 103 rfl 9 105 lawS Tryz.underlying103 (zeroU _) (w.heap.size + 1) n D rfl (HHAD.out.below HB2.out).own _ _ rfl hkey ?_))
            go_step3
            have hb3 : Below w'.heap.size w' (w2.alloc (.cells #[] 105)) := HB2.out.alloc HB2.out.size _
            refine ⟨rfl, HH.out rest.length _ _ (by simp) ⟨rest, acc, a2, cap - 1, n, v, D, ?_⟩⟩
            repeat apply Exists.intro
            exact ⟨rfl, rfl, by rw [← HSP.out, wantS_take HTK.out, addQ_had HIN.out], HAT2.out, fun c hc => HSUB.out c (by simp [hc]), by have := HLEN1.out; omega, HNN.out, HB.out.trans (hb3.mono HB.out.size), Nat.le_trans HS2.out hb3.size, HBOX.out.below hb3, World.ownsRow.below1 HOWN.out hb3, HHAD.out.below hb3⟩
          · rw [decide_eq_false hin] at hhas
            have HIN := Lib.hid hin
            clear hin
            have hn9 : n < maxLen := by have := HNN.out; have := HLEN1.out; unfold maxLen; omega
            have ha9 : acc.length ≤ 1000000000 := by have := HLEN1.out; omega
            have w4OF := Lib.hid (show ∀ w2 w4 : World, Below w'.heap.size w' w2 → w'.heap.size < w2.heap.size → BoxB w2 w'.heap.size b → (w2.alloc (.cells #[] 105)).grownBy w4 (some (w.heap.size + 1)) → Below w.heap.size w w4 ∧ w.heap.size + 2 ≤ w4.heap.size ∧ BoxX w4 w.heap.size e ∧ BoxB w4 w'.heap.size b ∧ Own w4 (w.heap.size + 2) v acc from fun w2 w4 hb2 hs hbb hg => by
              have hb3 : Below w'.heap.size w' (w2.alloc (.cells #[] 105)) := hb2.alloc hb2.size _
              have hb33 : Below w2.heap.size w2 (w2.alloc (.cells #[] 105)) := (Below.refl _ _).alloc (Nat.le_refl _) _
              have h2 := HS2.out
              refine ⟨(HB.out.trans (hb3.mono HB.out.size)).grown hg (by have := hb3.size; omega) (fun k ek => by injection ek with ek; omega), ?_, (HBOX.out.below hb3).grown hg (by intro h; injection h with h; omega), (hbb.below hb33).grown hg (by intro h; injection h with h; omega), Own.other (World.ownsRow.below1 HOWN.out hb3) hg fun g eg => ?_⟩
              · have := hg.size; have := hb3.size; omega
              · have := Own.lt2 HOWN.out g eg
                intro h; injection h with h; omega)
            go_wp2_with (first | (go_at_call 60; refine wWANT.out _ ?_; intro w2 hb2 hsz2 hbb2; have HB2 := Lib.hid hb2; have HSZ2 := Lib.hid hsz2; have HBB2 := Lib.hid hbb2; obtain ⟨f0, f1, f2, f3⟩ := hbb2; obtain ⟨g0, g1, g2, g3⟩ := HBB2.out.below (show Below w2.heap.size w2 (w2.alloc (.cells #[] 105)) from (Below.refl _ _).alloc (Nat.le_refl _) _); clear hb2 hsz2) | (at_lookup; refine wpList_lookup_own_unit _ rfl _ _ 103 rfl 9 105 lawS Tryz.underlying103 (zeroU _) (w.heap.size + 1) n D rfl (HHAD.out.below HB2.out).own _ _ rfl hkey ?_) | (at_mapUpdate; refine wpList_mapUpdate_own _ rfl _ _ _ 103 rfl 9 105 lawS Tryz.underlying103 (unitElem (H := Unit)) (w.heap.size + 1) n D rfl ((HHAD.out.below HB2.out).own.alloc _) hn9 _ _ _ rfl rfl hkey _ [] unitElem_mk ?_; intro w4 hown4 hgrow4; have HMAP4 := Lib.hid hown4; have HW4 := Lib.hid (w4OF.out w2 w4 HB2.out HSZ2.out HBB2.out hgrow4); obtain ⟨k0, k1, k2, k3⟩ := HW4.out.2.2.2.1; clear hown4 hgrow4) | (at_builtin; refine put_str b.q rfl (.tmp 49) (.tmp 52) rfl HW4.out.2.2.2.2 HW4.out.2.1 ha9 rfl _ rfl rfl ?_; intro g5 cap5 w5 hown5 hg5 hat5; have HOWN5 := Lib.hid hown5; have HG5 := Lib.hid hg5; clear hown5 hg5 hat5))
            go_step3
            refine ⟨rfl, HH.out rest.length _ _ (by simp) ⟨rest, acc ++ [b.q], a2, cap - 1, n + 1, .slice (some ⟨g5, 0, none⟩) (acc.length + 1) cap5, D.put (.string b.q) (.agg []), ?_⟩⟩
            repeat apply Exists.intro
            have hne : ∀ g, g < w.heap.size + 2 → some g ≠ v.ownBlock := fun g hg h => by have := Own.lt2 HW4.out.2.2.2.2 g h.symm; omega
            exact ⟨rfl, rfl, by rw [← HSP.out, wantS_take HTK.out, addQ_new HIN.out], HAT2.out, fun c hc => HSUB.out c (by simp [hc]), by have := HLEN1.out; simp; omega, by have := HNN.out; simp; omega, Own.grown HW4.out.1 (own_mono HW4.out.2.2.2.2 (by omega)) HG5.out HW4.out.1.size, Nat.le_trans HW4.out.2.1 HG5.out.size, HW4.out.2.2.1.grown HG5.out (hne _ (by omega)), HOWN5.out, HMAP4.out.kept HG5.out (hne _ (by omega)), has_step HHAD.out.own.isMap HHAD.out.has b.q _⟩
      · have hxb : (b.ex == e.name) = false := by simpa using hx
        have HX := Lib.hid hx
        clear hx
        go_wp2_with fail
        go_step3
        refine ⟨rfl, HH.out rest.length _ _ (by simp) ⟨rest, acc, a2, cap - 1, n, v, D, ?_⟩⟩
        repeat apply Exists.intro
        exact ⟨rfl, rfl, by rw [← HSP.out, wantS_skip (by unfold takes; rw [decide_eq_false HX.out]; rfl)], HAT2.out, fun c hc => HSUB.out c (by simp [hc]), by have := HLEN1.out; omega, HNN.out, HB.out.trans (HBN.out.mono HB.out.size), Nat.le_trans HS2.out HBN.out.size, HBOX.out.below HBN.out, World.ownsRow.below1 HOWN.out HBN.out, HHAD.out.below HBN.out⟩

end Go.Proofs.YtiobcgolcoocnaaGreatDoor.Rt
