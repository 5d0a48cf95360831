/-
  topic.fits, mayWord, May, walked.
  topic.stands, Match, walked.
  topic.Match, walked.
-/
import Derived.Test.YtiobcgolcoocnaaGreatDoorTWords
import Derived.Deep.QuietTactic
import Derived.BigQuiet

namespace Go.Proofs.YtiobcgolcoocnaaGreatDoor.Top
open Go.RowKit
set_option linter.unusedVariables false

set_option maxHeartbeats 2000000 in
theorem fits_any (l : List UInt8) (w : World) :
    Calls Tryz.prog 87 #[.string ⟨l.toArray⟩] w fun e w' => e = .returned (.bool (fitsB l)) ∧ w = w' := by
  have hsz : (⟨l.toArray⟩ : ByteArray).size = l.length := rfl
  go_enter Tryz.func87, Tryz.ntmps87
  unfold fitsB
  by_cases h1 : l.length ≤ 255
  · have h2 : (l.length : Int) ≤ 255 := by omega
    go_wp2_with (go_at_call 95; refine (count_one _ _).mono ?_; rintro e w' ⟨rfl, rfl⟩)
    go_ret
    refine ⟨?_, rfl⟩
    show Ending.returned (.bool (decide ((l.count 46 : Int) < 20))) = _
    rw [decide_eq_true h1, Bool.true_and]
    congr 2
    rw [decide_eq_decide]
    omega
  · have h2 : ¬ (l.length : Int) ≤ 255 := by omega
    go_wp2_with (go_at_call 95; refine (count_one _ _).mono ?_; rintro e w' ⟨rfl, rfl⟩)
    go_ret
    refine ⟨?_, rfl⟩
    rfl

set_option maxHeartbeats 2000000 in
theorem mayWord_any (l : List UInt8) (hl : l.length ≤ 1000000) (w : World) :
    Calls Tryz.prog 94 #[.string ⟨l.toArray⟩] w fun e w' => e = .returned (.bool (mayW l)) ∧ Below w.heap.size w w' := by
  go_enter Tryz.func94, Tryz.ntmps94
  by_cases h1 : l = [42]
  · subst h1
    go_wp2_with fail
    go_ret
    exact ⟨rfl, Below.refl _ _⟩
  by_cases h2 : l = [35]
  · subst h2
    go_wp2_with fail
    go_ret
    exact ⟨rfl, Below.refl _ _⟩
  have hm : mayW l = !(l.contains 42 || l.contains 35) := by
    unfold mayW
    rw [show (l == [42]) = false by simpa using h1, show (l == [35]) = false by simpa using h2]
    rfl
  have HM := Lib.hid hm
  clear hm
  obtain ⟨q, hq⟩ : ∃ q, (l.contains 42 || l.contains 35) = q := ⟨_, rfl⟩
  have c := contains_any l hl w
  rw [hq] at c HM
  have HC := Lib.hid c
  clear c hq
  go_wp2_with (go_at_call 101; refine HC.out.mono ?_; rintro e w' ⟨rfl, hb⟩; have HB := Lib.hid hb; clear hb)
  go_ret
  refine ⟨?_, HB.out⟩
  rw [HM.out]
  show Ending.returned (.bool (l == [42] || l == [35] || !q)) = _
  rw [show (l == [42]) = false by simpa using h1, show (l == [35]) = false by simpa using h2]
  rfl

def mayRel (l : List UInt8) (w : World) (m : Nat) (a' : Act) (w' : World) : Prop :=
  ∃ (r : List (List UInt8)) (a : Option Addr) (cap : Nat) (u4 u5 u6 u7 u8 u9 u10 u11 u12 u13 u14 u15 u16 u17 : Value), a' = { tmps := #[.string ⟨l.toArray⟩, undef, .bool false, .slice a r.length cap, u4, u5, u6, u7, u8, u9, u10, u11, u12, u13, u14, u15, u16, u17], defers := [] } ∧
    m = r.length ∧ mayB l = r.all mayW ∧ (∀ x ∈ r, x.length ≤ 1000000) ∧ Below w.heap.size w w' ∧ cap ≤ maxLen ∧ StrsAt w' a cap r

theorem spl_in : ∀ (l : List UInt8), ∀ x ∈ spl l, x.length ≤ l.length
  | [], x, h => by simp [spl] at h; subst h; simp
  | c :: r, x, h => by
    have ih := spl_in r
    rw [spl] at h
    split at h
    · rcases List.mem_cons.1 h with rfl | h
      · simp
      · have := ih x h; simp; omega
    · revert h
      cases hs : spl r with
      | nil => intro h; simp at h; subst h; simp
      | cons y ys =>
        intro h
        rcases List.mem_cons.1 h with rfl | h
        · have := ih y (by rw [hs]; simp); simpa using this
        · have := ih x (by rw [hs]; simp [h]); simp; omega
theorem wds_in (l : List UInt8) : ∀ x ∈ wds l, x.length ≤ l.length := by
  unfold wds
  split
  · simp
  · exact spl_in l

set_option maxRecDepth 100000 in
set_option maxHeartbeats 2000000 in
theorem may_any (l : List UInt8) (hl : l.length ≤ 1000000) (w : World) :
    Calls Tryz.prog 86 #[.string ⟨l.toArray⟩] w fun e w' => e = .returned (.bool (mayB l)) ∧ Below w.heap.size w w' := by
  go_enter Tryz.func86, Tryz.ntmps86
  go_wp2_with fail
  refine wp_scope_ghost 0 (mayRel l w) rfl ?_ ?_
  · intro H hb'
    have HBK := Lib.hid hb'
    clear hb'
    obtain ⟨q, hq⟩ : ∃ q, fitsB l = q := ⟨_, rfl⟩
    have c := fits_any l w
    rw [hq] at c
    have HC := Lib.hid c
    clear c
    cases q
    · have HQ := Lib.hid hq
      clear hq
      go_wp2_with (go_at_call 87; refine HC.out.mono ?_; rintro e w' ⟨rfl, rfl⟩)
      simp only [Exit.jump]
      go_ret
      refine ⟨?_, Below.refl _ _⟩
      unfold mayB
      rw [HQ.out]
      rfl
    · have HQ := Lib.hid hq
      clear hq
      go_wp2_with (go_at_call 87; refine HC.out.mono ?_; rintro e w' ⟨rfl, rfl⟩)
      refine (words_any l hl _).mono ?_
      rintro e w1 ⟨hb1, a, cap, rfl, hcap, hat⟩
      have HB1 := Lib.hid hb1
      have HAT := Lib.hid hat
      have HCAP := Lib.hid hcap
      clear hb1 hat hcap
      go_wp2_with fail
      go_step3
      rename_i hK
      refine hK _ _ (HBK.out (wds l).length _ _ ⟨wds l, a, cap, ?_⟩)
      repeat apply Exists.intro
      exact ⟨rfl, rfl, by unfold mayB; rw [HQ.out]; rfl, fun x hx => Nat.le_trans (wds_in l x hx) hl, HB1.out, HCAP.out, HAT.out⟩
  · rintro m a' w' ⟨r, a, cap, u4, u5, u6, u7, u8, u9, u10, u11, u12, u13, u14, u15, u16, u17, rfl, rfl, hm, hle, hbel, hcap, hat⟩ H hH
    have HB := Lib.hid hbel
    have HAT := Lib.hid hat
    have HM := Lib.hid hm
    have HLE := Lib.hid hle
    have HH := Lib.hid hH
    have HCAP := Lib.hid hcap
    clear hbel hat hm hle hH hcap
    cases r with
    | nil =>
      go_wp2_with fail
      simp only [Exit.jump]
      go_ret
      exact ⟨by rw [HM.out]; rfl, HB.out⟩
    | cons x r =>
      obtain ⟨b, o, a', rfl, hc, hat', h1, hsl⟩ := HAT.out.head HCAP.out
      have hcm := HCAP.out
      unfold maxLen at hcm
      have HAT2 := Lib.hid hat'
      clear hat'
      have hlen := HAT2.out.len
      have hx := HLE.out x (by simp)
      have c1 : ¬ (r.length : Int) + 1 = 0 := by omega
      have c2 : (1 : Int) ≤ (r.length : Int) + 1 := by omega
      have c3 : ((r.length : Int) + 1 == 0) = false := by rw [beq_eq_false_iff_ne]; omega
      have c4 : (0 : Int) < (r.length : Int) + 1 := by omega
      obtain ⟨q, hq⟩ : ∃ q, mayW x = q := ⟨_, rfl⟩
      have c := mayWord_any x hx w'
      rw [hq] at c
      have HC := Lib.hid c
      clear c
      cases q
      · have HQ := Lib.hid hq
        clear hq
        go_wp2_with (go_at_call 94; refine HC.out.mono ?_; rintro e w2 ⟨rfl, hb2⟩; have HB2 := Lib.hid hb2; clear hb2)
        simp only [Exit.jump]
        go_ret
        exact ⟨by rw [HM.out, List.all_cons, HQ.out]; rfl, HB.out.trans (HB2.out.mono HB.out.size)⟩
      · have HQ := Lib.hid hq
        clear hq
        go_wp2_with (go_at_call 94; refine HC.out.mono ?_; rintro e w2 ⟨rfl, hb2⟩; have HB2 := Lib.hid hb2; clear hb2)
        go_step3
        refine ⟨rfl, HH.out r.length _ _ (by simp) ⟨r, a', cap - 1, ?_⟩⟩
        repeat apply Exists.intro
        exact ⟨rfl, rfl, by rw [HM.out, List.all_cons, HQ.out]; rfl, fun y hy => HLE.out y (by simp [hy]), HB.out.trans (HB2.out.mono HB.out.size), by have := HCAP.out; omega, HAT2.out.below HB2.out⟩
end Go.Proofs.YtiobcgolcoocnaaGreatDoor.Top

namespace Go.Proofs.YtiobcgolcoocnaaGreatDoor.Top
open Go.RowKit
set_option linter.unusedVariables false

/-- what the search knows of its four rows in memory. -/
structure Rows4 (w0 w : World) (p k pb left : List (List UInt8)) (pa ka ba la : Option Addr) (pc kc bc lc : Nat) : Prop where
  below : Below w0.heap.size w0 w
  sp : StrsAt w pa pc p
  sk : StrsAt w ka kc k
  sb : StrsAt w ba bc pb
  sl : StrsAt w la lc left
  cp : pc ≤ maxLen
  ck : kc ≤ maxLen
  cb : bc ≤ maxLen
  cl : lc ≤ maxLen
  nk : k.length ≤ 20
  nl : left.length ≤ 20

theorem Rows4.to {w0 w w' : World} {p k pb left : List (List UInt8)} {pa ka ba la : Option Addr} {pc kc bc lc : Nat} (h : Rows4 w0 w p k pb left pa ka ba la pc kc bc lc) (hb : Below w.heap.size w w') : Rows4 w0 w' p k pb left pa ka ba la pc kc bc lc :=
  ⟨h.below.trans (hb.mono h.below.size), h.sp.below hb, h.sk.below hb, h.sb.below hb, h.sl.below hb, h.cp, h.ck, h.cb, h.cl, h.nk, h.nl⟩
theorem st_nil (c : List UInt8) (k : List (List UInt8)) : stand [] (c :: k) = false := rfl
theorem st_end {x : List UInt8} (hx : ¬ x = [35]) (p : List (List UInt8)) : stand (x :: p) [] = false := by
  rw [Bool.eq_false_iff]
  intro h
  obtain ⟨c, cs, h, _⟩ := (stand_cons hx _ _).1 h
  cases h
theorem st_miss {x c : List UInt8} (hx : ¬ x = [35]) (h1 : ¬ x = [42]) (h2 : ¬ x = c) (p k : List (List UInt8)) : stand (x :: p) (c :: k) = false := by
  rw [Bool.eq_false_iff]
  intro h
  obtain ⟨d, ds, h, hd, _⟩ := (stand_cons hx _ _).1 h
  cases h
  rcases hd with hd | hd
  · exact h1 hd
  · exact h2 hd
structure V8 where
  (a b c d e f g h : Value)
def standRel (T : Bool) (w : World) (m : Nat) (a' : Act) (w' : World) : Prop :=
  ∃ (p k pb left : List (List UInt8)) (pa ka ba la : Option Addr) (pc kc bc lc β : Nat) (e0 e1 e2 e3 e4 e5 e6 e7 : V8),
    a' = { tmps := List.toArray (Value.slice pa p.length pc :: Value.slice ka k.length kc :: undef :: undef :: Value.bool false :: Value.slice ba pb.length bc :: Value.slice la left.length lc :: e0.a :: e0.b :: e0.c :: e0.d :: e0.e :: e0.f :: e0.g :: e0.h :: e1.a :: e1.b :: e1.c :: e1.d :: e1.e :: e1.f :: e1.g :: e1.h :: e2.a :: e2.b :: e2.c :: e2.d :: e2.e :: e2.f :: e2.g :: e2.h :: e3.a :: e3.b :: e3.c :: e3.d :: e3.e :: e3.f :: e3.g :: e3.h :: e4.a :: e4.b :: e4.c :: e4.d :: e4.e :: e4.f :: e4.g :: e4.h :: e5.a :: e5.b :: e5.c :: e5.d :: e5.e :: e5.f :: e5.g :: e5.h :: e6.a :: e6.b :: e6.c :: e6.d :: e6.e :: e6.f :: e6.g :: e6.h :: e7.a :: e7.b :: e7.c :: []), defers := [] } ∧
    m = β * 1000 + left.length * 30 + p.length ∧ p.length ≤ β ∧ pb.length ≤ β ∧ pb.length ≤ 20 ∧ p.length ≤ 20 ∧ Srch T p k pb left ∧ Rows4 w w' p k pb left pa ka ba la pc kc bc lc

set_option maxRecDepth 100000 in
set_option maxHeartbeats 400000 in
theorem stands_any (p0 k0 : List (List UInt8)) (hp0 : p0.length ≤ 20) (hk0 : k0.length ≤ 20) (pa0 ka0 : Option Addr) (pc0 kc0 : Nat) (w : World) (hpc0 : pc0 ≤ maxLen) (hkc0 : kc0 ≤ maxLen) (hsp : StrsAt w pa0 pc0 p0) (hsk : StrsAt w ka0 kc0 k0) :
    Calls Tryz.prog 88 #[.slice pa0 p0.length pc0, .slice ka0 k0.length kc0] w fun e w' => e = .returned (.bool (stand p0 k0)) ∧ Below w.heap.size w w' := by
  have HP0 := Lib.hid (And.intro hsp (And.intro hsk (And.intro hpc0 hkc0)))
  clear hsp hsk hpc0 hkc0
  go_enter Tryz.func88, Tryz.ntmps88
  go_wp2_with fail
  refine wp_scope_ghost 0 (standRel (stand p0 k0) w) rfl ?_ ?_
  · intro H hb'
    have HBK := Lib.hid hb'
    clear hb'
    go_wp2_with fail
    go_step3
    rename_i hK
    refine hK _ _ (HBK.out (21 * 1000 + 0 * 30 + p0.length) _ _ ⟨p0, k0, [], [], pa0, ka0, none, none, pc0, kc0, 0, 0, 21, ⟨_, _, _, _, _, _, _, _⟩, ⟨_, _, _, _, _, _, _, _⟩, ⟨_, _, _, _, _, _, _, _⟩, ⟨_, _, _, _, _, _, _, _⟩, ⟨_, _, _, _, _, _, _, _⟩, ⟨_, _, _, _, _, _, _, _⟩, ⟨_, _, _, _, _, _, _, _⟩, ⟨_, _, _, undef, undef, undef, undef, undef⟩, rfl, rfl, ?_⟩)
    exact ⟨by omega, by simp, by simp, hp0, Srch.start _ _, Below.refl _ _, HP0.out.1, HP0.out.2.1, StrsAt.nil _ _ _, StrsAt.nil _ _ _, HP0.out.2.2.1, HP0.out.2.2.2, by simp, by simp, hk0, by simp⟩
  · rintro m a' w' ⟨p, k, pb, left, pa, ka, ba, la, pc, kc, bc, lc, β, ⟨u7, u8, u9, u10, u11, u12, u13, u14⟩, ⟨u15, u16, u17, u18, u19, u20, u21, u22⟩, ⟨u23, u24, u25, u26, u27, u28, u29, u30⟩, ⟨u31, u32, u33, u34, u35, u36, u37, u38⟩, ⟨u39, u40, u41, u42, u43, u44, u45, u46⟩, ⟨u47, u48, u49, u50, u51, u52, u53, u54⟩, ⟨u55, u56, u57, u58, u59, u60, u61, u62⟩, ⟨u63, u64, u65, u66, u67, u68, u69, u70⟩, rfl, rfl, hb1, hb2, hb20, hp20, hs, hr⟩ H hH
    dsimp only
    have HH := Lib.hid hH
    have HS := Lib.hid hs
    have HR := Lib.hid hr
    have HB1 := Lib.hid hb1
    have HB2 := Lib.hid (And.intro hb2 (And.intro hb20 hp20))
    have HK := Lib.hid hr.nk
    have HL := Lib.hid hr.nl
    clear hH hs hr hb1 hb2 hp0 hk0 hb20 hp20
    cases p with
    | nil =>
      cases k with
      | nil =>
        repeat (first | go_values | go_skip | go_guarded | go_step | go_upon)
        go_quiet (fail)
        obtain ⟨w2, hw2⟩ : ∃ w2, w2 = w'.drewN nq := ⟨_, rfl⟩
        have hb2 : Below w'.heap.size w' w2 := by rw [hw2]; exact Below.drewN (Below.refl _ _) _
        rw [← hw2]
        have HR2 := Lib.hid (HR.out.to hb2)
        have HBW := Lib.hid hb2
        clear hw2 hb2
        repeat (first | go_values | go_skip | go_guarded | go_step | go_upon)
        simp only [Exit.jump]
        go_ret
        exact ⟨by rw [HS.out.won]; rfl, HR2.out.below⟩
      | cons c k =>
        have n2 : (0 : Int) < (k.length : Int) + 1 := by omega
        have n2' : ((k.length : Int) + 1 == 0) = false := by rw [beq_eq_false_iff_ne]; omega
        cases left with
        | nil =>
          repeat (first | go_values | go_skip | go_guarded | go_step | go_upon)
          go_quiet (fail)
          obtain ⟨w2, hw2⟩ : ∃ w2, w2 = w'.drewN nq := ⟨_, rfl⟩
          have hb2 : Below w'.heap.size w' w2 := by rw [hw2]; exact Below.drewN (Below.refl _ _) _
          rw [← hw2]
          have HR2 := Lib.hid (HR.out.to hb2)
          have HBW := Lib.hid hb2
          clear hw2 hb2
          repeat (first | go_values | go_skip | go_guarded | go_step | go_upon)
          simp only [Exit.jump]
          go_ret
          exact ⟨by rw [HS.out.lost (st_nil c k)]; rfl, HR2.out.below⟩
        | cons d left =>
          obtain ⟨b3, o3, a3, rfl, hc3, hat3, h3, hsl3⟩ := HR.out.sl.head HR.out.cl
          have HAT3 := Lib.hid hat3
          have n3 : (0 : Int) < (left.length : Int) + 1 := by omega
          clear hat3
          repeat (first | go_values | go_skip | go_guarded | go_step | go_upon)
          go_quiet (fail)
          obtain ⟨w2, hw2⟩ : ∃ w2, w2 = w'.drewN nq := ⟨_, rfl⟩
          have hb2 : Below w'.heap.size w' w2 := by rw [hw2]; exact Below.drewN (Below.refl _ _) _
          rw [← hw2]
          have HR2 := Lib.hid (HR.out.to hb2)
          have HBW := Lib.hid hb2
          clear hw2 hb2
          repeat (first | go_values | go_skip | go_guarded | go_step | go_upon)
          go_step3
          refine ⟨rfl, HH.out (β * 1000 + left.length * 30 + pb.length) _ _ (by have := HB2.out; simp only [List.length_cons]; omega) ⟨pb, left, pb, left, ba, a3, ba, a3, bc, lc - 1, bc, lc - 1, β, ⟨_, _, _, _, _, _, _, _⟩, ⟨_, _, _, _, _, _, _, _⟩, ⟨_, _, _, _, _, _, _, _⟩, ⟨_, _, _, _, _, _, _, _⟩, ⟨_, _, _, _, _, _, _, _⟩, ⟨_, _, _, _, _, _, _, _⟩, ⟨_, _, _, _, _, _, _, _⟩, ⟨_, _, _, undef, undef, undef, undef, undef⟩, rfl, rfl, ?_⟩⟩
          have hl2 := HL.out
          simp only [List.length_cons] at hl2
          have hcl := HR2.out.cl
          exact ⟨HB2.out.1, HB2.out.1, HB2.out.2.1, HB2.out.2.1, HS.out.back (st_nil c k), HR2.out.below, HR2.out.sb, (HAT3.out.below HBW.out), HR2.out.sb, (HAT3.out.below HBW.out), HR2.out.cb, by omega, HR2.out.cb, by omega, by omega, by omega⟩
    | cons x p =>
      obtain ⟨b1, o1, a1, rfl, hc1, hat1, h1, hsl1⟩ := HR.out.sp.head HR.out.cp
      have HAT1 := Lib.hid hat1
      have n1 : (0 : Int) < (p.length : Int) + 1 := by omega
      have n1' : ((p.length : Int) + 1 == 0) = false := by rw [beq_eq_false_iff_ne]; omega
      clear hat1
      by_cases hx : x = [35]
      · subst hx
        repeat (first | go_values | go_skip | go_guarded | go_step | go_upon)
        go_step3
        refine ⟨rfl, HH.out (p.length * 1000 + k.length * 30 + p.length) _ _ (by have := HB1.out; have := HK.out; simp only [List.length_cons] at *; omega) ⟨p, k, p, k, a1, ka, a1, ka, pc - 1, kc, pc - 1, kc, p.length, ⟨_, _, _, _, _, _, _, _⟩, ⟨_, _, _, _, _, _, _, _⟩, ⟨_, _, _, _, _, _, _, _⟩, ⟨_, _, _, _, _, _, _, _⟩, ⟨_, _, _, _, _, _, _, _⟩, ⟨_, _, _, _, _, _, _, _⟩, ⟨_, _, _, _, _, _, _, _⟩, ⟨_, _, _, undef, undef, undef, undef, undef⟩, rfl, rfl, ?_⟩⟩
        have hp2 := HB2.out.2.2
        simp only [List.length_cons] at hp2
        have hcp := HR.out.cp
        exact ⟨by omega, by omega, by omega, by omega, HS.out.hash, HR.out.below, HAT1.out, HR.out.sk, HAT1.out, HR.out.sk, by omega, HR.out.ck, by omega, HR.out.ck, HK.out, HK.out⟩
      · have hx' : (x == [35]) = false := by simpa using hx
        cases k with
        | nil =>
          have HX := Lib.hid hx
          clear hx
          cases left with
          | nil =>
            repeat (first | go_values | go_skip | go_guarded | go_step | go_upon)
            go_quiet (fail)
            obtain ⟨w2, hw2⟩ : ∃ w2, w2 = w'.drewN nq := ⟨_, rfl⟩
            have hb2 : Below w'.heap.size w' w2 := by rw [hw2]; exact Below.drewN (Below.refl _ _) _
            rw [← hw2]
            have HR2 := Lib.hid (HR.out.to hb2)
            have HBW := Lib.hid hb2
            clear hw2 hb2
            repeat (first | go_values | go_skip | go_guarded | go_step | go_upon)
            simp only [Exit.jump]
            go_ret
            exact ⟨by rw [HS.out.lost (st_end HX.out p)]; rfl, HR2.out.below⟩
          | cons d left =>
            obtain ⟨b3, o3, a3, rfl, hc3, hat3, h3, hsl3⟩ := HR.out.sl.head HR.out.cl
            have HAT3 := Lib.hid hat3
            have n3 : (0 : Int) < (left.length : Int) + 1 := by omega
            clear hat3
            repeat (first | go_values | go_skip | go_guarded | go_step | go_upon)
            go_quiet (fail)
            obtain ⟨w2, hw2⟩ : ∃ w2, w2 = w'.drewN nq := ⟨_, rfl⟩
            have hb2 : Below w'.heap.size w' w2 := by rw [hw2]; exact Below.drewN (Below.refl _ _) _
            rw [← hw2]
            have HR2 := Lib.hid (HR.out.to hb2)
            have HBW := Lib.hid hb2
            clear hw2 hb2
            repeat (first | go_values | go_skip | go_guarded | go_step | go_upon)
            go_step3
            refine ⟨rfl, HH.out (β * 1000 + left.length * 30 + pb.length) _ _ (by have := HB2.out; simp only [List.length_cons]; omega) ⟨pb, left, pb, left, ba, a3, ba, a3, bc, lc - 1, bc, lc - 1, β, ⟨_, _, _, _, _, _, _, _⟩, ⟨_, _, _, _, _, _, _, _⟩, ⟨_, _, _, _, _, _, _, _⟩, ⟨_, _, _, _, _, _, _, _⟩, ⟨_, _, _, _, _, _, _, _⟩, ⟨_, _, _, _, _, _, _, _⟩, ⟨_, _, _, _, _, _, _, _⟩, ⟨_, _, _, undef, undef, undef, undef, undef⟩, rfl, rfl, ?_⟩⟩
            have hl2 := HL.out
            simp only [List.length_cons] at hl2
            have hcl := HR2.out.cl
            exact ⟨HB2.out.1, HB2.out.1, HB2.out.2.1, HB2.out.2.1, HS.out.back (st_end HX.out p), HR2.out.below, HR2.out.sb, (HAT3.out.below HBW.out), HR2.out.sb, (HAT3.out.below HBW.out), HR2.out.cb, by omega, HR2.out.cb, by omega, by omega, by omega⟩
        | cons c k =>
          obtain ⟨b2, o2, a2, rfl, hc2, hat2, h2, hsl2⟩ := HR.out.sk.head HR.out.ck
          have HAT2 := Lib.hid hat2
          have n2 : (0 : Int) < (k.length : Int) + 1 := by omega
          have n2' : ((k.length : Int) + 1 == 0) = false := by rw [beq_eq_false_iff_ne]; omega
          clear hat2
          have HX := Lib.hid hx
          clear hx
          by_cases h42 : x = [42]
          · subst h42
            repeat (first | go_values | go_skip | go_guarded | go_step | go_upon)
            go_quiet (fail)
            obtain ⟨w2, hw2⟩ : ∃ w2, w2 = w'.drewN nq := ⟨_, rfl⟩
            have hb2 : Below w'.heap.size w' w2 := by rw [hw2]; exact Below.drewN (Below.refl _ _) _
            rw [← hw2]
            have HR2 := Lib.hid (HR.out.to hb2)
            have HBW := Lib.hid hb2
            clear hw2 hb2
            repeat (first | go_values | go_skip | go_guarded | go_step | go_upon)
            go_quiet (fail)
            obtain ⟨w3, hw3⟩ : ∃ w3, w3 = w2.drewN nq := ⟨_, rfl⟩
            have hb3 : Below w2.heap.size w2 w3 := by rw [hw3]; exact Below.drewN (Below.refl _ _) _
            rw [← hw3]
            have HR3 := Lib.hid (HR2.out.to hb3)
            have HBW3 := Lib.hid (HBW.out.trans (hb3.mono HBW.out.size))
            clear hw3 hb3
            repeat (first | go_values | go_skip | go_guarded | go_step | go_upon)
            go_step3
            refine ⟨rfl, HH.out (β * 1000 + left.length * 30 + p.length) _ _ (by simp only [List.length_cons]; omega) ⟨p, k, pb, left, a1, a2, ba, la, pc - 1, kc - 1, bc, lc, β, ⟨_, _, _, _, _, _, _, _⟩, ⟨_, _, _, _, _, _, _, _⟩, ⟨_, _, _, _, _, _, _, _⟩, ⟨_, _, _, _, _, _, _, _⟩, ⟨_, _, _, _, _, _, _, _⟩, ⟨_, _, _, _, _, _, _, _⟩, ⟨_, _, _, _, _, _, _, _⟩, ⟨_, _, _, undef, undef, undef, undef, undef⟩, rfl, rfl, ?_⟩⟩
            have hp2 := HB2.out.2.2
            have hp3 := HB1.out
            have hk3 := HK.out
            simp only [List.length_cons] at hp2 hp3 hk3
            have hcp := HR.out.cp
            have hck := HR.out.ck
            exact ⟨by omega, HB2.out.1, HB2.out.2.1, by omega, HS.out.word HX.out (.inl rfl), HR3.out.below, HAT1.out.below HBW3.out, HAT2.out.below HBW3.out, HR3.out.sb, HR3.out.sl, by omega, by omega, HR3.out.cb, HR3.out.cl, by omega, HR3.out.nl⟩
          · have h42' : (x == [42]) = false := by simpa using h42
            have H42 := Lib.hid h42
            clear h42
            by_cases hxc : x = c
            · subst hxc
              have hxx : (x == x) = true := beq_self_eq_true x
              repeat (first | go_values | go_skip | go_guarded | go_step | go_upon)
              go_quiet (fail)
              obtain ⟨w2, hw2⟩ : ∃ w2, w2 = w'.drewN nq := ⟨_, rfl⟩
              have hb2 : Below w'.heap.size w' w2 := by rw [hw2]; exact Below.drewN (Below.refl _ _) _
              rw [← hw2]
              have HR2 := Lib.hid (HR.out.to hb2)
              have HBW := Lib.hid hb2
              clear hw2 hb2
              repeat (first | go_values | go_skip | go_guarded | go_step | go_upon)
              go_quiet (fail)
              obtain ⟨w3, hw3⟩ : ∃ w3, w3 = w2.drewN nq := ⟨_, rfl⟩
              have hb3 : Below w2.heap.size w2 w3 := by rw [hw3]; exact Below.drewN (Below.refl _ _) _
              rw [← hw3]
              have HR3 := Lib.hid (HR2.out.to hb3)
              have HBW3 := Lib.hid (HBW.out.trans (hb3.mono HBW.out.size))
              clear hw3 hb3
              repeat (first | go_values | go_skip | go_guarded | go_step | go_upon)
              go_step3
              refine ⟨rfl, HH.out (β * 1000 + left.length * 30 + p.length) _ _ (by simp only [List.length_cons]; omega) ⟨p, k, pb, left, a1, a2, ba, la, pc - 1, kc - 1, bc, lc, β, ⟨_, _, _, _, _, _, _, _⟩, ⟨_, _, _, _, _, _, _, _⟩, ⟨_, _, _, _, _, _, _, _⟩, ⟨_, _, _, _, _, _, _, _⟩, ⟨_, _, _, _, _, _, _, _⟩, ⟨_, _, _, _, _, _, _, _⟩, ⟨_, _, _, _, _, _, _, _⟩, ⟨_, _, _, undef, undef, undef, undef, undef⟩, rfl, rfl, ?_⟩⟩
              have hp2 := HB2.out.2.2
              have hp3 := HB1.out
              have hk3 := HK.out
              simp only [List.length_cons] at hp2 hp3 hk3
              have hcp := HR.out.cp
              have hck := HR.out.ck
              exact ⟨by omega, HB2.out.1, HB2.out.2.1, by omega, HS.out.word HX.out (.inr rfl), HR3.out.below, HAT1.out.below HBW3.out, HAT2.out.below HBW3.out, HR3.out.sb, HR3.out.sl, by omega, by omega, HR3.out.cb, HR3.out.cl, by omega, HR3.out.nl⟩
            · have hxc' : (x == c) = false := by simpa using hxc
              have HXC := Lib.hid hxc
              clear hxc
              cases left with
              | nil =>
                repeat (first | go_values | go_skip | go_guarded | go_step | go_upon)
                go_quiet (fail)
                obtain ⟨w2, hw2⟩ : ∃ w2, w2 = w'.drewN nq := ⟨_, rfl⟩
                have hb2 : Below w'.heap.size w' w2 := by rw [hw2]; exact Below.drewN (Below.refl _ _) _
                rw [← hw2]
                have HR2 := Lib.hid (HR.out.to hb2)
                have HBW := Lib.hid hb2
                clear hw2 hb2
                repeat (first | go_values | go_skip | go_guarded | go_step | go_upon)
                simp only [Exit.jump]
                go_ret
                exact ⟨by rw [HS.out.lost (st_miss HX.out H42.out HXC.out p k)]; rfl, HR2.out.below⟩
              | cons d left =>
                obtain ⟨b3, o3, a3, rfl, hc3, hat3, h3, hsl3⟩ := HR.out.sl.head HR.out.cl
                have HAT3 := Lib.hid hat3
                have n3 : (0 : Int) < (left.length : Int) + 1 := by omega
                clear hat3
                repeat (first | go_values | go_skip | go_guarded | go_step | go_upon)
                go_quiet (fail)
                obtain ⟨w2, hw2⟩ : ∃ w2, w2 = w'.drewN nq := ⟨_, rfl⟩
                have hb2 : Below w'.heap.size w' w2 := by rw [hw2]; exact Below.drewN (Below.refl _ _) _
                rw [← hw2]
                have HR2 := Lib.hid (HR.out.to hb2)
                have HBW := Lib.hid hb2
                clear hw2 hb2
                repeat (first | go_values | go_skip | go_guarded | go_step | go_upon)
                go_step3
                refine ⟨rfl, HH.out (β * 1000 + left.length * 30 + pb.length) _ _ (by have := HB2.out; simp only [List.length_cons]; omega) ⟨pb, left, pb, left, ba, a3, ba, a3, bc, lc - 1, bc, lc - 1, β, ⟨_, _, _, _, _, _, _, _⟩, ⟨_, _, _, _, _, _, _, _⟩, ⟨_, _, _, _, _, _, _, _⟩, ⟨_, _, _, _, _, _, _, _⟩, ⟨_, _, _, _, _, _, _, _⟩, ⟨_, _, _, _, _, _, _, _⟩, ⟨_, _, _, _, _, _, _, _⟩, ⟨_, _, _, undef, undef, undef, undef, undef⟩, rfl, rfl, ?_⟩⟩
                have hl2 := HL.out
                simp only [List.length_cons] at hl2
                have hcl := HR2.out.cl
                exact ⟨HB2.out.1, HB2.out.1, HB2.out.2.1, HB2.out.2.1, HS.out.back (st_miss HX.out H42.out HXC.out p k), HR2.out.below, HR2.out.sb, (HAT3.out.below HBW.out), HR2.out.sb, (HAT3.out.below HBW.out), HR2.out.cb, by omega, HR2.out.cb, by omega, by omega, by omega⟩
end Go.Proofs.YtiobcgolcoocnaaGreatDoor.Top

namespace Go.Proofs.YtiobcgolcoocnaaGreatDoor.Top
open Go.RowKit
set_option linter.unusedVariables false

theorem wds_len (l : List UInt8) : (wds l).length ≤ l.count 46 + 1 := by
  unfold wds
  split
  · simp
  · rw [spl_len]; exact Nat.le_refl _
theorem fits_le {l : List UInt8} (h : fitsB l = true) : l.length ≤ 255 ∧ (wds l).length ≤ 20 := by
  unfold fitsB at h
  simp only [Bool.and_eq_true, decide_eq_true_eq] at h
  have := wds_len l
  omega

set_option maxRecDepth 100000 in
set_option maxHeartbeats 2000000 in
theorem match_any (p k : List UInt8) (hp : p.length ≤ 1000000) (hk : k.length ≤ 1000000) (w : World) :
    Calls Tryz.prog 77 #[.string ⟨p.toArray⟩, .string ⟨k.toArray⟩] w fun e w' => e = .returned (.bool (matchB p k)) ∧ Below w.heap.size w w' := by
  obtain ⟨q, hq⟩ : ∃ q, mayB p = q := ⟨_, rfl⟩
  obtain ⟨r, hr⟩ : ∃ r, fitsB k = r := ⟨_, rfl⟩
  have cq := may_any p hp w
  have cr := fits_any k
  rw [hq] at cq
  rw [hr] at cr
  have hm : matchB p k = (q && r && stand (wds p) (wds k)) := by unfold matchB; rw [hq, hr]
  have HM := Lib.hid hm
  have HQ := Lib.hid cq
  have HR := Lib.hid cr
  clear cq cr hm
  go_enter Tryz.func77, Tryz.ntmps77
  cases q
  · clear hq hr
    go_wp2_with (go_at_call 86; refine HQ.out.mono ?_; rintro e w1 ⟨rfl, hb1⟩; have HB1 := Lib.hid hb1; clear hb1)
    go_ret
    exact ⟨by rw [HM.out]; rfl, HB1.out⟩
  cases r
  · clear hq hr
    go_wp2_with (first
      | (go_at_call 86; refine HQ.out.mono ?_; rintro e w1 ⟨rfl, hb1⟩; have HB1 := Lib.hid hb1; clear hb1)
      | (go_at_call 87; refine (HR.out _).mono ?_; rintro e w2 ⟨rfl, rfl⟩))
    go_ret
    exact ⟨by rw [HM.out]; rfl, HB1.out⟩
  have hpl : (wds p).length ≤ 20 := (fits_le (l := p) (by unfold mayB at hq; simp only [Bool.and_eq_true] at hq; exact hq.1)).2
  have hkl := (fits_le hr).2
  have HPL := Lib.hid hpl
  have HKL := Lib.hid hkl
  clear hq hr hpl hkl
  go_wp2_with (first
    | (go_at_call 86; refine HQ.out.mono ?_; rintro e w1 ⟨rfl, hb1⟩; have HB1 := Lib.hid hb1; clear hb1)
    | (go_at_call 87; refine (HR.out _).mono ?_; rintro e w2 ⟨rfl, rfl⟩))
  refine (words_any p hp _).mono ?_
  rintro e w3 ⟨hb3, a3, c3, rfl, hc3, hat3⟩
  have HB3 := Lib.hid (HB1.out.trans (hb3.mono HB1.out.size))
  have HC3 := Lib.hid hc3
  have HAT3 := Lib.hid hat3
  clear hb3 hc3 hat3
  go_wp2_with fail
  refine (words_any k hk _).mono ?_
  rintro e w4 ⟨hb4, a4, c4, rfl, hc4, hat4⟩
  have HB4 := Lib.hid (HB3.out.trans (hb4.mono HB3.out.size))
  have HC4 := Lib.hid hc4
  have HAT4 := Lib.hid hat4
  have HAT34 := Lib.hid (HAT3.out.below hb4)
  clear hb4 hc4 hat4
  go_wp2_with fail
  refine (stands_any (wds p) (wds k) HPL.out HKL.out a3 a4 c3 c4 _ HC3.out HC4.out HAT34.out HAT4.out).mono ?_
  rintro e w5 ⟨rfl, hb5⟩
  have HB5 := Lib.hid (HB4.out.trans (hb5.mono HB4.out.size))
  clear hb5
  go_wp2_with fail
  go_ret
  exact ⟨by rw [HM.out]; rfl, HB5.out⟩
end Go.Proofs.YtiobcgolcoocnaaGreatDoor.Top
