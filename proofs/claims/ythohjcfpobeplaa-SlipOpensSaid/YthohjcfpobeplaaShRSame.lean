/-
  The document's Same, walked.
-/
import Derived.Test.YthohjcfpobeplaaShRMay
import Derived.Test.YthohjcfpobeplaaShEq
namespace Go.Proofs.Ythohjcfpobeplaa.Sh
open Go.RowKit Rg Go.Sort
set_option linter.unusedVariables false
set_option linter.unusedSimpArgs false

theorem list_ext {α : Type} {l m : List α} (h : l.length = m.length) (h2 : ∀ j, j < l.length → ∀ (h1 : j < l.length) (h2 : j < m.length), l[j] = m[j]) : l = m := List.ext_getElem h fun j h1 h3 => h2 j h1 h1 h3
theorem sd_ext {s t : Sd} (h0 : s.fr = t.fr) (h1 : s.nx = t.nx) (h2 : s.rd = t.rd) (h3 : s.hd = t.hd) (h4 : s.ms = t.ms) : s = t := by
  cases s; cases t; simp_all
set_option maxRecDepth 100000 in
set_option maxHeartbeats 8000000 in
theorem rsame_any (s t : Sd) (ra : Option Addr) (rc : Nat) (ha : Option Addr) (hc : Nat) (ma : Option Addr) (mc : Nat) (ra2 : Option Addr) (rc2 : Nat) (ha2 : Option Addr) (hc2 : Nat) (ma2 : Option Addr) (mc2 : Nat) (w : World) (hs : SdAt w ra rc ha hc ma mc s) (ht : SdAt w ra2 rc2 ha2 hc2 ma2 mc2 t) :
    Calls Try.prog 26 #[.agg #[.bool s.fr, .int .i64 s.nx, .slice ra s.rd.length rc, .slice ha s.hd.length hc, .slice ma s.ms.length mc], .agg #[.bool t.fr, .int .i64 t.nx, .slice ra2 t.rd.length rc2, .slice ha2 t.hd.length hc2, .slice ma2 t.ms.length mc2]] w fun e w' => e = .returned (.bool (decide (s = t))) ∧ Below w.heap.size w w' := by
  obtain ⟨hx, hy, hb0, hWs⟩ := two_box (w := w) (.cells #[.bool s.fr, .int .i64 s.nx, .slice ra s.rd.length rc, .slice ha s.hd.length hc, .slice ma s.ms.length mc] 26) (.cells #[.bool t.fr, .int .i64 t.nx, .slice ra2 t.rd.length rc2, .slice ha2 t.hd.length hc2, .slice ma2 t.ms.length mc2] 26)
  obtain ⟨W, hW⟩ : ∃ W, W = (w.alloc (.cells #[.bool s.fr, .int .i64 s.nx, .slice ra s.rd.length rc, .slice ha s.hd.length hc, .slice ma s.ms.length mc] 26)).alloc (.cells #[.bool t.fr, .int .i64 t.nx, .slice ra2 t.rd.length rc2, .slice ha2 t.hd.length hc2, .slice ma2 t.ms.length mc2] 26) := ⟨_, rfl⟩
  rw [← hW] at hx hy hb0 hWs
  have HBX := Lib.hid (fun (wx : World) (h : Below W.heap.size W wx) => And.intro (box5 (box_bl hx h)).1 (box5 (box_bl hy h)).1)
  have HB0 := Lib.hid hb0
  have HS1 := Lib.hid (hs.below ra rc ha hc ma mc hb0)
  have HT1 := Lib.hid (ht.below ra2 rc2 ha2 hc2 ma2 mc2 hb0)
  have HW := Lib.hid hW
  have hl1 := hs.sm
  have hl2 := ht.sm
  clear hs ht hx hy hb0 hWs hW
  have mixed : Try.prog.follows .mixedOrders = true := by kernel_rfl
  by_cases h0 : s.fr = t.fr
  case neg =>
    as_aux_lemma =>
      have HR : Hid (decide (s = t) = false) := Lib.hid (decide_eq_false fun g => h0 (congrArg Sd.fr g))
      have eh0 : (s.fr == t.fr) = false := by simpa using h0
      have fh0 : (s.fr != t.fr) = true := by simpa using h0
      clear h0
      go_enter Try.func26, Try.ntmps26
      go_wp2_with fail
      go_ret
      exact ⟨by rw [HR.out]; rfl, by rw [← HW.out]; exact HB0.out⟩
  have eh0 : (s.fr == t.fr) = true := by simpa using h0
  have fh0 : (s.fr != t.fr) = false := by simpa using h0
  have Kh0 := Lib.hid h0
  clear h0
  by_cases h1 : s.nx = t.nx
  case neg =>
    as_aux_lemma =>
      have HR : Hid (decide (s = t) = false) := Lib.hid (decide_eq_false fun g => h1 (congrArg Sd.nx g))
      have eh1 : (s.nx == t.nx) = false := by simpa using h1
      have fh1 : (s.nx != t.nx) = true := by simpa using h1
      clear h1
      go_enter Try.func26, Try.ntmps26
      go_wp2_with fail
      go_ret
      exact ⟨by rw [HR.out]; rfl, by rw [← HW.out]; exact HB0.out⟩
  have eh1 : (s.nx == t.nx) = true := by simpa using h1
  have fh1 : (s.nx != t.nx) = false := by simpa using h1
  have Kh1 := Lib.hid h1
  clear h1
  by_cases h2 : s.rd.length = t.rd.length
  case neg =>
    as_aux_lemma =>
      have HR : Hid (decide (s = t) = false) := Lib.hid (decide_eq_false fun g => h2 (congrArg (fun q : Sd => q.rd.length) g))
      have eh2 : ((s.rd.length : Int) == (t.rd.length : Int)) = false := by rw [beq_eq_false_iff_ne]; omega
      have fh2 : ((s.rd.length : Int) != (t.rd.length : Int)) = true := by rw [bne_iff_ne]; omega
      clear h2
      go_enter Try.func26, Try.ntmps26
      go_wp2_with fail
      go_ret
      exact ⟨by rw [HR.out]; rfl, by rw [← HW.out]; exact HB0.out⟩
  have eh2 : ((s.rd.length : Int) == (t.rd.length : Int)) = true := by rw [beq_iff_eq]; omega
  have fh2 : ((s.rd.length : Int) != (t.rd.length : Int)) = false := by rw [bne_eq_false_iff_eq]; omega
  have Kh2 := Lib.hid h2
  clear h2
  by_cases h3 : s.hd.length = t.hd.length
  case neg =>
    as_aux_lemma =>
      have HR : Hid (decide (s = t) = false) := Lib.hid (decide_eq_false fun g => h3 (congrArg (fun q : Sd => q.hd.length) g))
      have eh3 : ((s.hd.length : Int) == (t.hd.length : Int)) = false := by rw [beq_eq_false_iff_ne]; omega
      have fh3 : ((s.hd.length : Int) != (t.hd.length : Int)) = true := by rw [bne_iff_ne]; omega
      clear h3
      go_enter Try.func26, Try.ntmps26
      go_wp2_with fail
      go_ret
      exact ⟨by rw [HR.out]; rfl, by rw [← HW.out]; exact HB0.out⟩
  have eh3 : ((s.hd.length : Int) == (t.hd.length : Int)) = true := by rw [beq_iff_eq]; omega
  have fh3 : ((s.hd.length : Int) != (t.hd.length : Int)) = false := by rw [bne_eq_false_iff_eq]; omega
  have Kh3 := Lib.hid h3
  clear h3
  by_cases h4 : s.ms.length = t.ms.length
  case neg =>
    as_aux_lemma =>
      have HR : Hid (decide (s = t) = false) := Lib.hid (decide_eq_false fun g => h4 (congrArg (fun q : Sd => q.ms.length) g))
      have eh4 : ((s.ms.length : Int) == (t.ms.length : Int)) = false := by rw [beq_eq_false_iff_ne]; omega
      have fh4 : ((s.ms.length : Int) != (t.ms.length : Int)) = true := by rw [bne_iff_ne]; omega
      clear h4
      go_enter Try.func26, Try.ntmps26
      go_wp2_with fail
      go_ret
      exact ⟨by rw [HR.out]; rfl, by rw [← HW.out]; exact HB0.out⟩
  have eh4 : ((s.ms.length : Int) == (t.ms.length : Int)) = true := by rw [beq_iff_eq]; omega
  have fh4 : ((s.ms.length : Int) != (t.ms.length : Int)) = false := by rw [bne_eq_false_iff_eq]; omega
  have Kh4 := Lib.hid h4
  clear h4
  have HC := Lib.hid (And.intro Kh0.out (And.intro Kh1.out (And.intro Kh2.out (And.intro Kh3.out Kh4.out))))
  go_enter Try.func26, Try.ntmps26
  go_wp2_with fail
  clear eh0 eh1 eh2 eh3 eh4 fh0 fh1 fh2 fh3 fh4
  rw [← HW.out]
  have HBs := Lib.hid (Below.refl W.heap.size W)
  go_loopg [5] s.rd.length (upRel (fun j => ∀ (h1 : j < s.rd.length) (h2 : j < t.rd.length), s.rd[j] = t.rd[j]) s.rd.length W)
  case atStart => exact ⟨0, Nat.zero_le _, fun j h => by omega, rfl, rfl, HBs.out⟩
  case round =>
    obtain ⟨i, hi, hok, rfl, rfl, hb⟩ := hrel
    have HOK := Lib.hid hok
    have HB := Lib.hid hb
    clear hok hb HBs
    obtain ⟨⟨b0, b1, b2, b3, b4⟩, c0, c1, c2, c3, c4⟩ := HBX.out _ HB.out
    by_cases hlt : i < s.rd.length
    · have hlti : (i : Int) < (s.rd.length : Int) := by omega
      have hlt2 : i < t.rd.length := by have := HC.out.2.2.1; omega
      have hlti2 : (i : Int) < (t.rd.length : Int) := by omega
      have h0i : (0 : Int) ≤ (i : Int) := by omega
      have h4 : IntKind.i64.wrap ((i : Int) + 1) = (i : Int) + 1 := IntWalk.i64_in _ (by omega)
      obtain ⟨b, o, ea, d0, d1, d2, d3, d4⟩ := MgsAt.get (HS1.out.below _ _ _ _ _ _ HB.out).rd i hlt
      obtain ⟨b', o', eb, v0, v1, v2, v3, v4⟩ := MgsAt.get (HT1.out.below _ _ _ _ _ _ HB.out).rd i hlt2
      subst ea
      subst eb
      have HN := Lib.hid (fun (h : s.rd[i] = t.rd[i]) => up_more (ok := fun j => ∀ (h1 : j < s.rd.length) (h2 : j < t.rd.length), s.rd[j] = t.rd[j]) HOK.out (show ∀ _ _, s.rd[i] = t.rd[i] from fun _ _ => h))
      have HF : Hid (¬ s.rd[i] = t.rd[i] → decide (s = t) = false) := Lib.hid fun h => decide_eq_false fun g => h (by subst g; rfl)
      generalize hx1 : s.rd[i] = x at *
      generalize hx2 : t.rd[i] = y at *
      clear hx1 hx2
      by_cases hxy : x = y
      · have HR := Lib.hid (HN.out hxy)
        have heq := fun wx => mg_neq x y true (decide_eq_true hxy) wx
        clear hxy HF HN
        go_wp2_with fail
        go_quiet (fail)
        go_wp2_with fail
        go_roundg (s.rd.length - (i + 1))
        case measure => omega
        case rel => exact ⟨i + 1, by omega, HR.out, by go_num, rfl, Below.drewN HB.out _⟩
      · have HR := Lib.hid (HF.out hxy)
        have heq := fun wx => mg_neq x y false (decide_eq_false hxy) wx
        clear hxy HF HN
        go_wp2_with fail
        go_quiet (fail)
        go_wp2_with fail
        go_ret
        exact ⟨by rw [HR.out]; rfl, HB0.out.trans (Below.drewN (HB.out.mono HB0.out.size) _)⟩
    · obtain rfl : i = s.rd.length := by omega
      have HOrd : Hid (s.rd = t.rd) := Lib.hid (list_ext HC.out.2.2.1 fun j hj => HOK.out j hj)
      go_wp2_with fail
      clear b0 b1 b2 b3 b4 c0 c1 c2 c3 c4 HOK hlt hi
      have HBs := Lib.hid HB.out
      clear HB
      go_loopg [6] s.hd.length (upRel (fun j => ∀ (h1 : j < s.hd.length) (h2 : j < t.hd.length), s.hd[j] = t.hd[j]) s.hd.length W)
      case atStart => exact ⟨0, Nat.zero_le _, fun j h => by omega, rfl, rfl, HBs.out⟩
      case round =>
        obtain ⟨i, hi, hok, rfl, rfl, hb⟩ := hrel
        have HOK := Lib.hid hok
        have HB := Lib.hid hb
        clear hok hb HBs
        obtain ⟨⟨b0, b1, b2, b3, b4⟩, c0, c1, c2, c3, c4⟩ := HBX.out _ HB.out
        by_cases hlt : i < s.hd.length
        · have hlti : (i : Int) < (s.hd.length : Int) := by omega
          have hlt2 : i < t.hd.length := by have := HC.out.2.2.2.1; omega
          have hlti2 : (i : Int) < (t.hd.length : Int) := by omega
          have h0i : (0 : Int) ≤ (i : Int) := by omega
          have h4 : IntKind.i64.wrap ((i : Int) + 1) = (i : Int) + 1 := IntWalk.i64_in _ (by omega)
          obtain ⟨b, o, ea, d0, d1, d2, d3, d4, d5⟩ := HdsAt.get (HS1.out.below _ _ _ _ _ _ HB.out).hd i hlt
          obtain ⟨b', o', eb, v0, v1, v2, v3, v4, v5⟩ := HdsAt.get (HT1.out.below _ _ _ _ _ _ HB.out).hd i hlt2
          subst ea
          subst eb
          have HN := Lib.hid (fun (h : s.hd[i] = t.hd[i]) => up_more (ok := fun j => ∀ (h1 : j < s.hd.length) (h2 : j < t.hd.length), s.hd[j] = t.hd[j]) HOK.out (show ∀ _ _, s.hd[i] = t.hd[i] from fun _ _ => h))
          have HF : Hid (¬ s.hd[i] = t.hd[i] → decide (s = t) = false) := Lib.hid fun h => decide_eq_false fun g => h (by subst g; rfl)
          generalize hx1 : s.hd[i] = x at *
          generalize hx2 : t.hd[i] = y at *
          clear hx1 hx2
          by_cases hxy : x = y
          · have HR := Lib.hid (HN.out hxy)
            have heq := fun wx => hd_neq x y true (decide_eq_true hxy) wx
            clear hxy HF HN
            go_wp2_with fail
            go_quiet (fail)
            go_wp2_with fail
            go_roundg (s.hd.length - (i + 1))
            case measure => omega
            case rel => exact ⟨i + 1, by omega, HR.out, by go_num, rfl, Below.drewN HB.out _⟩
          · have HR := Lib.hid (HF.out hxy)
            have heq := fun wx => hd_neq x y false (decide_eq_false hxy) wx
            clear hxy HF HN
            go_wp2_with fail
            go_quiet (fail)
            go_wp2_with fail
            go_ret
            exact ⟨by rw [HR.out]; rfl, HB0.out.trans (Below.drewN (HB.out.mono HB0.out.size) _)⟩
        · obtain rfl : i = s.hd.length := by omega
          have HOhd : Hid (s.hd = t.hd) := Lib.hid (list_ext HC.out.2.2.2.1 fun j hj => HOK.out j hj)
          go_wp2_with fail
          clear b0 b1 b2 b3 b4 c0 c1 c2 c3 c4 HOK hlt hi
          have HBs := Lib.hid HB.out
          clear HB
          go_loopg [7] s.ms.length (upRel (fun j => ∀ (h1 : j < s.ms.length) (h2 : j < t.ms.length), s.ms[j] = t.ms[j]) s.ms.length W)
          case atStart => exact ⟨0, Nat.zero_le _, fun j h => by omega, rfl, rfl, HBs.out⟩
          case round =>
            obtain ⟨i, hi, hok, rfl, rfl, hb⟩ := hrel
            have HOK := Lib.hid hok
            have HB := Lib.hid hb
            clear hok hb HBs
            obtain ⟨⟨b0, b1, b2, b3, b4⟩, c0, c1, c2, c3, c4⟩ := HBX.out _ HB.out
            by_cases hlt : i < s.ms.length
            · have hlti : (i : Int) < (s.ms.length : Int) := by omega
              have hlt2 : i < t.ms.length := by have := HC.out.2.2.2.2; omega
              have hlti2 : (i : Int) < (t.ms.length : Int) := by omega
              have h0i : (0 : Int) ≤ (i : Int) := by omega
              have h4 : IntKind.i64.wrap ((i : Int) + 1) = (i : Int) + 1 := IntWalk.i64_in _ (by omega)
              obtain ⟨b, o, ea, d0, d1, d2⟩ := MksAt.get (HS1.out.below _ _ _ _ _ _ HB.out).ms i hlt
              obtain ⟨b', o', eb, v0, v1, v2⟩ := MksAt.get (HT1.out.below _ _ _ _ _ _ HB.out).ms i hlt2
              subst ea
              subst eb
              have HN := Lib.hid (fun (h : s.ms[i] = t.ms[i]) => up_more (ok := fun j => ∀ (h1 : j < s.ms.length) (h2 : j < t.ms.length), s.ms[j] = t.ms[j]) HOK.out (show ∀ _ _, s.ms[i] = t.ms[i] from fun _ _ => h))
              have HF : Hid (¬ s.ms[i] = t.ms[i] → decide (s = t) = false) := Lib.hid fun h => decide_eq_false fun g => h (by subst g; rfl)
              generalize hx1 : s.ms[i] = x at *
              generalize hx2 : t.ms[i] = y at *
              clear hx1 hx2
              by_cases hxy : x = y
              · have HR := Lib.hid (HN.out hxy)
                have heq := fun wx => mk_neq x y true (decide_eq_true hxy) wx
                clear hxy HF HN
                go_wp2_with fail
                go_quiet (fail)
                go_wp2_with fail
                go_roundg (s.ms.length - (i + 1))
                case measure => omega
                case rel => exact ⟨i + 1, by omega, HR.out, by go_num, rfl, Below.drewN HB.out _⟩
              · have HR := Lib.hid (HF.out hxy)
                have heq := fun wx => mk_neq x y false (decide_eq_false hxy) wx
                clear hxy HF HN
                go_wp2_with fail
                go_quiet (fail)
                go_wp2_with fail
                go_ret
                exact ⟨by rw [HR.out]; rfl, HB0.out.trans (Below.drewN (HB.out.mono HB0.out.size) _)⟩
            · obtain rfl : i = s.ms.length := by omega
              have HOms : Hid (s.ms = t.ms) := Lib.hid (list_ext HC.out.2.2.2.2 fun j hj => HOK.out j hj)
              go_wp2_with fail
              have HR : Hid (decide (s = t) = true) := Lib.hid (decide_eq_true (sd_ext HC.out.1 HC.out.2.1 HOrd.out HOhd.out HOms.out))
              go_ret
              exact ⟨by rw [HR.out]; rfl, HB0.out.trans (HB.out.mono HB0.out.size)⟩

end Go.Proofs.Ythohjcfpobeplaa.Sh
