/-
  SegKeeps.
-/
import Derived.Test.YtifgkmaaglaffaaSgSums
import Derived.BigQuiet
namespace Go.Proofs.Ytifgkmaaglaffaa.Sg
open Go.RowKit
set_option linter.unusedVariables false
variable {B C : Nat}

theorem below_drewN (B : Nat) (w : World) (n : Nat) : Below B w (w.drewN n) := ⟨rfl, rfl, rfl, Nat.le_refl _, fun _ _ => rfl⟩
theorem open_nil (w : World) : Calls Try.prog 16 #[.slice none 0 0] w fun e w' => ∃ g a c vs C, e = .returned (.tuple #[.pointer (some ⟨g, 0, none⟩), .slice a 0 c]) ∧ LogAt C w' g vs (.slice none 0 0) [] [] false ∧ w.heap.size ≤ C ∧ Below w.heap.size w w' := by
  have h := open_any (B := 0) none 0 [] (Nat.le_refl _) (by decide) (fun _ => rfl) w (fun h => by simp at h) (by decide) (Nat.zero_le _)
  unfold OpenR at h
  rw [rdL_nil first_nil] at h
  refine Calls.mono h ?_
  rintro e w' ⟨g, a, c, vs, C, he, -, h1, h2, h3⟩
  exact ⟨g, a, c, vs, C, he, h1, h2, h3⟩

theorem recC_may {l : List UInt8} (h : MayL l.length) : recC l = 0 := if_pos h
theorem recL_may {l : List UInt8} (h : MayL l.length) : recL l = recF l := if_pos h
theorem catR_snoc {ls : List (List UInt8)} {i : Nat} (h : i < ls.length) : catR (ls.take (i + 1)) = catR (ls.take i) ++ recF ls[i] := by
  rw [List.take_succ_eq_append_getElem h, catR_append, catR_one]
/-- what is synced, and what waits, ahead of the i-th Put. -/
def syK (ls : List (List UInt8)) (k i : Nat) : List UInt8 := if i ≤ k then [] else catR (ls.take k)
def waK (ls : List (List UInt8)) (k i : Nat) : List UInt8 := if i ≤ k then catR (ls.take i) else catR ((ls.take i).drop k)
theorem waK_next {ls : List (List UInt8)} {k i : Nat} (h : i < ls.length) (hk : i ≠ k) : waK ls k (i + 1) = waK ls k i ++ recF ls[i] ∧ syK ls k (i + 1) = syK ls k i := by
  unfold waK syK
  by_cases h1 : i ≤ k
  · rw [if_pos (by omega), if_pos h1, if_pos (by omega), if_pos h1]
    exact ⟨catR_snoc h, rfl⟩
  · rw [if_neg (by omega), if_neg h1, if_neg (by omega), if_neg h1]
    refine ⟨?_, rfl⟩
    rw [List.take_succ_eq_append_getElem h, List.drop_append, catR_append, show k - (ls.take i).length = 0 by simp; omega, List.drop_zero, catR_one]
theorem waK_here {ls : List (List UInt8)} {i : Nat} (h : i < ls.length) : waK ls i (i + 1) = recF ls[i] ∧ syK ls i (i + 1) = catR (ls.take i) := by
  unfold waK syK
  rw [if_neg (by omega), if_neg (by omega)]
  refine ⟨?_, rfl⟩
  rw [List.take_succ_eq_append_getElem h, List.drop_left' (by simp; omega), catR_one]
theorem catR_small {ls : List (List UInt8)} {n : Nat} (h : ∀ d ∈ ls, d.length ≤ n) : (catR ls).length ≤ ls.length * (n + 6) := by
  induction ls with
  | nil => simp [catR]
  | cons d ls ih =>
    rw [catR_cons, List.length_append, recF_length, List.length_cons, Nat.succ_mul]
    have h1 := h d (by simp)
    have h2 := ih fun x hx => h x (by simp [hx])
    omega
theorem syK_wa (ls : List (List UInt8)) (k i : Nat) : syK ls k i ++ waK ls k i = catR (ls.take i) := by
  unfold syK waK
  by_cases h : i ≤ k
  · rw [if_pos h, if_pos h]; rfl
  · rw [if_neg h, if_neg h, ← catR_append]
    congr 1
    rw [show ls.take k = (ls.take i).take k by rw [List.take_take, Nat.min_eq_left (by omega)]]
    exact List.take_append_drop _ _
theorem syK_le {ls : List (List UInt8)} (h : ∀ d ∈ ls, d.length ≤ 60) (hl : ls.length ≤ 12) (k i : Nat) : (syK ls k i).length + (waK ls k i).length ≤ 792 := by
  have e := congrArg List.length (syK_wa ls k i)
  rw [List.length_append] at e
  rw [e]
  have h2 := catR_small (ls := ls.take i) (n := 60) fun d hd => h d (List.mem_of_mem_take hd)
  have h3 : (ls.take i).length ≤ 12 := by simp; omega
  have := Nat.mul_le_mul_right 66 h3
  omega
def Fit (d : List UInt8) : Prop := 1 ≤ d.length ∧ d.length ≤ 60
theorem Fit.may {d : List UInt8} (h : Fit d) : MayL d.length := ⟨h.1, Nat.le_trans h.2 (by decide)⟩
/-- so many records are put. -/
def keepRel (W : World) (C g : Nat) (ls : List (List UInt8)) (k : Nat) (m : Nat) (v : Value) (wr : World) : Prop :=
  ∃ i : Nat, i ≤ ls.length ∧ v = .int .i64 i ∧ m = ls.length - i ∧ (∀ d ∈ ls.take i, Fit d) ∧ Below W.heap.size W wr ∧ ∃ vs vw, LogAt C wr g vs vw (syK ls k i) (waK ls k i) false

/-- so many records are compared. -/
def cmpRel (W W6 : World) (C6 : Nat) (a : Option Addr) (cap : Nat) (xs : List (List UInt8)) (n : Nat) (m : Nat) (v : Value) (wr : World) : Prop :=
  ∃ i : Nat, i ≤ n ∧ v = .int .i64 i ∧ m = n - i ∧ Below W.heap.size W wr ∧ BbsAt C6 wr a cap xs

set_option maxRecDepth 100000 in
set_option maxHeartbeats 1000000 in
theorem keeps_any (a : Option Addr) (cap : Nat) (l : List (List UInt8)) (p1 p2 : Int) (w : World) (w0 : BbsAt w.heap.size w a cap l) :
    Calls Try.prog 5 #[.slice a l.length cap, .int .i64 p1, .int .i64 p2] w fun e w' => e = .returned (.bool true) ∧ Below w.heap.size w w' := by
  have HBB := Lib.hid w0
  have hlc := w0.len
  have hcm := w0.max
  unfold maxLen at hcm
  clear w0
  by_cases h12 : 12 < l.length
  · have hi : (12 : Int) < (l.length : Int) := by omega
    clear h12
    go_enter Try.func5, Try.ntmps5
    go_wp2_with fail
    refine (told_any w).mono ?_
    rintro e w3 ⟨rfl, hb3⟩
    have HB3 := Lib.hid hb3
    clear hb3
    go_wp2_with fail
    go_ret
    exact ⟨rfl, HB3.out⟩
  have hi : ¬ (12 : Int) < (l.length : Int) := by omega
  obtain ⟨k, hk, hkl⟩ := u64_rem p1 (l.length + 1) (by omega)
  rw [show ((l.length + 1 : Nat) : Int) = (l.length : Int) + 1 by omega] at hk
  have hlw : IntKind.u64.wrap ((l.length : Int) + 1) = (l.length : Int) + 1 := by rw [IntKind.wrap_u64]; omega
  have hl0 : ¬ (l.length : Int) + 1 = 0 := by omega
  have hwk : IntKind.i64.wrap (k : Int) = (k : Int) := IntWalk.i64_in _ (by omega)
  go_enter Try.func5, Try.ntmps5
  go_wp2_with fail
  refine (open_nil w).mono ?_
  rintro e w1 ⟨g, xa, xc, vs, C, rfl, hlog1, hC, hb1⟩
  have HLOG1 := Lib.hid hlog1
  have HB1 := Lib.hid hb1
  have HC := Lib.hid hC
  clear hlog1 hb1 hC
  go_wp2_with fail
  clear hk hlw hl0 hwk
  go_loopg [10] l.length (keepRel w C g l k)
  case atStart =>
    refine ⟨0, Nat.zero_le _, rfl, rfl, fun d hd => by simp at hd, HB1.out, vs, .slice none 0 0, ?_⟩
    have := HLOG1.out
    unfold syK waK
    rw [if_pos (Nat.zero_le _), if_pos (Nat.zero_le _)]
    exact this
  case round =>
    obtain ⟨i, hil, rfl, rfl, hfit, hbw, vs1, vw1, hlog⟩ := hrel
    have HFIT := Lib.hid hfit
    have HBW := Lib.hid hbw
    have HLOG := Lib.hid hlog
    have hCr : C ≤ wr.heap.size := Nat.le_trans hlog.ge (Nat.le_of_lt hlog.lt)
    clear hfit hbw hlog
    by_cases hlt : i < l.length
    · have hlti : (i : Int) < (l.length : Int) := by omega
      have h0i : (0 : Int) ≤ (i : Int) := by omega
      obtain ⟨b, o, da, dc, rfl, hbl, c0, hdl, hdm, hdat⟩ := (HBB.out.under HBW.out).get i hlt
      have HDAT := Lib.hid hdat
      have HDL := Lib.hid hdl
      have HDM := Lib.hid hdm
      have HBL := Lib.hid hbl
      obtain ⟨d, hd⟩ : ∃ d, d = l[i] := ⟨_, rfl⟩
      have HD := Lib.hid hd
      rw [← hd] at c0 HDAT HDL
      obtain ⟨n, hn⟩ : ∃ n, n = d.length := ⟨_, rfl⟩
      rw [← hn] at c0 HDL
      have HN := Lib.hid hn
      clear hdat hdl hdm hbl hd hn
      by_cases hf1 : n < 1
      · have hfi : (n : Int) < 1 := by omega
        clear hf1
        go_wp2_with fail
        refine (told_any wr).mono ?_
        rintro e w3 ⟨rfl, hb3⟩
        have HB3 := Lib.hid (HBW.out.trans (hb3.mono HBW.out.size))
        clear hb3 c0
        go_wp2_with fail
        go_ret
        exact ⟨rfl, HB3.out⟩
      have hfi : ¬ (n : Int) < 1 := by omega
      by_cases hf2 : 60 < n
      · have hfi2 : (60 : Int) < (n : Int) := by omega
        clear hf1 hf2
        go_wp2_with fail
        refine (told_any wr).mono ?_
        rintro e w3 ⟨rfl, hb3⟩
        have HB3 := Lib.hid (HBW.out.trans (hb3.mono HBW.out.size))
        clear hb3 c0
        go_wp2_with fail
        go_ret
        exact ⟨rfl, HB3.out⟩
      have hfi2 : ¬ (60 : Int) < (n : Int) := by omega
      have HFD : Hid (Fit d) := Lib.hid (by unfold Fit; rw [← HN.out]; omega)
      have hall : ∀ x ∈ l.take (i + 1), Fit x := by
        intro x hx
        rw [List.take_succ_eq_append_getElem hlt] at hx
        rcases List.mem_append.1 hx with hx | hx
        · exact HFIT.out x hx
        · simp only [List.mem_cons, List.not_mem_nil, or_false] at hx
          rw [hx, ← HD.out]
          exact HFD.out
      have HALL := Lib.hid hall
      clear hall hf1 hf2
      have HSZ : Hid ((syK l k i).length + (waK l k i).length ≤ 792) := Lib.hid (by
        have e := congrArg List.length (syK_wa l k i)
        rw [List.length_append] at e
        rw [e]
        have h2 := catR_small (ls := l.take i) (n := 60) fun d hd => (HFIT.out d hd).2
        have h3 : (l.take i).length ≤ 12 := by simp; omega
        have := Nat.mul_le_mul_right 66 h3
        omega)
      by_cases hik : i = k
      · have hiki : ((i : Int) == (k : Int)) = true := by rw [hik]; simp
        have HIK := Lib.hid hik
        have HSY := Lib.hid (sync_any wr HLOG.out (by have := HSZ.out; omega))
        unfold SyncR at HSY
        clear hik
        go_wp2_with fail
        refine HSY.out.mono ?_
        rintro e w4 ⟨vs4, rfl, hlog4, hs4⟩
        have c4 : w4.cell? ⟨b, o + i, none⟩ = some (.slice da n dc) := (hs4.bel.cell (p := ⟨b, o + i, none⟩) (Nat.lt_of_lt_of_le HBL.out HC.out)).trans c0
        have hpu := put_any (B := w.heap.size) da dc d (by rw [← HN.out]; exact HDL.out) HDM.out w4 (HDAT.out.under (hs4.bel.mono HC.out)) hlog4 (by decide)
        unfold PutR at hpu
        rw [recC_may HFD.out.may, recL_may HFD.out.may, ← HN.out, List.nil_append, show synF (syK l k i) (waK l k i) false = syK l k i ++ waK l k i from rfl, syK_wa] at hpu
        have HPU := Lib.hid hpu
        have HB4 := Lib.hid (HBW.out.trans (hs4.bel.mono HC.out))
        clear hpu hs4 hlog4 c0
        go_wp2_with fail
        refine HPU.out.mono ?_
        rintro e w5 ⟨vw5, rfl, hlog5, hs5⟩
        have HLOG5 := Lib.hid hlog5
        have HB5 := Lib.hid (HB4.out.trans (hs5.bel.mono HC.out))
        clear hlog5 hs5 c4
        go_wp2_with fail
        go_roundg (l.length - (i + 1))
        case measure => omega
        case rel =>
          refine ⟨i + 1, by omega, by simp, rfl, HALL.out, HB5.out, vs4, vw5, ?_⟩
          have hh := HLOG5.out
          rw [← HIK.out, (waK_here hlt).1, (waK_here hlt).2, ← HD.out]
          exact hh
      · have hiki : ((i : Int) == (k : Int)) = false := by rw [beq_eq_false_iff_ne]; omega
        have HIK := Lib.hid hik
        have hpu := put_any (B := w.heap.size) da dc d (by rw [← HN.out]; exact HDL.out) HDM.out wr HDAT.out HLOG.out (by have := HSZ.out; omega)
        unfold PutR at hpu
        rw [recC_may HFD.out.may, recL_may HFD.out.may, ← HN.out] at hpu
        have HPU := Lib.hid hpu
        clear hpu hik
        go_wp2_with fail
        refine HPU.out.mono ?_
        rintro e w5 ⟨vw5, rfl, hlog5, hs5⟩
        have HLOG5 := Lib.hid hlog5
        have HB5 := Lib.hid (HBW.out.trans (hs5.bel.mono HC.out))
        clear hlog5 hs5 c0
        go_wp2_with fail
        go_roundg (l.length - (i + 1))
        case measure => omega
        case rel =>
          refine ⟨i + 1, by omega, by simp, rfl, HALL.out, HB5.out, vs1, vw5, ?_⟩
          have hh := HLOG5.out
          rw [(waK_next hlt HIK.out).1, (waK_next hlt HIK.out).2, ← HD.out]
          exact hh
    · obtain rfl : i = l.length := by omega
      obtain ⟨q, hq, hq9⟩ := u64_rem p2 900 (by decide)
      rw [show ((900 : Nat) : Int) = 900 from rfl] at hq
      rw [List.take_length] at HFIT
      have HSZ : Hid ((catR (l.take k)).length + (catR (l.drop k)).length ≤ 792) := Lib.hid (by
        rw [← List.length_append, ← catR_append, List.take_append_drop]
        have h2 := catR_small (ls := l) (n := 60) fun d hd => (HFIT.out d hd).2
        have := Nat.mul_le_mul_right 66 (show l.length ≤ 12 by omega)
        omega)
      by_cases hkn : k = l.length
      · have hki : ((k : Int) == (l.length : Int)) = true := by rw [hkn]; simp
        have e1 : syK l k l.length = [] := by unfold syK; rw [if_pos (by omega)]
        have e2 : waK l k l.length = catR (l.take k) := by unfold waK; rw [if_pos (by omega), hkn]
        have e3 : catR (l.drop k) = [] := by rw [hkn, List.drop_length]; rfl
        have hlog := HLOG.out
        rw [e1, e2] at hlog
        have HSY := Lib.hid (sync_any wr hlog (by have := HSZ.out; rw [e3] at this; simpa using by omega))
        unfold SyncR at HSY
        rw [show synF [] (catR (l.take k)) false = catR (l.take k) from rfl] at HSY
        have HE3 := Lib.hid e3
        clear hkn e1 e2 e3 hlog
        go_wp2_with fail
        refine HSY.out.mono ?_
        rintro e w4 ⟨vs4, rfl, hlog4, hs4⟩
        rw [← HE3.out] at hlog4
        have HLOG4 := Lib.hid hlog4
        have HB4 := Lib.hid (HBW.out.trans (hs4.bel.mono HC.out))
        clear hlog4 hs4
        have hq9 : 0 ≤ (IntKind.u64.wrap p2).tmod 900 := by rw [hq]; omega
        clear hq9
        have HCR := Lib.hid (crash_any (q : Int) w4 HLOG4.out (by have := HSZ.out; omega))
        unfold CrashR at HCR
        go_wp2_with fail
        refine HCR.out.mono ?_
        rintro e w5 ⟨v5, rfl, hbf5, hb5⟩
        obtain ⟨a5, c5, rfl, hl5, hm5, hn5, hat5⟩ := Buf.form3 hbf5
        obtain ⟨j, hj, hrd, hkj⟩ := rd_cut (ls := l) (fun d hd => (HFIT.out d hd).may) ((catR (l.take k)).length + keepF q (catR (l.drop k)).length)
        have hcut : crF (catR (l.take k)) (catR (l.drop k)) false (q : Int) = (catR l).take ((catR (l.take k)).length + keepF q (catR (l.drop k)).length) := by
          conv => rhs; rw [show catR l = catR (l.take k) ++ catR (l.drop k) by rw [← catR_append, List.take_append_drop]]
          rw [List.take_length_add_append]
          rfl
        have hkj2 : k ≤ j := hkj k (by omega) (Nat.le_add_right _ _)
        have hop := open_any (B := w5.heap.size) a5 c5 _ hl5 hm5 hn5 w5 hat5 (by rw [crF_length]; have := keepF_le q (catR (l.drop k)).length; have := HSZ.out; simp only [if_neg (show ¬ (false = true) by decide)]; omega) (Nat.le_refl _)
        unfold OpenR at hop
        rw [hcut, hrd] at hop
        obtain ⟨xs, hxs⟩ : ∃ xs, xs = l.take j := ⟨_, rfl⟩
        have hxl : xs.length = j := by rw [hxs, List.length_take]; omega
        rw [← hxs, hxl] at hop
        have HXS := Lib.hid hxs
        have HXL := Lib.hid hxl
        have HOP := Lib.hid hop
        have HB5 := Lib.hid (HB4.out.trans (hb5.mono HB4.out.size))
        obtain ⟨N5, hN5⟩ : ∃ N, N = (crF (catR (l.take k)) (catR (l.drop k)) false (q : Int)).length := ⟨_, rfl⟩
        rw [← hcut, ← hN5] at HOP
        rw [← hN5]
        have hjk : ¬ (j : Int) < (k : Int) := by omega
        have hjl : ¬ (l.length : Int) < (j : Int) := by omega
        clear hop hxs hxl hbf5 hb5 hl5 hm5 hn5 hat5 hrd hkj hcut hN5 hq
        go_wp2_with fail
        refine HOP.out.mono ?_
        rintro e w6 ⟨g6, xa6, xc6, vs6, C6, rfl, hbb6, -, hC6, hb6⟩
        have HB6 := Lib.hid (HB5.out.trans (hb6.mono HB5.out.size))
        have hC6w : w.heap.size ≤ C6 := Nat.le_trans HB5.out.size hC6
        have hBB6 := hbb6
        have hxm := hbb6.max
        have hxlen := hbb6.len
        unfold maxLen at hxm
        rw [HXL.out] at hxlen
        have HBB6 := Lib.hid hbb6
        clear hbb6 hC6 hb6 hBB6
        go_wp2_with fail
        go_loopg [13] j (cmpRel w w6 C6 xa6 xc6 xs j)
        case atStart => exact ⟨0, Nat.zero_le _, rfl, rfl, HB6.out, HBB6.out⟩
        case round =>
          obtain ⟨i, hil, rfl, rfl, hbw, hbx⟩ := hrel
          have HBW2 := Lib.hid hbw
          have HBX := Lib.hid hbx
          clear hbw hbx
          by_cases hlt : i < j
          · have hlti : (i : Int) < (j : Int) := by omega
            have hltl : (i : Int) < (l.length : Int) := by omega
            have h0i : (0 : Int) ≤ (i : Int) := by omega
            obtain ⟨b, o, da, dc, rfl, hbl, x0, hdl, hdm, hdat⟩ := HBX.out.get i (by rw [HXL.out]; exact hlt)
            obtain ⟨b2, o2, da2, dc2, rfl, hbl2, y0, hdl2, hdm2, hdat2⟩ := (HBB.out.under HBW2.out).get i (by omega)
            have hcv1 := fun nq => conv_str (w := wr.drewN nq) dc (hdat.keep fun _ _ => rfl)
            have hcv2 := fun nq => conv_str (w := wr.drewN nq) dc2 (hdat2.keep fun _ _ => rfl)
            have hsame : xs[i]'(by rw [HXL.out]; exact hlt) = l[i] := by
              simp only [HXS.out, List.getElem_take]
            rw [hsame] at x0 hcv1
            obtain ⟨d, hd⟩ : ∃ d, d = l[i] := ⟨_, rfl⟩
            rw [← hd] at x0 y0 hcv1 hcv2
            obtain ⟨n, hn⟩ : ∃ n, n = d.length := ⟨_, rfl⟩
            rw [← hn] at x0 y0 hcv1 hcv2
            clear hsame hd hn hdl hdl2 hdm hdm2 hdat hdat2
            go_wp2_with fail
            go_quiet (fail)
            obtain ⟨w7, hw7⟩ : ∃ w7, w7 = wr.drewN nq := ⟨_, rfl⟩
            have hb7 : Below wr.heap.size wr w7 := by rw [hw7]; exact below_drewN _ wr nq
            have hbx7 : BbsAt C6 w7 (some ⟨b, o, none⟩) xc6 xs := HBX.out.under (by rw [hw7]; exact below_drewN _ wr nq)
            rw [← hw7]
            have HB7 := Lib.hid (HBW2.out.trans (hb7.mono HBW2.out.size))
            have HBX7 := Lib.hid hbx7
            clear hb7 hbx7 hw7 x0 y0 hcv1 hcv2
            go_wp2_with fail
            go_roundg (j - (i + 1))
            case measure => omega
            case rel => exact ⟨i + 1, by omega, by simp, rfl, HB7.out, HBX7.out⟩
          · obtain rfl : i = j := by omega
            go_wp2_with fail
            refine (told_any wr).mono ?_
            rintro e w8 ⟨rfl, hb8⟩
            have HB8 := Lib.hid (HBW2.out.trans (hb8.mono HBW2.out.size))
            clear hb8
            go_wp2_with fail
            go_ret
            exact ⟨rfl, HB8.out⟩
      · have hki : ((k : Int) == (l.length : Int)) = false := by rw [beq_eq_false_iff_ne]; omega
        have e1 : syK l k l.length = catR (l.take k) := by unfold syK; rw [if_neg (by omega)]
        have e2 : waK l k l.length = catR (l.drop k) := by unfold waK; rw [if_neg (by omega), List.take_length]
        have hlog := HLOG.out
        rw [e1, e2] at hlog
        have HLOG4 := Lib.hid hlog
        have HB4 := HBW
        clear e1 e2 hlog hkn
        have hq9 : 0 ≤ (IntKind.u64.wrap p2).tmod 900 := by rw [hq]; omega
        clear hq9
        have HCR := Lib.hid (crash_any (q : Int) wr HLOG4.out (by have := HSZ.out; omega))
        unfold CrashR at HCR
        go_wp2_with fail
        refine HCR.out.mono ?_
        rintro e w5 ⟨v5, rfl, hbf5, hb5⟩
        obtain ⟨a5, c5, rfl, hl5, hm5, hn5, hat5⟩ := Buf.form3 hbf5
        obtain ⟨j, hj, hrd, hkj⟩ := rd_cut (ls := l) (fun d hd => (HFIT.out d hd).may) ((catR (l.take k)).length + keepF q (catR (l.drop k)).length)
        have hcut : crF (catR (l.take k)) (catR (l.drop k)) false (q : Int) = (catR l).take ((catR (l.take k)).length + keepF q (catR (l.drop k)).length) := by
          conv => rhs; rw [show catR l = catR (l.take k) ++ catR (l.drop k) by rw [← catR_append, List.take_append_drop]]
          rw [List.take_length_add_append]
          rfl
        have hkj2 : k ≤ j := hkj k (by omega) (Nat.le_add_right _ _)
        have hop := open_any (B := w5.heap.size) a5 c5 _ hl5 hm5 hn5 w5 hat5 (by rw [crF_length]; have := keepF_le q (catR (l.drop k)).length; have := HSZ.out; simp only [if_neg (show ¬ (false = true) by decide)]; omega) (Nat.le_refl _)
        unfold OpenR at hop
        rw [hcut, hrd] at hop
        obtain ⟨xs, hxs⟩ : ∃ xs, xs = l.take j := ⟨_, rfl⟩
        have hxl : xs.length = j := by rw [hxs, List.length_take]; omega
        rw [← hxs, hxl] at hop
        have HXS := Lib.hid hxs
        have HXL := Lib.hid hxl
        have HOP := Lib.hid hop
        have HB5 := Lib.hid (HB4.out.trans (hb5.mono HB4.out.size))
        obtain ⟨N5, hN5⟩ : ∃ N, N = (crF (catR (l.take k)) (catR (l.drop k)) false (q : Int)).length := ⟨_, rfl⟩
        rw [← hcut, ← hN5] at HOP
        rw [← hN5]
        have hjk : ¬ (j : Int) < (k : Int) := by omega
        have hjl : ¬ (l.length : Int) < (j : Int) := by omega
        clear hop hxs hxl hbf5 hb5 hl5 hm5 hn5 hat5 hrd hkj hcut hN5 hq
        go_wp2_with fail
        refine HOP.out.mono ?_
        rintro e w6 ⟨g6, xa6, xc6, vs6, C6, rfl, hbb6, -, hC6, hb6⟩
        have HB6 := Lib.hid (HB5.out.trans (hb6.mono HB5.out.size))
        have hC6w : w.heap.size ≤ C6 := Nat.le_trans HB5.out.size hC6
        have hBB6 := hbb6
        have hxm := hbb6.max
        have hxlen := hbb6.len
        unfold maxLen at hxm
        rw [HXL.out] at hxlen
        have HBB6 := Lib.hid hbb6
        clear hbb6 hC6 hb6 hBB6
        go_wp2_with fail
        go_loopg [13] j (cmpRel w w6 C6 xa6 xc6 xs j)
        case atStart => exact ⟨0, Nat.zero_le _, rfl, rfl, HB6.out, HBB6.out⟩
        case round =>
          obtain ⟨i, hil, rfl, rfl, hbw, hbx⟩ := hrel
          have HBW2 := Lib.hid hbw
          have HBX := Lib.hid hbx
          clear hbw hbx
          by_cases hlt : i < j
          · have hlti : (i : Int) < (j : Int) := by omega
            have hltl : (i : Int) < (l.length : Int) := by omega
            have h0i : (0 : Int) ≤ (i : Int) := by omega
            obtain ⟨b, o, da, dc, rfl, hbl, x0, hdl, hdm, hdat⟩ := HBX.out.get i (by rw [HXL.out]; exact hlt)
            obtain ⟨b2, o2, da2, dc2, rfl, hbl2, y0, hdl2, hdm2, hdat2⟩ := (HBB.out.under HBW2.out).get i (by omega)
            have hcv1 := fun nq => conv_str (w := wr.drewN nq) dc (hdat.keep fun _ _ => rfl)
            have hcv2 := fun nq => conv_str (w := wr.drewN nq) dc2 (hdat2.keep fun _ _ => rfl)
            have hsame : xs[i]'(by rw [HXL.out]; exact hlt) = l[i] := by
              simp only [HXS.out, List.getElem_take]
            rw [hsame] at x0 hcv1
            obtain ⟨d, hd⟩ : ∃ d, d = l[i] := ⟨_, rfl⟩
            rw [← hd] at x0 y0 hcv1 hcv2
            obtain ⟨n, hn⟩ : ∃ n, n = d.length := ⟨_, rfl⟩
            rw [← hn] at x0 y0 hcv1 hcv2
            clear hsame hd hn hdl hdl2 hdm hdm2 hdat hdat2
            go_wp2_with fail
            go_quiet (fail)
            obtain ⟨w7, hw7⟩ : ∃ w7, w7 = wr.drewN nq := ⟨_, rfl⟩
            have hb7 : Below wr.heap.size wr w7 := by rw [hw7]; exact below_drewN _ wr nq
            have hbx7 : BbsAt C6 w7 (some ⟨b, o, none⟩) xc6 xs := HBX.out.under (by rw [hw7]; exact below_drewN _ wr nq)
            rw [← hw7]
            have HB7 := Lib.hid (HBW2.out.trans (hb7.mono HBW2.out.size))
            have HBX7 := Lib.hid hbx7
            clear hb7 hbx7 hw7 x0 y0 hcv1 hcv2
            go_wp2_with fail
            go_roundg (j - (i + 1))
            case measure => omega
            case rel => exact ⟨i + 1, by omega, by simp, rfl, HB7.out, HBX7.out⟩
          · obtain rfl : i = j := by omega
            go_wp2_with fail
            refine (told_any wr).mono ?_
            rintro e w8 ⟨rfl, hb8⟩
            have HB8 := Lib.hid (HBW2.out.trans (hb8.mono HBW2.out.size))
            clear hb8
            go_wp2_with fail
            go_ret
            exact ⟨rfl, HB8.out⟩

end Go.Proofs.Ytifgkmaaglaffaa.Sg
