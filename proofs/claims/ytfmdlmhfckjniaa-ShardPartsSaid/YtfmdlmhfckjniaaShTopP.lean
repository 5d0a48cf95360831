/-
  Several texts as one: RgArg, RgOwr, RgOf, ShPartD, ShPart, ShPrtP.
-/
import Derived.Test.YtfmdlmhfckjniaaRgMem
import Derived.Deep.Slices
import Derived.Deep.Draws
import Derived.SizedLaws
import Derived.Test.YtfmdlmhfckjniaaRgMay
import Derived.Test.YtfmdlmhfckjniaaRows
import Derived.WalkKit
import Derived.IntWalk
import Derived.ScopeJumps
import Derived.Lib.Hide
import Derived.Test.YtfmdlmhfckjniaaShRes
import Derived.Test.YtfmdlmhfckjniaaShPut
import Derived.Deep.LoopGhost
import Derived.Test.YtfmdlmhfckjniaaShStep
import Derived.Test.YtfmdlmhfckjniaaShFulL

namespace Go.Proofs.Ytfmdlmhfckjniaa.Rg
open Go.ChangeShapes Go.WideShapes Go.ChangeAt Go.RowKit Go.Deep
set_option linter.unusedVariables false

/-- arcs that came in: in memory, with points on the ring. -/
structure AArg (w : World) (a : Option Addr) (cap : Nat) (l : List Ar) : Prop where
  at' : AsAt w a cap l
  wf : Wf l
  none : a = none → cap = 0

theorem cells_ar : Try.prog.cellsOf 90 = 2 := by kernel_rfl
theorem cells_u32 : Try.prog.cellsOf 59 = 1 := by kernel_rfl
theorem cells_int : Try.prog.cellsOf 3 = 1 := by kernel_rfl

section
variable {H : Type} {enc : TypeId × Value → H} {w : World} {base : Nat} {held : Bool}
theorem two' {α : Type} {l : List α} (h : l.length = 2) : ∃ a b, l = [a, b] := by
  match l, h with
  | [a, b], _ => exact ⟨a, b, rfl⟩
theorem ar_of {n : Nat} {cs : List Value} {y : DataW H × List MemPlace} (hcs : cs.length = 2) (h : DataW.trod enc Try.prog w base (fun _ => true) held n 90 cs = some y) :
    ∃ b : Ar, cs = arC b ∧ 0 ≤ b.f ∧ b.f < 4294967296 := by
  obtain ⟨c0, c1, rfl⟩ := two' hcs
  obtain ⟨ys, m, hm, rfl, hl, hlen, hat⟩ := DataW.trod_struct Try.underlying90 h
  have t0 := hat 0 _ rfl
  have t1 := hat 1 _ rfl
  simp only [List.getElem_toArray, List.getElem_cons_zero, List.getElem_cons_succ, cells_int, cells_u32, List.drop_zero, List.drop_succ_cons, List.take_succ_cons, List.take_zero] at t0 t1
  simp only [List.size_toArray, List.length_cons, List.length_nil] at hlen
  match ys, hlen with
  | [y0, y1], _ =>
    obtain ⟨k0, e0, _, w0⟩ := DataW.trod_int Try.underlying59 t0
    obtain ⟨k1, e1, _, w1⟩ := DataW.trod_int Try.underlying3 t1
    refine ⟨⟨k0, k1⟩, ?_, in_u32 w0⟩
    simp only [List.cons.injEq, and_true] at e0 e1
    rw [e0, e1]
    rfl

/-- an argument that is a slice of arcs. -/
theorem ars_arg {v : Value} {d : DataW H} {p : List MemPlace} (h : DataW.Trod enc Try.prog w base (fun _ => true) held 27 v d p) (hv : ∃ a len cap, v = .slice a len cap) :
    ∃ (a : Option Addr) (cap : Nat) (l : List Ar), v = .slice a l.length cap ∧ AArg w a cap l := by
  obtain ⟨n, h⟩ := h
  obtain ⟨a, len, cap, rfl⟩ := hv
  rcases DataW.trod_slice Try.underlying27 (by simpa [Value.cells] using h) with ⟨hv, _⟩ | ⟨ad, len', cap', elems, rest, m, hn, hv, hd, hb, hlc, hcm, hel, hat, _, _⟩
  · have hv : Value.slice a len cap = .slice none 0 0 := by simpa using hv
    obtain ⟨rfl, rfl, rfl⟩ := Value.slice.inj hv
    exact ⟨none, 0, [], rfl, RowsAt.nil _ _ _ _ _ (by simp [maxLen]), (fun a h => by cases h), fun _ => rfl⟩
  · have hv : Value.slice a len cap = .slice (some ad) len' cap' := by simpa using hv
    obtain ⟨rfl, rfl, rfl⟩ := Value.slice.inj hv
    obtain ⟨b, o, spot⟩ := ad
    have hrow : ∀ i, i < len → ∃ e : Ar, spot = none ∧ (0 ≤ e.f ∧ e.f < 4294967296) ∧ ∀ (r : Nat) (v : Value), (arC e)[r]? = some v → w.cell? ⟨b, o + i * 2 + r, none⟩ = some v := by
      intro i hi
      have h1 := hat i hi
      have he : elems[i]? = some (elems[i]'(by omega)) := List.getElem?_eq_getElem (by omega)
      rw [he, Option.bind_eq_some_iff] at h1
      obtain ⟨cs, hcs, ht⟩ := h1
      rw [cells_ar] at hcs
      obtain ⟨_, hl4, hcell⟩ := World.cells?_some hcs
      obtain ⟨e, rfl, hef⟩ := ar_of hl4 ht
      have hsp : spot = none := by
        have h00 := hat 0 (by omega)
        have he0 : elems[0]? = some (elems[0]'(by omega)) := List.getElem?_eq_getElem (by omega)
        rw [he0, Option.bind_eq_some_iff] at h00
        obtain ⟨cs0, hcs0, _⟩ := h00
        simp only [cells_ar] at hcs0
        obtain ⟨_, hl40, hcell0⟩ := World.cells?_some hcs0
        have e00 := hcell0 0 (by omega)
        rw [List.getElem?_eq_getElem (by omega)] at e00
        simpa [Addr.add] using World.cell?_spot e00
      subst hsp
      have hadd : ∀ j, ((⟨b, o, none⟩ : Addr).add (i * 2)).add j = ⟨b, o + i * 2 + j, none⟩ := fun j => by rw [add_at, add_at]
      refine ⟨e, rfl, hef, fun r v hv => ?_⟩
      have hr : r < 2 := (List.getElem?_eq_some_iff.1 hv).1
      have f0 := hcell r (by omega)
      rw [hadd] at f0
      rw [f0, hv]
    haveI : Inhabited Ar := ⟨⟨0, 0⟩⟩
    obtain ⟨f, hfn⟩ := choose_lt hrow
    refine ⟨some ⟨b, o, spot⟩, cap, (List.range len).map f, by simp, ⟨by simpa using hlc, hcm, fun h0 => ?_⟩, fun x hx => ?_, fun h => by cases h⟩
    · simp only [List.length_map, List.length_range] at h0
      obtain ⟨rfl, _⟩ := hfn 0 h0
      refine ⟨b, o, rfl, fun i hi r v hv => ?_⟩
      simp only [List.length_map, List.length_range] at hi
      simp only [List.getElem_map, List.getElem_range] at hv
      exact (hfn i hi).2.2 r v hv
    · obtain ⟨i, hi, rfl⟩ := List.mem_map.1 hx
      exact (hfn i (List.mem_range.1 hi)).2.1
end

end Go.Proofs.Ytfmdlmhfckjniaa.Rg

namespace Go.Proofs.Ytfmdlmhfckjniaa.Rg
open Go.RowKit
set_option linter.unusedVariables false

/-! ### Owner -/
def ownerA (l : List Ar) (p : Int) : Int := if May l then ownerF l p else -1
/-- j arcs were passed. -/
def ownerRel (l : List Ar) (p : Int) (w : World) (m : Nat) (a' : Act) (w' : World) : Prop :=
  ∃ (j : Nat) (r : List Ar) (a : Option Addr) (cap : Nat) (s : Int) (u6 u7 u8 u9 u10 u11 u12 u13 u14 u15 u16 u17 u18 u19 u20 u21 u22 u23 u24 u25 u26 u27 u28 u29 u30 u31 u32 u33 : Value), a' = { tmps := #[.slice a r.length cap, .int .u32 p, undef, undef, .int .i64 0, .int .i64 s, u6, u7, u8, u9, u10, u11, u12, u13, u14, u15, u16, u17, u18, u19, u20, u21, u22, u23, u24, u25, u26, u27, u28, u29, u30, u31, u32, u33], defers := [] } ∧
    m = r.length ∧ r = l.drop j ∧ j ≤ cntF l p ∧ s = (if h : (if j = 0 then l.length - 1 else j - 1) < l.length then l[if j = 0 then l.length - 1 else j - 1].s else -1) ∧ May l ∧ AsAt w' a cap r ∧ Drew w w'
theorem owner_passed {l : List Ar} {p : Int} (j : Nat) (h : j = cntF l p) : (if h : (if j = 0 then l.length - 1 else j - 1) < l.length then l[if j = 0 then l.length - 1 else j - 1].s else -1) = ownerF l p := by
  subst h; rfl
set_option maxRecDepth 100000 in
set_option maxHeartbeats 1000000 in
theorem owner_any (a : Option Addr) (cap : Nat) (l : List Ar) (p : Int) (w : World) (hf : AsAt w a cap l) :
    Calls Try.prog 39 #[.slice a l.length cap, .int .u32 p] w fun e w' => e = .returned (.int .i64 (ownerA l p)) ∧ Drew w w' := by
  have hm := may_any a cap l w hf
  have hcap := hf.max
  have hlen := hf.len
  unfold maxLen at hcap
  have HF := Lib.hid hf
  clear hf
  go_enter Try.func39, Try.ntmps39
  go_wp2_with fail
  refine wp_scope_ghost 0 (ownerRel l p w) rfl ?_ ?_
  · intro H hb'
    have HBK := Lib.hid hb'
    clear hb'
    by_cases h1 : May l
    case neg =>
      rw [decide_eq_false h1] at hm
      have HR : Hid (ownerA l p = -1) := Lib.hid (if_neg h1)
      clear h1
      go_wp2_with (go_at_call 38; refine hm.mono ?_; rintro e w1 ⟨rfl, hd⟩; have HD := Lib.hid hd; clear hd)
      simp only [Exit.jump]
      go_ret
      exact ⟨by rw [HR.out]; rfl, HD.out⟩
    rw [decide_eq_true h1] at hm
    have HM := Lib.hid h1
    have hl1 := h1.1
    have s1 : IntKind.i64.wrap ((l.length : Int) - 1) = ((l.length - 1 : Nat) : Int) := by rw [IntWalk.i64_in _ (by omega)]; omega
    have s2 : ((l.length - 1 : Nat) : Int) < (l.length : Int) := by omega
    have s3 : (0 : Int) ≤ ((l.length - 1 : Nat) : Int) := by omega
    clear h1
    go_wp2_with (go_at_call 38; refine hm.mono ?_; rintro e w1 ⟨rfl, hd⟩; have HD := Lib.hid hd; have HF1 := Lib.hid (HF.out.below hd.below); obtain ⟨b, o, rfl, c0, c1⟩ := AsAt.get HF1.out (l.length - 1) (by omega); clear hd)
    go_step3
    rename_i hK
    refine hK _ _ (HBK.out l.length _ _ ⟨0, l, some ⟨b, o, none⟩, cap, (l[l.length - 1]'(by omega)).s, ?_⟩)
    repeat apply Exists.intro
    exact ⟨rfl, rfl, rfl, Nat.zero_le _, by rw [dif_pos (by simp; omega)]; rfl, HM.out, HF1.out, HD.out⟩
  · rintro m a' w' ⟨j, r, a, cap, s, u6, u7, u8, u9, u10, u11, u12, u13, u14, u15, u16, u17, u18, u19, u20, u21, u22, u23, u24, u25, u26, u27, u28, u29, u30, u31, u32, u33, rfl, rfl, hr, hj, hs, hml, hat, hd⟩ H hH
    have HH := Lib.hid hH
    have HM := Lib.hid hml
    have HD := Lib.hid hd
    have HS := Lib.hid hs
    have HR := Lib.hid hr
    have HAT := Lib.hid hat
    have hc := cnt_iff hml.up p j
    have hcl := cnt_le l p
    clear hH hd hm hs hml hr hat
    cases r with
    | nil =>
      have hlj : l.length ≤ j := by
        have := congrArg List.length HR.out
        rw [List.length_drop] at this
        simp at this
        omega
      have HE := Lib.hid (owner_passed (l := l) (p := p) j (by omega))
      go_wp2_with fail
      simp only [Exit.jump]
      go_ret
      refine ⟨?_, HD.out⟩
      have : s = ownerA l p := by rw [HS.out, HE.out]; unfold ownerA; rw [if_pos HM.out]
      rw [← this]; rfl
    | cons x r =>
      have hlj : j < l.length := by
        have := congrArg List.length HR.out
        rw [List.length_drop] at this
        simp at this
        omega
      have hxr : x = l[j] ∧ r = l.drop (j + 1) := by
        have := HR.out
        rw [List.drop_eq_getElem_cons hlj] at this
        exact List.cons.inj this
      have hcx := hc hlj
      rw [← hxr.1] at hcx
      have HX := Lib.hid hxr
      have hmax := HAT.out.max
      unfold maxLen at hmax
      have n0 : (0 : Int) < (r.length : Int) + 1 := by omega
      have n1 : 0 < r.length + 1 := by omega
      obtain ⟨b, o, a2, rfl, c0, c1, hat2, h1c, hsl⟩ := AsAt.head HAT.out
      have HAT2 := Lib.hid hat2
      clear hat2 hxr hc
      by_cases hp : x.f ≤ p
      · have hlt := hcx.1 hp
        go_wp2_with fail
        go_step3
        refine ⟨rfl, HH.out r.length _ _ (by simp) ⟨j + 1, r, a2, cap - 1, x.s, ?_⟩⟩
        repeat apply Exists.intro
        refine ⟨rfl, rfl, HX.out.2, hlt, ?_, HM.out, HAT2.out, HD.out⟩
        rw [dif_pos (by simp; omega), HX.out.1]
        rfl
      · have hnl : j = cntF l p := by
          have : ¬ j < cntF l p := fun h => hp (hcx.2 h)
          omega
        have HE := Lib.hid (owner_passed (l := l) (p := p) j hnl)
        clear hnl hcx
        go_wp2_with fail
        simp only [Exit.jump]
        go_ret
        refine ⟨?_, HD.out⟩
        have : s = ownerA l p := by rw [HS.out, HE.out]; unfold ownerA; rw [if_pos HM.out]
        rw [← this]; rfl

end Go.Proofs.Ytfmdlmhfckjniaa.Rg

namespace Go.Proofs.Ytfmdlmhfckjniaa.Rg
open Go.RowKit
set_option linter.unusedVariables false

def stirB (h : Int) : Int :=
  bits .xor .u32 (bits .xor .u32 h (h / 32768) * 2246822519 % 4294967296) (bits .xor .u32 h (h / 32768) * 2246822519 % 4294967296 / 8192)

def mix1 (h : Int) (c : UInt8) : Int := bits .xor .u32 h (c.toNat % 4294967296) * 16777619 % 4294967296

def mixB (l : List UInt8) : Int := l.foldl mix1 2166136261

def ofB (l : List UInt8) : Int := stirB (mixB l)

theorem mixB_snoc (l : List UInt8) (c : UInt8) : mixB (l ++ [c]) = mix1 (mixB l) c := by unfold mixB; simp

theorem mixB_in (l : List UInt8) : 0 ≤ mixB l ∧ mixB l < 4294967296 := by
  rcases List.eq_nil_or_concat l with rfl | ⟨l', c, rfl⟩
  · exact ⟨by decide, by decide⟩
  · rw [List.concat_eq_append, mixB_snoc]; unfold mix1; omega

theorem take_snoc (s : ByteArray) (k : Nat) (h : k < s.size) : s.data.toList.take (k + 1) = s.data.toList.take k ++ [s[k]] := by
  rw [List.take_succ_eq_append_getElem (by simpa using h)]; rfl

theorem ret_u32 {a b : Int} (h : a = b) : Ending.returned (.int .u32 a) = .returned (.int .u32 b) := by rw [h]

theorem stir_any (h : Int) (h0 : 0 ≤ h) (h1 : h < 4294967296) (w : World) :
    Calls Try.prog 70 #[.int .u32 h] w fun e w' => e = .returned (.int .u32 (stirB h)) ∧ w = w' := by
  go_enter Try.func70, Try.ntmps70
  go_wp2
  go_ret
  exact ⟨rfl, rfl⟩

theorem rof_any (s : ByteArray) (hs : s.size ≤ maxLen) (w : World) :
    Calls Try.prog 63 #[.string s] w fun e w' => e = .returned (.int .u32 (ofB s.data.toList)) ∧ w = w' := by
  unfold maxLen at hs
  go_enter Try.func63, Try.ntmps63
  go_wp2
  go_loop [3, 4] (fun h i => ∃ (k : Nat), k ≤ s.size ∧ i = .int .i64 k ∧ h = .int .u32 (mixB (s.data.toList.take k))) (fun _ i => s.size - (intOf i).toNat)
  case atStart => exact ⟨0, Nat.zero_le _, rfl, rfl⟩
  case round =>
    obtain ⟨k, hk, rfl, rfl⟩ := hrel
    have hm := mixB_in (s.data.toList.take k)
    by_cases hlt : k < s.size
    · have hsn := mixB_snoc (s.data.toList.take k) s[k]
      rw [← take_snoc s k hlt] at hsn
      have HS := Lib.hid hsn
      clear hsn
      go_wp2
      all_goals
        go_round
        case rel => exact ⟨k + 1, by omega, by go_num, by rw [HS.out]; unfold mix1; with_reducible rfl⟩
        case measure => simp [intOf]; omega
    · have hall : s.data.toList.take k = s.data.toList := List.take_of_length_le (by simp; omega)
      have HS := Lib.hid hall
      clear hall
      go_wp2
      go_ret
      exact ⟨ret_u32 (by unfold ofB; rw [HS.out]; rfl), rfl⟩

theorem mix_any (s : ByteArray) (hs : s.size ≤ maxLen) (w : World) :
    Calls Try.prog 71 #[.string s] w fun e w' => e = .returned (.int .u32 (mixB s.data.toList)) ∧ w = w' := by
  unfold maxLen at hs
  go_enter Try.func71, Try.ntmps71
  go_wp2
  refine wp_scope_jumps 0 (fun a' w' => w = w' ∧ ∃ (k : Nat) (u5 u6 u7 u8 u9 u10 u11 u12 u13 u14 u15 u16 u17 : Value), a' = { tmps := #[.string s, undef, .int .u32 0, .int .u32 (mixB (s.data.toList.take k)), .int .i64 k, u5, u6, u7, u8, u9, u10, u11, u12, u13, u14, u15, u16, u17, undef], defers := [] } ∧ k ≤ s.size) (fun a' _ => s.size - (intOf (a'.tmps.getD 4 undef)).toNat) rfl ?_ ?_
  · go_wp2
    go_step3
    by_cases hlt : 0 < s.size
    · have hsn := mixB_snoc (s.data.toList.take 0) (s[0]'hlt)
      rw [← take_snoc s 0 hlt] at hsn
      have HS := Lib.hid hsn
      clear hsn
      go_wp2
      go_step3
      refine ⟨rfl, rfl, 1, ?_⟩
      repeat apply Exists.intro
      refine ⟨?_, by omega⟩
      rw [show (1 : Nat) = 0 + 1 from rfl, HS.out]
      unfold mix1
      rfl
    · have hall : s.data.toList = [] := List.eq_nil_of_length_eq_zero (by have e : s.data.toList.length = s.size := by simp
                                                                          omega)
      have HS := Lib.hid hall
      clear hall
      go_wp2
      simp only [Exit.jump]
      go_ret
      exact ⟨ret_u32 (by rw [HS.out]; rfl), rfl⟩
  · rintro a' w' ⟨rfl, k, u5, u6, u7, u8, u9, u10, u11, u12, u13, u14, u15, u16, u17, rfl, hk⟩
    have hm := mixB_in (s.data.toList.take k)
    by_cases hlt : k < s.size
    · have hsn := mixB_snoc (s.data.toList.take k) s[k]
      rw [← take_snoc s k hlt] at hsn
      have HS := Lib.hid hsn
      clear hsn
      go_wp2
      go_step3
      refine ⟨rfl, ⟨rfl, k + 1, ?_⟩, ?_⟩
      · repeat apply Exists.intro
        refine ⟨?_, by omega⟩
        rw [HS.out]
        unfold mix1
        rfl
      · simp [intOf]; omega
    · have hall : s.data.toList.take k = s.data.toList := List.take_of_length_le (by simp; omega)
      have HS := Lib.hid hall
      clear hall
      go_wp2
      simp only [Exit.jump]
      go_ret
      exact ⟨ret_u32 (by rw [HS.out]), rfl⟩

theorem of_any (s : ByteArray) (hs : s.size ≤ maxLen) (w : World) :
    Calls Try.prog 40 #[.string s] w fun e w' => e = .returned (.int .u32 (ofB s.data.toList)) ∧ w = w' := by
  have hm := mixB_in s.data.toList
  go_enter Try.func40, Try.ntmps40
  go_wp2_with fail
  refine (mix_any s hs _).mono ?_
  rintro e w' ⟨rfl, rfl⟩
  go_wp2_with fail
  refine (stir_any _ hm.1 hm.2 _).mono ?_
  rintro e w' ⟨rfl, rfl⟩
  go_wp2_with fail
  go_ret
  exact ⟨rfl, rfl⟩

end Go.Proofs.Ytfmdlmhfckjniaa.Rg

namespace Go.Proofs.Ytfmdlmhfckjniaa.Sh
open Go.RowKit Rg Go.Sort
set_option linter.unusedVariables false
set_option linter.unusedSimpArgs false

/-- has k this key's point? -/
def partF (l : List Ar) (k : Int) (key : List UInt8) : Bool := ownerA l (ofB key) == k
def partC (s : Sd) (l : List Ar) : Int := if ¬ (MaySd s ∧ May l) then 1 else if ¬ (s.fr = true ∧ s.hd = []) then 7 else 0
def partS (s : Sd) (l : List Ar) (k : Int) : Sd :=
  if partC s l = 0 then ⟨false, s.nx, s.rd.filter (fun m => partF l k m.key), [], s.ms.filter (fun m => partF l k m.key)⟩ else s
theorem partC_arg {s : Sd} {l : List Ar} (k : Int) (h : ¬ (MaySd s ∧ May l)) : partC s l = 1 ∧ partS s l k = s := by
  have h1 : partC s l = 1 := by unfold partC; rw [if_pos h]
  exact ⟨h1, by unfold partS; rw [if_neg (by rw [h1]; decide)]⟩
theorem partC_state {s : Sd} {l : List Ar} (k : Int) (h : MaySd s) (h' : May l) (h2 : ¬ (s.fr = true ∧ s.hd = [])) : partC s l = 7 ∧ partS s l k = s := by
  have h1 : partC s l = 7 := by unfold partC; rw [if_neg (fun g => g ⟨h, h'⟩), if_pos h2]
  exact ⟨h1, by unfold partS; rw [if_neg (by rw [h1]; decide)]⟩
theorem partC_ok {s : Sd} {l : List Ar} (k : Int) (h : MaySd s) (h' : May l) (h2 : s.fr = true) (h3 : s.hd = []) : partC s l = 0 ∧ partS s l k = ⟨false, s.nx, s.rd.filter (fun m => partF l k m.key), [], s.ms.filter (fun m => partF l k m.key)⟩ := by
  have h1 : partC s l = 0 := by unfold partC; rw [if_neg (fun g => g ⟨h, h'⟩), if_neg (fun g => g ⟨h2, h3⟩)]
  exact ⟨h1, by unfold partS; rw [if_pos h1]⟩
theorem filter_snoc {α : Type} (p : α → Bool) (l : List α) (i : Nat) (h : i < l.length) : (l.take (i + 1)).filter p = if p l[i] = true then (l.take i).filter p ++ [l[i]] else (l.take i).filter p := by
  rw [List.take_succ_eq_append_getElem h, List.filter_append]
  by_cases hp : p l[i] = true
  · rw [if_pos hp]; simp [hp]
  · rw [if_neg hp]; simp [hp]
theorem filter_len {α : Type} (p : α → Bool) (l : List α) (i : Nat) : ((l.take i).filter p).length ≤ l.length :=
  Nat.le_trans (List.length_filter_le _ _) (by simp; omega)

/-- a row in a box's cell is put on. -/
theorem push_box {α : Type} {k : Nat} {f : α → List Value} {E : TypeId} {w w' : World} {g B i : Nat} {cs : Array Value} {t : TypeId} {fr : Nat × Nat} {v v' : Value} {l l' : List α}
    (hx : w.heap[g]? = some (.cells cs t fr)) (hB : g < B) (hBw : B ≤ w.heap.size) (ho : OwnE k f E w B v l) (ho' : OwnE k f E w' B v' l') (hg : w.grownBy w' v.ownBlock) :
    w'.heap[g]? = some (.cells cs t fr) ∧ (w'.setCell ⟨g, i, none⟩ v').heap[g]? = some (.cells (cs.setIfInBounds i v') t fr) ∧ OwnE k f E (w'.setCell ⟨g, i, none⟩ v') B v' l' ∧ Below g w (w'.setCell ⟨g, i, none⟩ v') := by
  have hgl := (Array.getElem?_eq_some_iff.1 hx).1
  have hb : Below B w w' := OwnE.grown (Below.refl _ _) ho hg hBw
  have h1 : w'.heap[g]? = some (.cells cs t fr) := (hg.block g hgl (fun e => by have := (World.ownsRow.lt ho g e.symm).1; omega)).trans hx
  exact ⟨h1, set_heap h1 i _, OwnE.kept ho' fun b hb _ => Below.heap_setCell w' ⟨g, i, none⟩ _ b (by show b ≠ g; omega), low_set (hb.mono (Nat.le_of_lt hB)) (Nat.le_refl _)⟩

theorem box3m {w : World} {g : Nat} {x y z : Value} {t : TypeId} (h : w.heap[g]? = some (.cells #[x, y, z] t (0, 0))) :
    w.cell? ⟨g, 0, none⟩ = some x ∧ w.cell? ⟨g, 1, none⟩ = some y ∧ w.cell? ⟨g, 2, none⟩ = some z := by
  refine ⟨?_, ?_, ?_⟩
  all_goals rw [cell_of_row w _ _ _ _ _ h]; rfl

set_option maxHeartbeats 1000000 in
theorem owns_any (la : Option Addr) (lc : Nat) (l : List Ar) (k : Int) (key : List UInt8) (hk : key.length ≤ 1000) (w : World) (hf : AsAt w la lc l) :
    Calls Try.prog 60 #[.slice la l.length lc, .int .i64 k, .string ⟨key.toArray⟩] w fun e w' => e = .returned (.bool (partF l k key)) ∧ Drew w w' := by
  have h1 := fun wx => of_any ⟨key.toArray⟩ (by show key.toArray.size ≤ maxLen; unfold maxLen; simp; omega) wx
  have h2 := owner_any la lc l (ofB key) w hf
  simp only at h1
  have HQ : Hid (partF l k key = (ownerA l (ofB key) == k)) := Lib.hid rfl
  generalize ofB key = p at *
  generalize ownerA l p = q at *
  clear hf hk
  go_enter Try.func60, Try.ntmps60
  go_wp2_with (first | (go_at_call 40; refine (h1 _).mono ?_; rintro e w1 ⟨rfl, rfl⟩) | (go_at_call 39; refine h2.mono ?_; rintro e w2 ⟨rfl, hd⟩; have HD := Lib.hid hd; clear hd))
  go_ret
  exact ⟨by rw [HQ.out]; rfl, HD.out⟩

end Go.Proofs.Ytfmdlmhfckjniaa.Sh

namespace Go.Proofs.Ytfmdlmhfckjniaa.Sh
open Go.RowKit Rg Go.Sort
set_option linter.unusedVariables false
set_option linter.unusedSimpArgs false

def partRel1 (W : World) (s : Sd) (p : Mg → Bool) (g : Nat) (m : Nat) (v40 : Value) (wr : World) : Prop :=
  ∃ (i : Nat) (r : List Mg) (xr : Option Addr) (cr : Nat), i ≤ s.rd.length ∧ v40 = .int .i64 i ∧ m = s.rd.length - i ∧ r = (s.rd.take i).filter p ∧ Below g W wr ∧ g < wr.heap.size ∧
    wr.heap[g]? = some (.cells #[.bool false, .int .i64 s.nx, .slice xr r.length cr, .slice none 0 0, .slice none 0 0] 26 (0, 0)) ∧ OwnG wr (g + 1) (.slice xr r.length cr) r
def partRel2 (W : World) (s : Sd) (r : List Mg) (xr : Option Addr) (cr : Nat) (p : Mk → Bool) (g : Nat) (m : Nat) (v59 : Value) (wr : World) : Prop :=
  ∃ (i : Nat) (q : List Mk) (xm : Option Addr) (cm : Nat), i ≤ s.ms.length ∧ v59 = .int .i64 i ∧ m = s.ms.length - i ∧ q = (s.ms.take i).filter p ∧ Below g W wr ∧ g < wr.heap.size ∧
    wr.heap[g]? = some (.cells #[.bool false, .int .i64 s.nx, .slice xr r.length cr, .slice none 0 0, .slice xm q.length cm] 26 (0, 0)) ∧ OwnG wr (g + 1) (.slice xr r.length cr) r ∧ OwnK wr (g + 1) (.slice xm q.length cm) q

set_option maxRecDepth 100000 in
set_option maxHeartbeats 4000000 in
theorem part_any (s : Sd) (ra : Option Addr) (rc : Nat) (ha : Option Addr) (hc : Nat) (ma : Option Addr) (mc : Nat) (la : Option Addr) (lc : Nat) (l : List Ar) (k : Int) (w : World) (hs : SdAt w ra rc ha hc ma mc s) (hf : AsAt w la lc l) :
    Calls Try.prog 26 #[.agg #[.bool s.fr, .int .i64 s.nx, .slice ra s.rd.length rc, .slice ha s.hd.length hc, .slice ma s.ms.length mc], .slice la l.length lc, .int .i64 k] w (ShO (partS s l k) (partC s l) w) := by
  obtain ⟨hx, hy, hb0, hWs⟩ := two_box (w := w) (.cells #[.bool s.fr, .int .i64 s.nx, .slice ra s.rd.length rc, .slice ha s.hd.length hc, .slice ma s.ms.length mc] 26) (.cells #[.bool false, .int .i64 0, .slice none 0 0, .slice none 0 0, .slice none 0 0] 26)
  obtain ⟨W, hW⟩ : ∃ W, W = (w.alloc (.cells #[.bool s.fr, .int .i64 s.nx, .slice ra s.rd.length rc, .slice ha s.hd.length hc, .slice ma s.ms.length mc] 26)).alloc (.cells #[.bool false, .int .i64 0, .slice none 0 0, .slice none 0 0, .slice none 0 0] 26) := ⟨_, rfl⟩
  rw [← hW] at hx hy hb0 hWs
  have HBX := Lib.hid (boxes ra rc ha hc ma mc hx hy (by omega))
  have HB0 := Lib.hid hb0
  have HWS := Lib.hid hWs
  have HS1 := Lib.hid (hs.below ra rc ha hc ma mc hb0)
  have HSM := Lib.hid hs.sm
  have HF := Lib.hid (hf.below hb0)
  have HW := Lib.hid hW
  have HMAY := Lib.hid (may_any s ra rc ha hc ma mc W HS1.out)
  rw [hW] at HMAY
  have HRM := Lib.hid fun wx (hx : Below W.heap.size W wx) => Rg.may_any la lc l wx (HF.out.below hx)
  have HOWN := Lib.hid fun wx (hx : Below W.heap.size W wx) => own2_any s ra rc ha hc ma mc wx (HS1.out.below _ _ _ _ _ _ hx)
  clear hs hf hx hy hb0 hWs hW
  by_cases h1 : MaySd s
  case neg =>
    have HR := Lib.hid (partC_arg (l := l) k (fun h => h1 h.1))
    rw [decide_eq_false h1] at HMAY
    clear h1
    go_enter Try.func26, Try.ntmps26
    go_wp2_with (first | (go_at_call 19; refine HMAY.out.mono ?_; rintro e w1 ⟨rfl, hb1⟩; rw [← HW.out] at hb1; have HB1 := Lib.hid hb1; obtain ⟨⟨c0, c1, c2, c3, c4⟩, -⟩ := box5 (HBX.out _ hb1).1; clear hb1) | (go_at_call 45; refine (HOWN.out _ HB1.out).mono ?_; rintro e w2 ⟨ra2, rc2, ha2, hc2, ma2, mc2, rfl, ho2, hb2⟩; have HO2 := Lib.hid ho2; have HB2 := Lib.hid (HB1.out.trans (hb2.mono HB1.out.size)); obtain ⟨⟨d0, d1, d2, d3, d4⟩, f0, f1, f2, f3, f4⟩ := box5 (HBX.out _ HB2.out).2; obtain ⟨-, k0, k1, k2, k3, k4⟩ := box5 (HBX.out _ HB2.out).1; clear ho2 hb2))
    refine bodyPost_ret (v := .tuple #[.agg #[.bool s.fr, .int .i64 s.nx, .slice ra2 s.rd.length rc2, .slice ha2 s.hd.length hc2, .slice ma2 s.ms.length mc2], .int .i64 1]) (res_sd (i := 6) (j := 7) (g := w.heap.size + 1) Try.results26 rfl rfl (set5_box (HBX.out _ HB2.out).2 _ _ _ _ _)) rfl ?_
    rw [HR.out.1, HR.out.2]
    have hsz := HWS.out
    have hs1 := HB1.out.size
    refine sho_of _ _ _ _ _ _ (HO2.out.kept ?_) (by omega) HSM.out ?_
    · repeat (refine far_set ?_ (by omega))
      exact fun _ _ => rfl
    · repeat (refine low_set ?_ (by omega))
      exact HB0.out.trans (HB2.out.mono HB0.out.size)
  rw [decide_eq_true h1] at HMAY
  by_cases h2 : May l
  case neg =>
    have HR := Lib.hid (partC_arg (s := s) k (fun h => h2 h.2))
    have HRB : Hid (decide (May l) = false) := Lib.hid (decide_eq_false h2)
    clear h1 h2
    go_enter Try.func26, Try.ntmps26
    go_wp2_with (first | (go_at_call 19; refine HMAY.out.mono ?_; rintro e w1 ⟨rfl, hb1⟩; rw [← HW.out] at hb1; have HB1 := Lib.hid hb1; clear hb1) | (go_at_call 38; refine (HRM.out _ HB1.out).mono ?_; rintro e w3 ⟨rfl, hd⟩; rw [HRB.out]; have HB1' := HB1; clear HB1; have HB1 := Lib.hid (HB1'.out.trans (hd.below.mono HB1'.out.size)); obtain ⟨⟨c0, c1, c2, c3, c4⟩, -⟩ := box5 (HBX.out _ HB1.out).1; clear hd HB1') | (go_at_call 45; refine (HOWN.out _ HB1.out).mono ?_; rintro e w2 ⟨ra2, rc2, ha2, hc2, ma2, mc2, rfl, ho2, hb2⟩; have HO2 := Lib.hid ho2; have HB2 := Lib.hid (HB1.out.trans (hb2.mono HB1.out.size)); obtain ⟨⟨d0, d1, d2, d3, d4⟩, f0, f1, f2, f3, f4⟩ := box5 (HBX.out _ HB2.out).2; obtain ⟨-, k0, k1, k2, k3, k4⟩ := box5 (HBX.out _ HB2.out).1; clear ho2 hb2))
    refine bodyPost_ret (v := .tuple #[.agg #[.bool s.fr, .int .i64 s.nx, .slice ra2 s.rd.length rc2, .slice ha2 s.hd.length hc2, .slice ma2 s.ms.length mc2], .int .i64 1]) (res_sd (i := 6) (j := 7) (g := w.heap.size + 1) Try.results26 rfl rfl (set5_box (HBX.out _ HB2.out).2 _ _ _ _ _)) rfl ?_
    rw [HR.out.1, HR.out.2]
    have hsz := HWS.out
    have hs1 := HB1.out.size
    refine sho_of _ _ _ _ _ _ (HO2.out.kept ?_) (by omega) HSM.out ?_
    · repeat (refine far_set ?_ (by omega))
      exact fun _ _ => rfl
    · repeat (refine low_set ?_ (by omega))
      exact HB0.out.trans (HB2.out.mono HB0.out.size)
  have HRB : Hid (decide (May l) = true) := Lib.hid (decide_eq_true h2)
  by_cases h3 : s.fr = true ∧ s.hd = []
  case neg =>
    have HR := Lib.hid (partC_state k h1 h2 h3)
    have h4 : s.fr = false ∨ (s.fr = true ∧ (0 : Int) < (s.hd.length : Int)) := by
      cases hq : s.fr with
      | false => exact .inl rfl
      | true => exact .inr ⟨rfl, by have : s.hd ≠ [] := fun g => h3 ⟨hq, g⟩; have := List.length_pos_iff.2 this; omega⟩
    clear h1 h2 h3
    rcases h4 with h4 | ⟨h4, h5⟩
    all_goals
      have HFR := Lib.hid h4
      clear h4
      go_enter Try.func26, Try.ntmps26
      go_wp2_with (first | (go_at_call 19; refine HMAY.out.mono ?_; rintro e w1 ⟨rfl, hb1⟩; rw [← HW.out] at hb1; have HB1 := Lib.hid hb1; clear hb1) | (go_at_call 38; refine (HRM.out _ HB1.out).mono ?_; rintro e w3 ⟨rfl, hd⟩; rw [HRB.out]; have HB1' := HB1; clear HB1; have HB1 := Lib.hid (HB1'.out.trans (hd.below.mono HB1'.out.size)); obtain ⟨⟨c0, c1, c2, c3, c4⟩, -⟩ := box5 (HBX.out _ HB1.out).1; rw [HFR.out] at c0; clear hd HB1') | (go_at_call 45; rw [← HFR.out]; refine (HOWN.out _ HB1.out).mono ?_; rintro e w2 ⟨ra2, rc2, ha2, hc2, ma2, mc2, rfl, ho2, hb2⟩; have HO2 := Lib.hid ho2; have HB2 := Lib.hid (HB1.out.trans (hb2.mono HB1.out.size)); obtain ⟨⟨d0, d1, d2, d3, d4⟩, f0, f1, f2, f3, f4⟩ := box5 (HBX.out _ HB2.out).2; obtain ⟨-, k0, k1, k2, k3, k4⟩ := box5 (HBX.out _ HB2.out).1; clear ho2 hb2))
      refine bodyPost_ret (v := .tuple #[.agg #[.bool s.fr, .int .i64 s.nx, .slice ra2 s.rd.length rc2, .slice ha2 s.hd.length hc2, .slice ma2 s.ms.length mc2], .int .i64 7]) (res_sd (i := 6) (j := 7) (g := w.heap.size + 1) Try.results26 rfl rfl (set5_box (HBX.out _ HB2.out).2 _ _ _ _ _)) rfl ?_
      rw [HR.out.1, HR.out.2]
      have hsz := HWS.out
      have hs1 := HB1.out.size
      refine sho_of _ _ _ _ _ _ (HO2.out.kept ?_) (by omega) HSM.out ?_
      · repeat (refine far_set ?_ (by omega))
        exact fun _ _ => rfl
      · repeat (refine low_set ?_ (by omega))
        exact HB0.out.trans (HB2.out.mono HB0.out.size)
  obtain ⟨h3, h4⟩ := h3
  have HR := Lib.hid (partC_ok k h1 h2 h3 h4)
  have HRK : Hid (∀ m ∈ s.rd, m.key.length ≤ 1000) := Lib.hid fun m hm => by
    have := (h1.2.2.2.2.2.2.2.2.2.1 m (List.mem_append_right _ hm)).1.1.2.2.2.2.2
    omega
  have HMK : Hid (∀ m ∈ s.ms, m.key.length ≤ 1000) := Lib.hid fun m hm => by
    have := (h1.2.2.2.2.1 m hm).2.2.2.2.2
    omega
  have HL48 : Hid (s.rd.length ≤ 48) := Lib.hid (by have := h1.2.2.1; omega)
  have HL64 : Hid (s.ms.length ≤ 64) := Lib.hid h1.2.2.2.1
  have HFR := Lib.hid h3
  have hhd : s.hd.length = 0 := by rw [h4]; rfl
  have HHD := Lib.hid h4
  have HHL := Lib.hid hhd
  clear h1 h2 h3 h4 hhd
  go_enter Try.func26, Try.ntmps26
  go_wp2_with (first | (go_at_call 19; refine HMAY.out.mono ?_; rintro e w1 ⟨rfl, hb1⟩; rw [← HW.out] at hb1; have HB1 := Lib.hid hb1; clear hb1) | (go_at_call 38; refine (HRM.out _ HB1.out).mono ?_; rintro e w3 ⟨rfl, hd⟩; rw [HRB.out]; have HB1' := HB1; clear HB1; have HB1 := Lib.hid (HB1'.out.trans (hd.below.mono HB1'.out.size)); obtain ⟨⟨c0, c1, c2, c3, c4⟩, -⟩ := box5 (HBX.out _ HB1.out).1; rw [HFR.out] at c0; rw [HHL.out] at c3; have n0 : w.heap.size < w3.heap.size := (by have := HWS.out; have := HB1.out.size; omega); have n1 : ¬ w.heap.size = w3.heap.size := (by omega); clear hd HB1'))
  obtain ⟨t1, t2, t3⟩ := one_box (w := w3) (.cells #[.bool false, .int .i64 s.nx, .slice none 0 0, .slice none 0 0, .slice none 0 0] 26)
  generalize w3.alloc (.cells #[.bool false, .int .i64 s.nx, .slice none 0 0, .slice none 0 0, .slice none 0 0] 26) = W3 at *
  have HT2 := Lib.hid t2
  have HT3 := Lib.hid t3
  have HT1 := Lib.hid t1
  have HUP := Lib.hid (fun (wx : World) (h : Below w3.heap.size w3 wx) => HB1.out.trans (h.mono HB1.out.size))
  clear t1 t2 t3 c0 c1 c2 c3 c4
  go_loopg [40] s.rd.length (partRel1 w3 s (fun m => partF l k m.key) w3.heap.size)
  case atStart => exact ⟨0, [], none, 0, Nat.zero_le _, rfl, rfl, rfl, HT2.out, by have := HT3.out; omega, HT1.out, OwnE.nil _ _ _ _ _⟩
  case round =>
    obtain ⟨i, r, xr, cr, hi, rfl, rfl, hr, hb, hgs, hx, ho⟩ := hrel
    have HR1 := Lib.hid hr
    have HB := Lib.hid hb
    have HGS := Lib.hid hgs
    have HX := Lib.hid hx
    have HO := Lib.hid ho
    clear hr hb hgs hx ho HT1 HT2
    by_cases hlt : i < s.rd.length
    case pos =>
      have hlti : (i : Int) < (s.rd.length : Int) := by omega
      have h0i : (0 : Int) ≤ (i : Int) := by omega
      have hw1 : IntKind.i64.wrap ((i : Int) + 1) = (i : Int) + 1 := IntWalk.i64_in _ (by have := HL48.out; omega)
      obtain ⟨sb, so, rfl, z0, z1, z2, z3, z4⟩ := MgsAt.get (HS1.out.below _ _ _ _ _ _ (HUP.out _ HB.out)).rd i hlt
      have HSN := Lib.hid (filter_snoc (fun m : Mg => partF l k m.key) s.rd i hlt)
      have HKL := Lib.hid (HRK.out _ (List.getElem_mem hlt))
      have HRL : Hid (r.length ≤ 48) := Lib.hid (by rw [HR1.out]; exact Nat.le_trans (filter_len _ _ _) HL48.out)
      generalize s.rd[i] = x at *
      obtain ⟨t1, t2, t3⟩ := one_box (w := wr) (.cells #[.int .i64 x.pub, .int .i64 x.seq, .string ⟨x.key.toArray⟩, .string ⟨x.body.toArray⟩, .bool x.again] 35)
      have HB4 := Lib.hid (HB.out.trans (t2.mono HB.out.size))
      have HT2 := Lib.hid t2
      have HOW := Lib.hid (owns_any la lc l k x.key HKL.out _ (HF.out.below (HUP.out _ HB4.out)))
      have HX4 := Lib.hid (box_bl HX.out t2)
      have HM4 := Lib.hid t1
      have HO4 := Lib.hid (HO.out.below1 t2)
      clear t1 t2 t3
      cases hq : partF l k x.key with
      | false =>
        have HQ := Lib.hid hq
        clear hq
        go_wp2_with (go_at_call 60; refine HOW.out.mono ?_; rintro e w5 ⟨rfl, hd⟩; rw [HQ.out]; have HD := Lib.hid hd.below; clear hd)
        go_roundg (s.rd.length - (i + 1))
        case measure => omega
        case rel => exact ⟨i + 1, r, xr, cr, by omega, by go_num, by simp, by rw [HSN.out, HQ.out, HR1.out]; rfl, HB4.out.trans (HD.out.mono HB4.out.size), Nat.lt_of_lt_of_le HGS.out (Nat.le_trans HT2.out.size HD.out.size), box_bl HX4.out HD.out, HO4.out.below1 HD.out⟩
      | true =>
        have HQ := Lib.hid hq
        clear hq
        go_wp2_with (first | (go_at_call 60; refine HOW.out.mono ?_; rintro e w5 ⟨rfl, hd⟩; rw [HQ.out]; have HD := Lib.hid hd.below; have HX5 := Lib.hid (box_bl HX4.out hd.below); have HO5 := Lib.hid (HO4.out.below1 hd.below); have hm5 := box_bl HM4.out hd.below; obtain ⟨⟨y0, y1, y2, y3, y4⟩, -⟩ := box5 HX5.out; obtain ⟨⟨u0, u1, u2, u3, u4⟩, -⟩ := box5 hm5; have hgs5 : w3.heap.size + 1 ≤ w5.heap.size := (Nat.lt_of_lt_of_le HGS.out (Nat.le_trans HT2.out.size hd.below.size)); have HG5 := Lib.hid hgs5; clear hd hm5 hgs5) |
          (at_builtin; refine put_one mgE (base := w3.heap.size + 1) x rfl (.tmp 50) (.tmp 52) rfl HO5.out HG5.out (by have := HRL.out; omega) _ rfl rfl _ rfl rfl ?_; intro v6 w6 hown6 hg6; obtain ⟨xr6, cr6, rfl, -, -⟩ := OwnE.at mgE hown6; rw [show (r ++ [x]).length = r.length + 1 from List.length_append] at hown6; obtain ⟨p1, p2, p3, p4⟩ := push_box (i := 2) HX5.out (Nat.lt_succ_self _) HG5.out HO5.out hown6 hg6; obtain ⟨⟨j0, j1, j2, j3, j4⟩, f0, f1, f2, f3, f4⟩ := box5 p1; have HP2 := Lib.hid p2; have HP3 := Lib.hid p3; have HP4 := Lib.hid p4; have hsz6 := (Array.getElem?_eq_some_iff.1 p2).1; have HS6 := Lib.hid hsz6; clear p1 p2 p3 p4 hown6 hg6 hsz6))
        go_roundg (s.rd.length - (i + 1))
        case measure => omega
        case rel => exact ⟨i + 1, r ++ [x], xr6, cr6, by omega, by go_num, by simp, by rw [HSN.out, HQ.out, HR1.out]; rfl, (HB4.out.trans (HD.out.mono HB4.out.size)).trans HP4.out, HS6.out, by rw [List.length_append]; exact HP2.out, by rw [List.length_append]; exact HP3.out⟩
    case neg =>
      obtain rfl : i = s.rd.length := by omega
      have hlti : ¬ (s.rd.length : Int) < (s.rd.length : Int) := by omega
      have hr9 : r = s.rd.filter (fun m => partF l k m.key) := by have := HR1.out; rwa [List.take_length] at this
      have HR9 := Lib.hid hr9
      have HRL : Hid (r.length ≤ 48) := Lib.hid (by rw [hr9]; exact Nat.le_trans (List.length_filter_le _ _) HL48.out)
      obtain ⟨⟨c0, c1, c2, c3, c4⟩, -⟩ := box5 (HBX.out _ (HUP.out _ HB.out)).1
      clear hr9 HR1
      go_wp2_with fail
      go_loopg [59] s.ms.length (partRel2 w3 s r xr cr (fun m => partF l k m.key) w3.heap.size)
      case atStart => exact ⟨0, [], none, 0, Nat.zero_le _, rfl, rfl, rfl, HB.out, HGS.out, HX.out, HO.out, OwnE.nil _ _ _ _ _⟩
      case round =>
        clear c0 c1 c2 c3 c4
        obtain ⟨i, q, xm, cm, hi, rfl, rfl, hr, hb, hgs, hx, ho, hk⟩ := hrel
        clear HB HGS HX HO
        have HR1 := Lib.hid hr
        have HB := Lib.hid hb
        have HGS := Lib.hid hgs
        have HX := Lib.hid hx
        have HO := Lib.hid ho
        have HK := Lib.hid hk
        clear hr hb hgs hx ho hk
        by_cases hlt : i < s.ms.length
        case pos =>
          have hlti : (i : Int) < (s.ms.length : Int) := by omega
          have h0i : (0 : Int) ≤ (i : Int) := by omega
          have hw1 : IntKind.i64.wrap ((i : Int) + 1) = (i : Int) + 1 := IntWalk.i64_in _ (by have := HL64.out; omega)
          obtain ⟨sb, so, rfl, z0, z1, z2⟩ := MksAt.get (HS1.out.below _ _ _ _ _ _ (HUP.out _ HB.out)).ms i hlt
          have HSN := Lib.hid (filter_snoc (fun m : Mk => partF l k m.key) s.ms i hlt)
          have HKL := Lib.hid (HMK.out _ (List.getElem_mem hlt))
          have HQL : Hid (q.length ≤ 64) := Lib.hid (by rw [HR1.out]; exact Nat.le_trans (filter_len _ _ _) HL64.out)
          generalize s.ms[i] = x at *
          obtain ⟨t1, t2, t3⟩ := one_box (w := wr) (.cells #[.int .i64 x.pub, .string ⟨x.key.toArray⟩, .int .i64 x.seq] 67)
          have HB4 := Lib.hid (HB.out.trans (t2.mono HB.out.size))
          have HT2 := Lib.hid t2
          have HOW := Lib.hid (owns_any la lc l k x.key HKL.out _ (HF.out.below (HUP.out _ HB4.out)))
          have HX4 := Lib.hid (box_bl HX.out t2)
          have HM4 := Lib.hid t1
          have HO4 := Lib.hid (HO.out.below1 t2)
          have HK4 := Lib.hid (HK.out.below1 t2)
          clear t1 t2 t3
          cases hq : partF l k x.key with
          | false =>
            have HQ := Lib.hid hq
            clear hq
            go_wp2_with (go_at_call 60; refine HOW.out.mono ?_; rintro e w5 ⟨rfl, hd⟩; rw [HQ.out]; have HD := Lib.hid hd.below; clear hd)
            go_roundg (s.ms.length - (i + 1))
            case measure => omega
            case rel => exact ⟨i + 1, q, xm, cm, by omega, by go_num, by simp, by rw [HSN.out, HQ.out, HR1.out]; rfl, HB4.out.trans (HD.out.mono HB4.out.size), Nat.lt_of_lt_of_le HGS.out (Nat.le_trans HT2.out.size HD.out.size), box_bl HX4.out HD.out, HO4.out.below1 HD.out, HK4.out.below1 HD.out⟩
          | true =>
            have HQ := Lib.hid hq
            clear hq
            go_wp2_with (first | (go_at_call 60; refine HOW.out.mono ?_; rintro e w5 ⟨rfl, hd⟩; rw [HQ.out]; have HD := Lib.hid hd.below; have HX5 := Lib.hid (box_bl HX4.out hd.below); have HO5 := Lib.hid (HO4.out.below1 hd.below); have HK5 := Lib.hid (HK4.out.below1 hd.below); have hm5 := box_bl HM4.out hd.below; obtain ⟨⟨y0, y1, y2, y3, y4⟩, -⟩ := box5 HX5.out; obtain ⟨u0, u1, u2⟩ := box3m hm5; have hgs5 : w3.heap.size + 1 ≤ w5.heap.size := (Nat.lt_of_lt_of_le HGS.out (Nat.le_trans HT2.out.size hd.below.size)); have HG5 := Lib.hid hgs5; clear hd hm5 hgs5) |
              (at_builtin; refine put_one mkE (base := w3.heap.size + 1) x rfl (.tmp 69) (.tmp 71) rfl HK5.out HG5.out (by have := HQL.out; omega) _ rfl rfl _ rfl rfl ?_; intro v6 w6 hown6 hg6; obtain ⟨xk6, ck6, rfl, -, -⟩ := OwnE.at mkE hown6; rw [show (q ++ [x]).length = q.length + 1 from List.length_append] at hown6; have HO6 := OwnE.other HK5.out HO5.out (by decide) hg6; obtain ⟨p1, p2, p3, p4⟩ := push_box (i := 4) HX5.out (Nat.lt_succ_self _) HG5.out HK5.out hown6 hg6; obtain ⟨⟨j0, j1, j2, j3, j4⟩, f0, f1, f2, f3, f4⟩ := box5 p1; have HP2 := Lib.hid p2; have HP3 := Lib.hid p3; have HP4 := Lib.hid p4; have HP5 := Lib.hid (OwnE.kept HO6 (w' := w6.setCell ⟨w3.heap.size, 4, none⟩ (.slice xk6 (q.length + 1) ck6)) fun b hb _ => Below.heap_setCell w6 ⟨w3.heap.size, 4, none⟩ _ b (by show b ≠ w3.heap.size; omega)); have hsz6 := (Array.getElem?_eq_some_iff.1 p2).1; have HS6 := Lib.hid hsz6; clear p1 p2 p3 p4 HO6 hown6 hg6 hsz6))
            go_roundg (s.ms.length - (i + 1))
            case measure => omega
            case rel => exact ⟨i + 1, q ++ [x], xk6, ck6, by omega, by go_num, by simp, by rw [HSN.out, HQ.out, HR1.out]; rfl, (HB4.out.trans (HD.out.mono HB4.out.size)).trans HP4.out, HS6.out, by rw [List.length_append]; exact HP2.out, HP5.out, by rw [List.length_append]; exact HP3.out⟩
        case neg =>
          obtain rfl : i = s.ms.length := by omega
          have hlti : ¬ (s.ms.length : Int) < (s.ms.length : Int) := by omega
          have hr9 : q = s.ms.filter (fun m => partF l k m.key) := by have := HR1.out; rwa [List.take_length] at this
          have HR10 := Lib.hid hr9
          obtain ⟨⟨y0, y1, y2, y3, y4⟩, -⟩ := box5 HX.out
          obtain ⟨⟨d0, d1, d2, d3, d4⟩, f0, f1, f2, f3, f4⟩ := box5 (HBX.out _ (HUP.out _ HB.out)).2
          clear hr9 HR1
          go_wp2_with fail
          refine bodyPost_ret (v := .tuple #[.agg #[.bool false, .int .i64 s.nx, .slice xr r.length cr, .slice none 0 0, .slice xm q.length cm], .int .i64 0]) (res_sd (i := 6) (j := 7) (g := w.heap.size + 1) Try.results26 rfl rfl (set5_box (HBX.out _ (HUP.out _ HB.out)).2 _ _ _ _ _)) rfl ?_
          rw [HR.out.1, HR.out.2, ← HR9.out, ← HR10.out]
          have h1s := HB1.out.size
          have hws := HWS.out
          have hq9 : q.length ≤ 64 := by rw [HR10.out]; exact Nat.le_trans (List.length_filter_le _ _) HL64.out
          have hr9 := HRL.out
          refine sho_of (s' := ⟨false, s.nx, r, [], q⟩) xr cr none 0 xm cm (base := w3.heap.size + 1) (OwnS.kept (s := ⟨false, s.nx, r, [], q⟩) ⟨HO.out, OwnE.nil _ _ _ _ _, HK.out⟩ ?_) (by omega) ⟨by show r.length ≤ 1000; omega, by simp, by show q.length ≤ 1000; omega⟩ ?_
          · repeat (refine far_set ?_ (by omega))
            exact fun _ _ => rfl
          · repeat (refine low_set ?_ (by omega))
            exact HB0.out.trans ((HUP.out _ HB.out).mono HB0.out.size)
end Go.Proofs.Ytfmdlmhfckjniaa.Sh

namespace Go.Proofs.Ytfmdlmhfckjniaa.Sh
open Go.RowKit Rg Go.Sort
set_option linter.unusedVariables false
set_option linter.unusedSimpArgs false

def putsF (l : List OpD) : Sd := l.foldl (fun s o => putS s (nextF s o)) sd1
theorem puts_snoc (l : List OpD) (i : Nat) (h : i < l.length) : putsF (l.take (i + 1)) = putS (putsF (l.take i)) (nextF (putsF (l.take i)) l[i]) := by
  unfold putsF
  rw [show l.take (i + 1) = l.take i ++ [l[i]] by rw [List.take_add_one, List.getElem?_eq_getElem h]; rfl, List.foldl_append]
  rfl
theorem puts_ok (l : List OpD) : MaySd (putsF l) ∧ (putsF l).fr = false ∧ (putsF l).hd = [] := by
  have key : ∀ i, i ≤ l.length → MaySd (putsF (l.take i)) ∧ (putsF (l.take i)).fr = false ∧ (putsF (l.take i)).hd = [] := by
    intro i
    induction i with
    | zero => intro _; exact ⟨show MaySd sd1 by decide, rfl, rfl⟩
    | succ i ih =>
      intro h
      obtain ⟨h1, h2, h3⟩ := ih (by omega)
      rw [puts_snoc l i h]
      refine ⟨put_may h1 _, ?_, ?_⟩
      · unfold putS; split <;> exact h2
      · unfold putS; split <;> exact h3
  have := key l.length (Nat.le_refl _)
  rwa [List.take_length] at this
theorem put_not {s : Sd} {l : List Mg} (h : ¬ putC s l = 0) : putS s l = s := by unfold putS; rw [if_neg h]

theorem owner_range {l : List Ar} (h : May l) (p : Int) : 0 ≤ ownerA l p ∧ ownerA l p < 16 := by
  unfold ownerA
  rw [if_pos h, owner_in h.1]
  have := h.2.2 _ (place_lt h.1 p) (place_lt h.1 p)
  exact ⟨this.1, this.2.1⟩
theorem last_filter (ms : List Mk) (f : List UInt8 → Bool) (p : Int) (k : List UInt8) (h : f k = true) : lastF (ms.filter fun m => f m.key) p k = lastF ms p k := by
  induction ms with
  | nil => rfl
  | cons m ms ih =>
    by_cases hm : lk p k m = true
    · have hk : m.key = k := by simpa [lk] using (show m.pub = p ∧ m.key = k by simpa [lk] using hm).2
      rw [List.filter_cons_of_pos (p := fun m : Mk => f m.key) (by show f m.key = true; rw [hk]; exact h)]
      unfold lastF
      rw [if_pos hm, if_pos hm]
    · by_cases hf : f m.key = true
      · rw [List.filter_cons_of_pos (p := fun m : Mk => f m.key) hf]
        unfold lastF
        rw [if_neg hm, if_neg hm]
        exact ih
      · rw [List.filter_cons_of_neg (p := fun m : Mk => f m.key) hf]
        rw [ih]
        conv => rhs; unfold lastF
        rw [if_neg hm]
/-- a part of what may be. -/
def prtF (f : Sd) (l : List Ar) (k : Int) : Sd := ⟨false, f.nx, f.rd.filter (fun m => partF l k m.key), [], f.ms.filter (fun m => partF l k m.key)⟩
theorem prt_may {f : Sd} (l : List Ar) (k : Int) (h : MaySd f) : MaySd (prtF f l k) := by
  obtain ⟨a, b, c, d, e, g, -, -, -, h1, h2⟩ := h
  have hl1 := List.length_filter_le (fun m : Mg => partF l k m.key) f.rd
  have hl2 := List.length_filter_le (fun m : Mk => partF l k m.key) f.ms
  have hall : allF (prtF f l k) = f.rd.filter (fun m => partF l k m.key) := by unfold allF prtF; simp
  have hsub : (f.rd.filter (fun m => partF l k m.key)).Sublist (allF f) := (List.filter_sublist).trans (List.sublist_append_right _ _)
  refine ⟨a, b, by show (f.rd.filter _).length + 0 ≤ 48; omega, by show (f.ms.filter _).length ≤ 64; omega, fun m hm => e m (List.mem_filter.1 hm).1, g.sublist List.filter_sublist, fun x hx => by simp [prtF] at hx, List.Pairwise.nil, List.Pairwise.nil, ?_, ?_⟩
  · rw [hall]
    intro m hm
    obtain ⟨k1, k2⟩ := h1 m (hsub.subset hm)
    refine ⟨k1, ?_⟩
    show m.seq ≤ lastF (f.ms.filter fun m => partF l k m.key) m.pub m.key
    rw [last_filter f.ms (fun key => partF l k key) m.pub m.key (List.mem_filter.1 hm).2]
    exact k2
  · rw [hall]
    exact h2.sublist hsub
theorem prt_is {f : Sd} {l : List Ar} (k : Int) (h : MaySd f) (h' : May l) (h2 : f.fr = true) (h3 : f.hd = []) : partC f l = 0 ∧ partS f l k = prtF f l k := partC_ok k h h' h2 h3

/-- those whose owner is below k. -/
def cntB {α : Type} (key : α → List UInt8) (l : List Ar) (x : List α) (k : Nat) : Nat := (x.filter fun m => decide (ownerA l (ofB (key m)) < (k : Int))).length
theorem cnt_zero {α : Type} (key : α → List UInt8) {l : List Ar} (h : May l) (x : List α) : cntB key l x 0 = 0 := by
  unfold cntB
  rw [List.length_eq_zero_iff, List.filter_eq_nil_iff]
  intro m _
  have := (owner_range h (ofB (key m))).1
  simp
  omega
theorem cnt_all {α : Type} (key : α → List UInt8) {l : List Ar} (h : May l) (x : List α) : cntB key l x 16 = x.length := by
  unfold cntB
  rw [List.filter_eq_self.2]
  intro m _
  have := (owner_range h (ofB (key m))).2
  simp
  omega
theorem cnt_step {α : Type} (key : α → List UInt8) (l : List Ar) (x : List α) (k : Nat) : cntB key l x (k + 1) = cntB key l x k + (x.filter fun m => partF l (k : Int) (key m)).length := by
  unfold cntB
  induction x with
  | nil => rfl
  | cons m x ih =>
    simp only [List.filter_cons]
    unfold partF at ih ⊢
    by_cases h1 : ownerA l (ofB (key m)) < (k : Int)
    · rw [if_pos (decide_eq_true (by omega : ownerA l (ofB (key m)) < ((k + 1 : Nat) : Int))), if_pos (decide_eq_true h1), if_neg (by rw [beq_iff_eq]; omega)]
      simp only [List.length_cons]
      omega
    · by_cases h2 : ownerA l (ofB (key m)) = (k : Int)
      · rw [if_pos (decide_eq_true (by omega : ownerA l (ofB (key m)) < ((k + 1 : Nat) : Int))), if_neg (by rw [decide_eq_true_eq]; exact h1), if_pos (by rw [beq_iff_eq]; exact h2)]
        simp only [List.length_cons]
        omega
      · rw [if_neg (by rw [decide_eq_true_eq]; omega), if_neg (by rw [decide_eq_true_eq]; exact h1), if_neg (by rw [beq_iff_eq]; exact h2)]
        exact ih
theorem cnt_le {α : Type} (key : α → List UInt8) (l : List Ar) (x : List α) (k : Nat) : cntB key l x k ≤ x.length := List.length_filter_le _ _
/-- what stands in the filtered row. -/
theorem filter_at {α : Type} (p : α → Bool) (l : List α) (i : Nat) (h : i < l.length) (hp : p l[i] = true) : ∃ hn : ((l.take i).filter p).length < (l.filter p).length, (l.filter p)[((l.take i).filter p).length] = l[i] := by
  have e : l.filter p = (l.take i).filter p ++ l[i] :: (l.drop (i + 1)).filter p := by
    conv => lhs; rw [← List.take_append_drop i l, List.drop_eq_getElem_cons h, List.filter_append, List.filter_cons_of_pos hp]
  have e2 : (l.filter p).length = ((l.take i).filter p).length + (((l.drop (i + 1)).filter p).length + 1) := by rw [e, List.length_append, List.length_cons]
  refine ⟨by omega, ?_⟩
  have : ∀ (x : List α) (hx : x = (l.take i).filter p ++ l[i] :: (l.drop (i + 1)).filter p) (hl : ((l.take i).filter p).length < x.length), x[((l.take i).filter p).length] = l[i] := by
    intro x hx hl
    subst hx
    rw [List.getElem_append_right (Nat.le_refl _)]
    simp
  exact this _ e (by omega)

/-- a shard's box is written anew with what lies in another one. -/
theorem bx_move2 {w wc : World} {B g h : Nat} (ra : Option Addr) (rc : Nat) (ha : Option Addr) (hc : Nat) (ma : Option Addr) (mc : Nat) (ra6 : Option Addr) (rc6 : Nat) (ha6 : Option Addr) (hc6 : Nat) (ma6 : Option Addr) (mc6 : Nat) {s0 s : Sd} (hb : Below B w wc) (hg : B ≤ g) (hx : Bx wc g ra rc ha hc ma mc s0) (hy : Bx wc h ra6 rc6 ha6 hc6 ma6 mc6 s) :
    Below B w (set5 wc g (.bool s.fr) (.int .i64 s.nx) (.slice ra6 s.rd.length rc6) (.slice ha6 s.hd.length hc6) (.slice ma6 s.ms.length mc6)) ∧ Bx (set5 wc g (.bool s.fr) (.int .i64 s.nx) (.slice ra6 s.rd.length rc6) (.slice ha6 s.hd.length hc6) (.slice ma6 s.ms.length mc6)) g ra6 rc6 ha6 hc6 ma6 mc6 s :=
  ⟨set5_below hb hg _ _ _ _ _, set5_box hx.bx _ _ _ _ _, sd_keep _ _ _ _ _ _ hy.sd hx.bx fun b hb => set5_heap _ _ _ _ _ _ _ _ hb⟩

end Go.Proofs.Ytfmdlmhfckjniaa.Sh
