/-
  Several texts as one: RgArg, RgOwr, RgOf, RgRMay, RgROw, ShPartD, ShPart, ShRPart, ShSame, ShFew, ShFewR.
-/
import Derived.Test.YthohjcfpobeplaaRgMem
import Derived.Deep.Slices
import Derived.Deep.Draws
import Derived.SizedLaws
import Derived.Test.YthohjcfpobeplaaRgMay
import Derived.Test.YthohjcfpobeplaaRows
import Derived.WalkKit
import Derived.IntWalk
import Derived.ScopeJumps
import Derived.Lib.Hide
import Derived.Deep.LoopGhost
import Derived.Test.YthohjcfpobeplaaShTold
import Derived.Test.YthohjcfpobeplaaShPut
import Derived.Test.YthohjcfpobeplaaShRPut
import Derived.Test.YthohjcfpobeplaaShEq
import Derived.Test.YthohjcfpobeplaaRgMemG
import Derived.Test.YthohjcfpobeplaaShMks

namespace Go.Proofs.Ythohjcfpobeplaa.Rg
open Go.ChangeShapes Go.WideShapes Go.ChangeAt Go.RowKit Go.Deep
set_option linter.unusedVariables false

/-- arcs that came in: in memory, with points on the ring. -/
structure AArg (w : World) (a : Option Addr) (cap : Nat) (l : List Ar) : Prop where
  at' : AsAt w a cap l
  wf : Wf l
  none : a = none → cap = 0

theorem cells_ar : Try.prog.cellsOf 115 = 2 := by kernel_rfl
theorem cells_u32 : Try.prog.cellsOf 59 = 1 := by kernel_rfl
theorem cells_int : Try.prog.cellsOf 3 = 1 := by kernel_rfl

section
variable {H : Type} {enc : TypeId × Value → H} {w : World} {base : Nat} {held : Bool}
theorem two' {α : Type} {l : List α} (h : l.length = 2) : ∃ a b, l = [a, b] := by
  match l, h with
  | [a, b], _ => exact ⟨a, b, rfl⟩
theorem ar_of {n : Nat} {cs : List Value} {y : DataW H × List MemPlace} (hcs : cs.length = 2) (h : DataW.trod enc Try.prog w base (fun _ => true) held n 115 cs = some y) :
    ∃ b : Ar, cs = arC b ∧ 0 ≤ b.f ∧ b.f < 4294967296 := by
  obtain ⟨c0, c1, rfl⟩ := two' hcs
  obtain ⟨ys, m, hm, rfl, hl, hlen, hat⟩ := DataW.trod_struct Try.underlying115 h
  have t0 := hat 0 _ rfl
  have t1 := hat 1 _ rfl
  simp only [List.getElem_toArray, List.getElem_cons_zero, List.getElem_cons_succ, cells_int, cells_u32, List.drop_zero, List.drop_succ_cons, List.take_succ_cons, List.take_zero] at t0 t1
  simp only [List.size_toArray, List.length_cons, List.length_nil] at hlen
  match ys, hlen with
  | [y0, y1], _ =>
    obtain ⟨k0, e0, _, w0⟩ := DataW.trod_int Try.underlying59 t0
    obtain ⟨k1, e1, _, w1⟩ := DataW.trod_int Try.underlying3 t1
    refine ⟨⟨k0, k1⟩, ?_, in_u32 w0⟩
    simp only [List.cons.injEq, and_true] at e0 e1
    rw [e0, e1]
    rfl

/-- an argument that is a slice of arcs. -/
theorem ars_arg {v : Value} {d : DataW H} {p : List MemPlace} (h : DataW.Trod enc Try.prog w base (fun _ => true) held 27 v d p) (hv : ∃ a len cap, v = .slice a len cap) :
    ∃ (a : Option Addr) (cap : Nat) (l : List Ar), v = .slice a l.length cap ∧ AArg w a cap l := by
  obtain ⟨n, h⟩ := h
  obtain ⟨a, len, cap, rfl⟩ := hv
  rcases DataW.trod_slice Try.underlying27 (by simpa [Value.cells] using h) with ⟨hv, _⟩ | ⟨ad, len', cap', elems, rest, m, hn, hv, hd, hb, hlc, hcm, hel, hat, _, _⟩
  · have hv : Value.slice a len cap = .slice none 0 0 := by simpa using hv
    obtain ⟨rfl, rfl, rfl⟩ := Value.slice.inj hv
    exact ⟨none, 0, [], rfl, RowsAt.nil _ _ _ _ _ (by simp [maxLen]), (fun a h => by cases h), fun _ => rfl⟩
  · have hv : Value.slice a len cap = .slice (some ad) len' cap' := by simpa using hv
    obtain ⟨rfl, rfl, rfl⟩ := Value.slice.inj hv
    obtain ⟨b, o, spot⟩ := ad
    have hrow : ∀ i, i < len → ∃ e : Ar, spot = none ∧ (0 ≤ e.f ∧ e.f < 4294967296) ∧ ∀ (r : Nat) (v : Value), (arC e)[r]? = some v → w.cell? ⟨b, o + i * 2 + r, none⟩ = some v := by
      intro i hi
      have h1 := hat i hi
      have he : elems[i]? = some (elems[i]'(by omega)) := List.getElem?_eq_getElem (by omega)
      rw [he, Option.bind_eq_some_iff] at h1
      obtain ⟨cs, hcs, ht⟩ := h1
      rw [cells_ar] at hcs
      obtain ⟨_, hl4, hcell⟩ := World.cells?_some hcs
      obtain ⟨e, rfl, hef⟩ := ar_of hl4 ht
      have hsp : spot = none := by
        have h00 := hat 0 (by omega)
        have he0 : elems[0]? = some (elems[0]'(by omega)) := List.getElem?_eq_getElem (by omega)
        rw [he0, Option.bind_eq_some_iff] at h00
        obtain ⟨cs0, hcs0, _⟩ := h00
        simp only [cells_ar] at hcs0
        obtain ⟨_, hl40, hcell0⟩ := World.cells?_some hcs0
        have e00 := hcell0 0 (by omega)
        rw [List.getElem?_eq_getElem (by omega)] at e00
        simpa [Addr.add] using World.cell?_spot e00
      subst hsp
      have hadd : ∀ j, ((⟨b, o, none⟩ : Addr).add (i * 2)).add j = ⟨b, o + i * 2 + j, none⟩ := fun j => by rw [add_at, add_at]
      refine ⟨e, rfl, hef, fun r v hv => ?_⟩
      have hr : r < 2 := (List.getElem?_eq_some_iff.1 hv).1
      have f0 := hcell r (by omega)
      rw [hadd] at f0
      rw [f0, hv]
    haveI : Inhabited Ar := ⟨⟨0, 0⟩⟩
    obtain ⟨f, hfn⟩ := choose_lt hrow
    refine ⟨some ⟨b, o, spot⟩, cap, (List.range len).map f, by simp, ⟨by simpa using hlc, hcm, fun h0 => ?_⟩, fun x hx => ?_, fun h => by cases h⟩
    · simp only [List.length_map, List.length_range] at h0
      obtain ⟨rfl, _⟩ := hfn 0 h0
      refine ⟨b, o, rfl, fun i hi r v hv => ?_⟩
      simp only [List.length_map, List.length_range] at hi
      simp only [List.getElem_map, List.getElem_range] at hv
      exact (hfn i hi).2.2 r v hv
    · obtain ⟨i, hi, rfl⟩ := List.mem_map.1 hx
      exact (hfn i (List.mem_range.1 hi)).2.1
end

end Go.Proofs.Ythohjcfpobeplaa.Rg

namespace Go.Proofs.Ythohjcfpobeplaa.Rg
open Go.RowKit
set_option linter.unusedVariables false

/-! ### Owner -/
def ownerA (l : List Ar) (p : Int) : Int := if May l then ownerF l p else -1
/-- j arcs were passed. -/
def ownerRel (l : List Ar) (p : Int) (w : World) (m : Nat) (a' : Act) (w' : World) : Prop :=
  ∃ (j : Nat) (r : List Ar) (a : Option Addr) (cap : Nat) (s : Int) (u6 u7 u8 u9 u10 u11 u12 u13 u14 u15 u16 u17 u18 u19 u20 u21 u22 u23 u24 u25 u26 u27 u28 u29 u30 u31 u32 u33 : Value), a' = { tmps := #[.slice a r.length cap, .int .u32 p, undef, undef, .int .i64 0, .int .i64 s, u6, u7, u8, u9, u10, u11, u12, u13, u14, u15, u16, u17, u18, u19, u20, u21, u22, u23, u24, u25, u26, u27, u28, u29, u30, u31, u32, u33], defers := [] } ∧
    m = r.length ∧ r = l.drop j ∧ j ≤ cntF l p ∧ s = (if h : (if j = 0 then l.length - 1 else j - 1) < l.length then l[if j = 0 then l.length - 1 else j - 1].s else -1) ∧ May l ∧ AsAt w' a cap r ∧ Drew w w'
theorem owner_passed {l : List Ar} {p : Int} (j : Nat) (h : j = cntF l p) : (if h : (if j = 0 then l.length - 1 else j - 1) < l.length then l[if j = 0 then l.length - 1 else j - 1].s else -1) = ownerF l p := by
  subst h; rfl
set_option maxRecDepth 100000 in
set_option maxHeartbeats 1000000 in
theorem owner_any (a : Option Addr) (cap : Nat) (l : List Ar) (p : Int) (w : World) (hf : AsAt w a cap l) :
    Calls Try.prog 44 #[.slice a l.length cap, .int .u32 p] w fun e w' => e = .returned (.int .i64 (ownerA l p)) ∧ Drew w w' := by
  have hm := may_any a cap l w hf
  have hcap := hf.max
  have hlen := hf.len
  unfold maxLen at hcap
  have HF := Lib.hid hf
  clear hf
  go_enter Try.func44, Try.ntmps44
  go_wp2_with fail
  refine wp_scope_ghost 0 (ownerRel l p w) rfl ?_ ?_
  · intro H hb'
    have HBK := Lib.hid hb'
    clear hb'
    by_cases h1 : May l
    case neg =>
      rw [decide_eq_false h1] at hm
      have HR : Hid (ownerA l p = -1) := Lib.hid (if_neg h1)
      clear h1
      go_wp2_with (go_at_call 43; refine hm.mono ?_; rintro e w1 ⟨rfl, hd⟩; have HD := Lib.hid hd; clear hd)
      simp only [Exit.jump]
      go_ret
      exact ⟨by rw [HR.out]; rfl, HD.out⟩
    rw [decide_eq_true h1] at hm
    have HM := Lib.hid h1
    have hl1 := h1.1
    have s1 : IntKind.i64.wrap ((l.length : Int) - 1) = ((l.length - 1 : Nat) : Int) := by rw [IntWalk.i64_in _ (by omega)]; omega
    have s2 : ((l.length - 1 : Nat) : Int) < (l.length : Int) := by omega
    have s3 : (0 : Int) ≤ ((l.length - 1 : Nat) : Int) := by omega
    clear h1
    go_wp2_with (go_at_call 43; refine hm.mono ?_; rintro e w1 ⟨rfl, hd⟩; have HD := Lib.hid hd; have HF1 := Lib.hid (HF.out.below hd.below); obtain ⟨b, o, rfl, c0, c1⟩ := AsAt.get HF1.out (l.length - 1) (by omega); clear hd)
    go_step3
    rename_i hK
    refine hK _ _ (HBK.out l.length _ _ ⟨0, l, some ⟨b, o, none⟩, cap, (l[l.length - 1]'(by omega)).s, ?_⟩)
    repeat apply Exists.intro
    exact ⟨rfl, rfl, rfl, Nat.zero_le _, by rw [dif_pos (by simp; omega)]; rfl, HM.out, HF1.out, HD.out⟩
  · rintro m a' w' ⟨j, r, a, cap, s, u6, u7, u8, u9, u10, u11, u12, u13, u14, u15, u16, u17, u18, u19, u20, u21, u22, u23, u24, u25, u26, u27, u28, u29, u30, u31, u32, u33, rfl, rfl, hr, hj, hs, hml, hat, hd⟩ H hH
    have HH := Lib.hid hH
    have HM := Lib.hid hml
    have HD := Lib.hid hd
    have HS := Lib.hid hs
    have HR := Lib.hid hr
    have HAT := Lib.hid hat
    have hc := cnt_iff hml.up p j
    have hcl := cnt_le l p
    clear hH hd hm hs hml hr hat
    cases r with
    | nil =>
      have hlj : l.length ≤ j := by
        have := congrArg List.length HR.out
        rw [List.length_drop] at this
        simp at this
        omega
      have HE := Lib.hid (owner_passed (l := l) (p := p) j (by omega))
      go_wp2_with fail
      simp only [Exit.jump]
      go_ret
      refine ⟨?_, HD.out⟩
      have : s = ownerA l p := by rw [HS.out, HE.out]; unfold ownerA; rw [if_pos HM.out]
      rw [← this]; rfl
    | cons x r =>
      have hlj : j < l.length := by
        have := congrArg List.length HR.out
        rw [List.length_drop] at this
        simp at this
        omega
      have hxr : x = l[j] ∧ r = l.drop (j + 1) := by
        have := HR.out
        rw [List.drop_eq_getElem_cons hlj] at this
        exact List.cons.inj this
      have hcx := hc hlj
      rw [← hxr.1] at hcx
      have HX := Lib.hid hxr
      have hmax := HAT.out.max
      unfold maxLen at hmax
      have n0 : (0 : Int) < (r.length : Int) + 1 := by omega
      have n1 : 0 < r.length + 1 := by omega
      obtain ⟨b, o, a2, rfl, c0, c1, hat2, h1c, hsl⟩ := AsAt.head HAT.out
      have HAT2 := Lib.hid hat2
      clear hat2 hxr hc
      by_cases hp : x.f ≤ p
      · have hlt := hcx.1 hp
        go_wp2_with fail
        go_step3
        refine ⟨rfl, HH.out r.length _ _ (by simp) ⟨j + 1, r, a2, cap - 1, x.s, ?_⟩⟩
        repeat apply Exists.intro
        refine ⟨rfl, rfl, HX.out.2, hlt, ?_, HM.out, HAT2.out, HD.out⟩
        rw [dif_pos (by simp; omega), HX.out.1]
        rfl
      · have hnl : j = cntF l p := by
          have : ¬ j < cntF l p := fun h => hp (hcx.2 h)
          omega
        have HE := Lib.hid (owner_passed (l := l) (p := p) j hnl)
        clear hnl hcx
        go_wp2_with fail
        simp only [Exit.jump]
        go_ret
        refine ⟨?_, HD.out⟩
        have : s = ownerA l p := by rw [HS.out, HE.out]; unfold ownerA; rw [if_pos HM.out]
        rw [← this]; rfl

end Go.Proofs.Ythohjcfpobeplaa.Rg

namespace Go.Proofs.Ythohjcfpobeplaa.Rg
open Go.RowKit
set_option linter.unusedVariables false

def stirB (h : Int) : Int :=
  bits .xor .u32 (bits .xor .u32 h (h / 32768) * 2246822519 % 4294967296) (bits .xor .u32 h (h / 32768) * 2246822519 % 4294967296 / 8192)

def mix1 (h : Int) (c : UInt8) : Int := bits .xor .u32 h (c.toNat % 4294967296) * 16777619 % 4294967296

def mixB (l : List UInt8) : Int := l.foldl mix1 2166136261

def ofB (l : List UInt8) : Int := stirB (mixB l)

theorem mixB_snoc (l : List UInt8) (c : UInt8) : mixB (l ++ [c]) = mix1 (mixB l) c := by unfold mixB; simp

theorem mixB_in (l : List UInt8) : 0 ≤ mixB l ∧ mixB l < 4294967296 := by
  rcases List.eq_nil_or_concat l with rfl | ⟨l', c, rfl⟩
  · exact ⟨by decide, by decide⟩
  · rw [List.concat_eq_append, mixB_snoc]; unfold mix1; omega

theorem take_snoc (s : ByteArray) (k : Nat) (h : k < s.size) : s.data.toList.take (k + 1) = s.data.toList.take k ++ [s[k]] := by
  rw [List.take_succ_eq_append_getElem (by simpa using h)]; rfl

theorem ret_u32 {a b : Int} (h : a = b) : Ending.returned (.int .u32 a) = .returned (.int .u32 b) := by rw [h]

theorem stir_any (h : Int) (h0 : 0 ≤ h) (h1 : h < 4294967296) (w : World) :
    Calls Try.prog 89 #[.int .u32 h] w fun e w' => e = .returned (.int .u32 (stirB h)) ∧ w = w' := by
  go_enter Try.func89, Try.ntmps89
  go_wp2
  go_ret
  exact ⟨rfl, rfl⟩

theorem rof_any (s : ByteArray) (hs : s.size ≤ maxLen) (w : World) :
    Calls Try.prog 82 #[.string s] w fun e w' => e = .returned (.int .u32 (ofB s.data.toList)) ∧ w = w' := by
  unfold maxLen at hs
  go_enter Try.func82, Try.ntmps82
  go_wp2
  go_loop [3, 4] (fun h i => ∃ (k : Nat), k ≤ s.size ∧ i = .int .i64 k ∧ h = .int .u32 (mixB (s.data.toList.take k))) (fun _ i => s.size - (intOf i).toNat)
  case atStart => exact ⟨0, Nat.zero_le _, rfl, rfl⟩
  case round =>
    obtain ⟨k, hk, rfl, rfl⟩ := hrel
    have hm := mixB_in (s.data.toList.take k)
    by_cases hlt : k < s.size
    · have hsn := mixB_snoc (s.data.toList.take k) s[k]
      rw [← take_snoc s k hlt] at hsn
      have HS := Lib.hid hsn
      clear hsn
      go_wp2
      all_goals
        go_round
        case rel => exact ⟨k + 1, by omega, by go_num, by rw [HS.out]; unfold mix1; with_reducible rfl⟩
        case measure => simp [intOf]; omega
    · have hall : s.data.toList.take k = s.data.toList := List.take_of_length_le (by simp; omega)
      have HS := Lib.hid hall
      clear hall
      go_wp2
      go_ret
      exact ⟨ret_u32 (by unfold ofB; rw [HS.out]; rfl), rfl⟩

theorem mix_any (s : ByteArray) (hs : s.size ≤ maxLen) (w : World) :
    Calls Try.prog 90 #[.string s] w fun e w' => e = .returned (.int .u32 (mixB s.data.toList)) ∧ w = w' := by
  unfold maxLen at hs
  go_enter Try.func90, Try.ntmps90
  go_wp2
  refine wp_scope_jumps 0 (fun a' w' => w = w' ∧ ∃ (k : Nat) (u5 u6 u7 u8 u9 u10 u11 u12 u13 u14 u15 u16 u17 : Value), a' = { tmps := #[.string s, undef, .int .u32 0, .int .u32 (mixB (s.data.toList.take k)), .int .i64 k, u5, u6, u7, u8, u9, u10, u11, u12, u13, u14, u15, u16, u17, undef], defers := [] } ∧ k ≤ s.size) (fun a' _ => s.size - (intOf (a'.tmps.getD 4 undef)).toNat) rfl ?_ ?_
  · go_wp2
    go_step3
    by_cases hlt : 0 < s.size
    · have hsn := mixB_snoc (s.data.toList.take 0) (s[0]'hlt)
      rw [← take_snoc s 0 hlt] at hsn
      have HS := Lib.hid hsn
      clear hsn
      go_wp2
      go_step3
      refine ⟨rfl, rfl, 1, ?_⟩
      repeat apply Exists.intro
      refine ⟨?_, by omega⟩
      rw [show (1 : Nat) = 0 + 1 from rfl, HS.out]
      unfold mix1
      rfl
    · have hall : s.data.toList = [] := List.eq_nil_of_length_eq_zero (by have e : s.data.toList.length = s.size := by simp
                                                                          omega)
      have HS := Lib.hid hall
      clear hall
      go_wp2
      simp only [Exit.jump]
      go_ret
      exact ⟨ret_u32 (by rw [HS.out]; rfl), rfl⟩
  · rintro a' w' ⟨rfl, k, u5, u6, u7, u8, u9, u10, u11, u12, u13, u14, u15, u16, u17, rfl, hk⟩
    have hm := mixB_in (s.data.toList.take k)
    by_cases hlt : k < s.size
    · have hsn := mixB_snoc (s.data.toList.take k) s[k]
      rw [← take_snoc s k hlt] at hsn
      have HS := Lib.hid hsn
      clear hsn
      go_wp2
      go_step3
      refine ⟨rfl, ⟨rfl, k + 1, ?_⟩, ?_⟩
      · repeat apply Exists.intro
        refine ⟨?_, by omega⟩
        rw [HS.out]
        unfold mix1
        rfl
      · simp [intOf]; omega
    · have hall : s.data.toList.take k = s.data.toList := List.take_of_length_le (by simp; omega)
      have HS := Lib.hid hall
      clear hall
      go_wp2
      simp only [Exit.jump]
      go_ret
      exact ⟨ret_u32 (by rw [HS.out]), rfl⟩

theorem of_any (s : ByteArray) (hs : s.size ≤ maxLen) (w : World) :
    Calls Try.prog 45 #[.string s] w fun e w' => e = .returned (.int .u32 (ofB s.data.toList)) ∧ w = w' := by
  have hm := mixB_in s.data.toList
  go_enter Try.func45, Try.ntmps45
  go_wp2_with fail
  refine (mix_any s hs _).mono ?_
  rintro e w' ⟨rfl, rfl⟩
  go_wp2_with fail
  refine (stir_any _ hm.1 hm.2 _).mono ?_
  rintro e w' ⟨rfl, rfl⟩
  go_wp2_with fail
  go_ret
  exact ⟨rfl, rfl⟩

end Go.Proofs.Ythohjcfpobeplaa.Rg

namespace Go.Proofs.Ythohjcfpobeplaa.Rg
open Go.RowKit
set_option linter.unusedVariables false

def rmayRel (w : World) (l : List Ar) (m : Nat) (v : Value) (wr : World) : Prop :=
  ∃ i : Nat, i ≤ l.length ∧ (∀ j, j < i → MayA l j) ∧ v = .int .i64 i ∧ m = l.length - i ∧ Drew w wr

set_option maxRecDepth 100000 in
set_option maxHeartbeats 2000000 in
theorem rmay_any (a : Option Addr) (cap : Nat) (l : List Ar) (w : World) (hf : AsAt w a cap l) :
    Calls Try.prog 80 #[.slice a l.length cap] w fun e w' => e = .returned (.bool (decide (May l))) ∧ Drew w w' := by
  have hcap := hf.max
  have hlen := hf.len
  unfold maxLen at hcap
  by_cases h0 : l.length = 0
  · have HR := Lib.hid (long_may (.inl h0))
    have e0 : (l.length : Int) < 1 := by omega
    clear h0 hf
    go_enter Try.func80, Try.ntmps80
    go_wp2_with fail
    go_ret
    exact ⟨by rw [HR.out]; rfl, Drew.refl _⟩
  have e0 : ¬ (l.length : Int) < 1 := by omega
  by_cases h1 : 1024 < l.length
  · have HR := Lib.hid (long_may (.inr h1))
    have e1 : (1024 : Int) < (l.length : Int) := by omega
    clear hf
    go_enter Try.func80, Try.ntmps80
    go_wp2_with fail
    go_ret
    exact ⟨by rw [HR.out]; rfl, Drew.refl _⟩
  have e1 : ¬ (1024 : Int) < (l.length : Int) := by omega
  have HF := Lib.hid hf
  clear hf
  go_enter Try.func80, Try.ntmps80
  go_wp2_with fail
  go_loopg [3] l.length (rmayRel w l)
  case atStart => exact ⟨0, Nat.zero_le _, fun j h => by omega, rfl, rfl, Drew.refl _⟩
  case round =>
    obtain ⟨i, hi, hok, rfl, rfl, hd⟩ := hrel
    have HOK := Lib.hid hok
    have HD := Lib.hid hd
    have HF1 := Lib.hid (HF.out.below hd.below)
    clear hok hd
    by_cases hlt : i < l.length
    · have hlti : (i : Int) < (l.length : Int) := by omega
      have h0i : (0 : Int) ≤ (i : Int) := by omega
      obtain ⟨b, o, rfl, c0, c1⟩ := AsAt.get HF1.out i hlt
      by_cases g1 : l[i].s < 0
      · have HR := Lib.hid (not_may hlt fun hm => by have := (hm hlt).1; omega)
        repeat (first | go_values | go_skip | go_guarded | go_step | go_upon)
        go_quiet (fail)
        repeat (first | go_values | go_skip | go_guarded | go_step | go_upon)
        go_ret
        exact ⟨by rw [HR.out]; rfl, HD.out.more _⟩
      by_cases g2 : 16 ≤ l[i].s
      · have HR := Lib.hid (not_may hlt fun hm => by have := (hm hlt).2.1; omega)
        repeat (first | go_values | go_skip | go_guarded | go_step | go_upon)
        go_quiet (fail)
        repeat (first | go_values | go_skip | go_guarded | go_step | go_upon)
        go_ret
        exact ⟨by rw [HR.out]; rfl, HD.out.more _⟩
      cases i with
      | zero =>
        have hin : MayA l 0 := fun h => ⟨by omega, by omega, .inl rfl⟩
        have HIN := Lib.hid hin
        clear hin
        repeat (first | go_values | go_skip | go_guarded | go_step | go_upon)
        go_quiet (fail)
        repeat (first | go_values | go_skip | go_guarded | go_step | go_upon)
        go_roundg (l.length - 1)
        case measure => omega
        case rel => exact ⟨1, by omega, fun j h => (show j = 0 from by omega) ▸ HIN.out, rfl, by simp, HD.out.more _⟩
      | succ i =>
        obtain ⟨b', o', he, d0, _⟩ := AsAt.get HF1.out i (by omega)
        injection he with he
        injection he with e2 e3
        subst e2 e3
        have e4 : ((i + 1 : Nat) : Int) = (i : Int) + 1 := rfl
        have c5 : IntKind.i64.wrap ((i : Int) + 1 - 1) = (i : Int) := by rw [Int.add_sub_cancel]; exact IntWalk.i64_in _ (by omega)
        have e5 : (0 : Int) < (i : Int) + 1 := by omega
        have h0j : (0 : Int) ≤ (i : Int) := by omega
        have hltj : (i : Int) < (l.length : Int) := by omega
        by_cases hr : l[i].f < l[i + 1].f
        · have hin : MayA l (i + 1) := fun h => ⟨by omega, by omega, .inr hr⟩
          have HIN := Lib.hid hin
          have hr2 : ¬ l[i + 1].f ≤ l[i].f := by omega
          clear hin
          repeat (first | go_values | go_skip | go_guarded | go_step | go_upon)
          go_quiet (fail)
          repeat (first | go_values | go_skip | go_guarded | go_step | go_upon)
          go_roundg (l.length - (i + 2))
          case measure => omega
          case rel =>
            refine ⟨i + 2, by omega, fun j h => ?_, by go_num, by simp, HD.out.more _⟩
            by_cases hj : j = i + 1
            · subst hj; exact HIN.out
            · exact HOK.out j (by omega)
        · have hr2 : l[i + 1].f ≤ l[i].f := by omega
          have HR := Lib.hid (not_may hlt fun hm => by have := (hm hlt).2.2; simp at this; exact hr this)
          repeat (first | go_values | go_skip | go_guarded | go_step | go_upon)
          go_quiet (fail)
          repeat (first | go_values | go_skip | go_guarded | go_step | go_upon)
          go_ret
          exact ⟨by rw [HR.out]; rfl, HD.out.more _⟩
    · obtain rfl : i = l.length := by omega
      have HR := Lib.hid (all_may (by omega) (by omega) HOK.out)
      go_wp2_with fail
      go_ret
      exact ⟨by rw [HR.out]; rfl, HD.out⟩

end Go.Proofs.Ythohjcfpobeplaa.Rg

namespace Go.Proofs.Ythohjcfpobeplaa.Rg
open Go.RowKit
set_option linter.unusedVariables false

def placeRel (w : World) (l : List Ar) (p : Int) (m : Nat) (u v : Value) (wr : World) : Prop :=
  ∃ i : Nat, i ≤ l.length ∧ v = .int .i64 i ∧ m = l.length - i ∧ u = .int .i64 (if min i (cntF l p) = 0 then l.length - 1 else min i (cntF l p) - 1 : Nat) ∧ wr = w
set_option maxHeartbeats 1000000 in
theorem place_any (a : Option Addr) (cap : Nat) (l : List Ar) (p : Int) (w : World) (hf : AsAt w a cap l) (hm : May l) :
    Calls Try.prog 115 #[.slice a l.length cap, .int .u32 p] w fun e w' => e = .returned (.int .i64 (placeF l p : Nat)) ∧ w' = w := by
  have hcap := hf.max
  have hlen := hf.len
  unfold maxLen at hcap
  have HF := Lib.hid hf
  have HC := Lib.hid (cnt_iff hm.up p)
  have hl1 := hm.1
  have hcl := cnt_le l p
  have s1 : IntKind.i64.wrap ((l.length : Int) - 1) = ((l.length - 1 : Nat) : Int) := by rw [IntWalk.i64_in _ (by omega)]; omega
  have hpl : placeF l p = if min l.length (cntF l p) = 0 then l.length - 1 else min l.length (cntF l p) - 1 := by
    unfold placeF
    rw [Nat.min_eq_right hcl]
  have HPL := Lib.hid hpl
  clear hf hm hpl
  go_enter Try.func115, Try.ntmps115
  go_wp2_with fail
  clear s1
  go_loopg [5, 6] l.length (placeRel w l p)
  case atStart => exact ⟨0, Nat.zero_le _, rfl, rfl, by simp, rfl⟩
  case round =>
    obtain ⟨i, hi, rfl, rfl, rfl, rfl⟩ := hrel
    by_cases hlt : i < l.length
    · have hlti : (i : Int) < (l.length : Int) := by omega
      have h0i : (0 : Int) ≤ (i : Int) := by omega
      obtain ⟨b, o, rfl, c0, c1⟩ := AsAt.get HF.out i hlt
      by_cases g1 : l[i].f ≤ p
      · have hc := (HC.out i hlt).1 g1
        generalize hq : (if min i (cntF l p) = 0 then l.length - 1 else min i (cntF l p) - 1) = q
        clear hq
        go_wp2_with fail
        go_roundg (l.length - (i + 1))
        case measure => omega
        case rel => exact ⟨i + 1, by omega, by go_num, by simp, by rw [Nat.min_eq_left (by omega), if_neg (by omega), Nat.add_sub_cancel], rfl⟩
      · have hc : ¬ i < cntF l p := fun h => g1 ((HC.out i hlt).2 h)
        have hq : (if min i (cntF l p) = 0 then l.length - 1 else min i (cntF l p) - 1) = (if min (i + 1) (cntF l p) = 0 then l.length - 1 else min (i + 1) (cntF l p) - 1) := by
          rw [Nat.min_eq_right (by omega), Nat.min_eq_right (by omega)]
        have HQ := Lib.hid hq
        clear hq
        generalize (if min i (cntF l p) = 0 then l.length - 1 else min i (cntF l p) - 1) = q at HQ
        go_wp2_with fail
        go_roundg (l.length - (i + 1))
        case measure => omega
        case rel => exact ⟨i + 1, by omega, by go_num, by simp, by rw [HQ.out], rfl⟩
    · obtain rfl : i = l.length := by omega
      rw [← HPL.out]
      go_wp2_with fail
      go_ret
      exact ⟨rfl, rfl⟩

set_option maxHeartbeats 1000000 in
theorem rowner_any (a : Option Addr) (cap : Nat) (l : List Ar) (p : Int) (w : World) (hf : AsAt w a cap l) :
    Calls Try.prog 81 #[.slice a l.length cap, .int .u32 p] w fun e w' => e = .returned (.int .i64 (ownerA l p)) ∧ Drew w w' := by
  have hm := rmay_any a cap l w hf
  by_cases h1 : May l
  case neg =>
    rw [decide_eq_false h1] at hm
    rw [show ownerA l p = -1 from if_neg h1]
    clear hf h1
    go_enter Try.func81, Try.ntmps81
    go_wp2_with (go_at_call 80; refine hm.mono ?_; rintro e w1 ⟨rfl, hd⟩; have HD := Lib.hid hd; clear hd)
    go_ret
    exact ⟨rfl, HD.out⟩
  rw [decide_eq_true h1] at hm
  have hlt := place_lt h1.1 p
  rw [show ownerA l p = (l[placeF l p]'hlt).s by unfold ownerA; rw [if_pos h1, owner_in h1.1]]
  have hlti : ((placeF l p : Nat) : Int) < (l.length : Int) := by omega
  have h0i : (0 : Int) ≤ ((placeF l p : Nat) : Int) := by omega
  have HF := Lib.hid hf
  have HP := Lib.hid fun (wx : World) (hx : AsAt wx a cap l) => place_any a cap l p wx hx h1
  clear hf h1
  go_enter Try.func81, Try.ntmps81
  go_wp2_with (first | (go_at_call 80; refine hm.mono ?_; rintro e w1 ⟨rfl, hd⟩; have HD := Lib.hid hd; have HF1 := Lib.hid (HF.out.below hd.below); clear hd) | (go_at_call 115; refine (HP.out w1 HF1.out).mono ?_; rintro e w2 ⟨rfl, rfl⟩; obtain ⟨b, o, rfl, c0, c1⟩ := AsAt.get HF1.out (placeF l p) hlt))
  go_ret
  exact ⟨rfl, HD.out⟩

end Go.Proofs.Ythohjcfpobeplaa.Rg

namespace Go.Proofs.Ythohjcfpobeplaa.Sh
open Go.RowKit Rg Go.Sort
set_option linter.unusedVariables false
set_option linter.unusedSimpArgs false

/-- has k this key's point? -/
def partF (l : List Ar) (k : Int) (key : List UInt8) : Bool := ownerA l (ofB key) == k
def partC (s : Sd) (l : List Ar) : Int := if ¬ (MaySd s ∧ May l) then 1 else if ¬ (s.fr = true ∧ s.hd = []) then 7 else 0
def partS (s : Sd) (l : List Ar) (k : Int) : Sd :=
  if partC s l = 0 then ⟨false, s.nx, s.rd.filter (fun m => partF l k m.key), [], s.ms.filter (fun m => partF l k m.key)⟩ else s
theorem partC_arg {s : Sd} {l : List Ar} (k : Int) (h : ¬ (MaySd s ∧ May l)) : partC s l = 1 ∧ partS s l k = s := by
  have h1 : partC s l = 1 := by unfold partC; rw [if_pos h]
  exact ⟨h1, by unfold partS; rw [if_neg (by rw [h1]; decide)]⟩
theorem partC_state {s : Sd} {l : List Ar} (k : Int) (h : MaySd s) (h' : May l) (h2 : ¬ (s.fr = true ∧ s.hd = [])) : partC s l = 7 ∧ partS s l k = s := by
  have h1 : partC s l = 7 := by unfold partC; rw [if_neg (fun g => g ⟨h, h'⟩), if_pos h2]
  exact ⟨h1, by unfold partS; rw [if_neg (by rw [h1]; decide)]⟩
theorem partC_ok {s : Sd} {l : List Ar} (k : Int) (h : MaySd s) (h' : May l) (h2 : s.fr = true) (h3 : s.hd = []) : partC s l = 0 ∧ partS s l k = ⟨false, s.nx, s.rd.filter (fun m => partF l k m.key), [], s.ms.filter (fun m => partF l k m.key)⟩ := by
  have h1 : partC s l = 0 := by unfold partC; rw [if_neg (fun g => g ⟨h, h'⟩), if_neg (fun g => g ⟨h2, h3⟩)]
  exact ⟨h1, by unfold partS; rw [if_pos h1]⟩
theorem filter_snoc {α : Type} (p : α → Bool) (l : List α) (i : Nat) (h : i < l.length) : (l.take (i + 1)).filter p = if p l[i] = true then (l.take i).filter p ++ [l[i]] else (l.take i).filter p := by
  rw [List.take_succ_eq_append_getElem h, List.filter_append]
  by_cases hp : p l[i] = true
  · rw [if_pos hp]; simp [hp]
  · rw [if_neg hp]; simp [hp]
theorem filter_len {α : Type} (p : α → Bool) (l : List α) (i : Nat) : ((l.take i).filter p).length ≤ l.length :=
  Nat.le_trans (List.length_filter_le _ _) (by simp; omega)

/-- a row in a box's cell is put on. -/
theorem push_box {α : Type} {k : Nat} {f : α → List Value} {E : TypeId} {w w' : World} {g B i : Nat} {cs : Array Value} {t : TypeId} {fr : Nat × Nat} {v v' : Value} {l l' : List α}
    (hx : w.heap[g]? = some (.cells cs t fr)) (hB : g < B) (hBw : B ≤ w.heap.size) (ho : OwnE k f E w B v l) (ho' : OwnE k f E w' B v' l') (hg : w.grownBy w' v.ownBlock) :
    w'.heap[g]? = some (.cells cs t fr) ∧ (w'.setCell ⟨g, i, none⟩ v').heap[g]? = some (.cells (cs.setIfInBounds i v') t fr) ∧ OwnE k f E (w'.setCell ⟨g, i, none⟩ v') B v' l' ∧ Below g w (w'.setCell ⟨g, i, none⟩ v') := by
  have hgl := (Array.getElem?_eq_some_iff.1 hx).1
  have hb : Below B w w' := OwnE.grown (Below.refl _ _) ho hg hBw
  have h1 : w'.heap[g]? = some (.cells cs t fr) := (hg.block g hgl (fun e => by have := (World.ownsRow.lt ho g e.symm).1; omega)).trans hx
  exact ⟨h1, set_heap h1 i _, OwnE.kept ho' fun b hb _ => Below.heap_setCell w' ⟨g, i, none⟩ _ b (by show b ≠ g; omega), low_set (hb.mono (Nat.le_of_lt hB)) (Nat.le_refl _)⟩

theorem box3m {w : World} {g : Nat} {x y z : Value} {t : TypeId} (h : w.heap[g]? = some (.cells #[x, y, z] t (0, 0))) :
    w.cell? ⟨g, 0, none⟩ = some x ∧ w.cell? ⟨g, 1, none⟩ = some y ∧ w.cell? ⟨g, 2, none⟩ = some z := by
  refine ⟨?_, ?_, ?_⟩
  all_goals rw [cell_of_row w _ _ _ _ _ h]; rfl

set_option maxHeartbeats 1000000 in
theorem owns_any (la : Option Addr) (lc : Nat) (l : List Ar) (k : Int) (key : List UInt8) (hk : key.length ≤ 1000) (w : World) (hf : AsAt w la lc l) :
    Calls Try.prog 79 #[.slice la l.length lc, .int .i64 k, .string ⟨key.toArray⟩] w fun e w' => e = .returned (.bool (partF l k key)) ∧ Drew w w' := by
  have h1 := fun wx => of_any ⟨key.toArray⟩ (by show key.toArray.size ≤ maxLen; unfold maxLen; simp; omega) wx
  have h2 := owner_any la lc l (ofB key) w hf
  simp only at h1
  have HQ : Hid (partF l k key = (ownerA l (ofB key) == k)) := Lib.hid rfl
  generalize ofB key = p at *
  generalize ownerA l p = q at *
  clear hf hk
  go_enter Try.func79, Try.ntmps79
  go_wp2_with (first | (go_at_call 45; refine (h1 _).mono ?_; rintro e w1 ⟨rfl, rfl⟩) | (go_at_call 44; refine h2.mono ?_; rintro e w2 ⟨rfl, hd⟩; have HD := Lib.hid hd; clear hd))
  go_ret
  exact ⟨by rw [HQ.out]; rfl, HD.out⟩

end Go.Proofs.Ythohjcfpobeplaa.Sh

namespace Go.Proofs.Ythohjcfpobeplaa.Sh
open Go.RowKit Rg Go.Sort
set_option linter.unusedVariables false
set_option linter.unusedSimpArgs false

def partRel1 (W : World) (s : Sd) (p : Mg → Bool) (g : Nat) (m : Nat) (v40 : Value) (wr : World) : Prop :=
  ∃ (i : Nat) (r : List Mg) (xr : Option Addr) (cr : Nat), i ≤ s.rd.length ∧ v40 = .int .i64 i ∧ m = s.rd.length - i ∧ r = (s.rd.take i).filter p ∧ Below g W wr ∧ g < wr.heap.size ∧
    wr.heap[g]? = some (.cells #[.bool false, .int .i64 s.nx, .slice xr r.length cr, .slice none 0 0, .slice none 0 0] 26 (0, 0)) ∧ OwnG wr (g + 1) (.slice xr r.length cr) r
def partRel2 (W : World) (s : Sd) (r : List Mg) (xr : Option Addr) (cr : Nat) (p : Mk → Bool) (g : Nat) (m : Nat) (v59 : Value) (wr : World) : Prop :=
  ∃ (i : Nat) (q : List Mk) (xm : Option Addr) (cm : Nat), i ≤ s.ms.length ∧ v59 = .int .i64 i ∧ m = s.ms.length - i ∧ q = (s.ms.take i).filter p ∧ Below g W wr ∧ g < wr.heap.size ∧
    wr.heap[g]? = some (.cells #[.bool false, .int .i64 s.nx, .slice xr r.length cr, .slice none 0 0, .slice xm q.length cm] 26 (0, 0)) ∧ OwnG wr (g + 1) (.slice xr r.length cr) r ∧ OwnK wr (g + 1) (.slice xm q.length cm) q

set_option maxRecDepth 100000 in
set_option maxHeartbeats 4000000 in
theorem part_any (s : Sd) (ra : Option Addr) (rc : Nat) (ha : Option Addr) (hc : Nat) (ma : Option Addr) (mc : Nat) (la : Option Addr) (lc : Nat) (l : List Ar) (k : Int) (w : World) (hs : SdAt w ra rc ha hc ma mc s) (hf : AsAt w la lc l) :
    Calls Try.prog 31 #[.agg #[.bool s.fr, .int .i64 s.nx, .slice ra s.rd.length rc, .slice ha s.hd.length hc, .slice ma s.ms.length mc], .slice la l.length lc, .int .i64 k] w (ShO (partS s l k) (partC s l) w) := by
  obtain ⟨hx, hy, hb0, hWs⟩ := two_box (w := w) (.cells #[.bool s.fr, .int .i64 s.nx, .slice ra s.rd.length rc, .slice ha s.hd.length hc, .slice ma s.ms.length mc] 26) (.cells #[.bool false, .int .i64 0, .slice none 0 0, .slice none 0 0, .slice none 0 0] 26)
  obtain ⟨W, hW⟩ : ∃ W, W = (w.alloc (.cells #[.bool s.fr, .int .i64 s.nx, .slice ra s.rd.length rc, .slice ha s.hd.length hc, .slice ma s.ms.length mc] 26)).alloc (.cells #[.bool false, .int .i64 0, .slice none 0 0, .slice none 0 0, .slice none 0 0] 26) := ⟨_, rfl⟩
  rw [← hW] at hx hy hb0 hWs
  have HBX := Lib.hid (boxes ra rc ha hc ma mc hx hy (by omega))
  have HB0 := Lib.hid hb0
  have HWS := Lib.hid hWs
  have HS1 := Lib.hid (hs.below ra rc ha hc ma mc hb0)
  have HSM := Lib.hid hs.sm
  have HF := Lib.hid (hf.below hb0)
  have HW := Lib.hid hW
  have HMAY := Lib.hid (may_any s ra rc ha hc ma mc W HS1.out)
  rw [hW] at HMAY
  have HRM := Lib.hid fun wx (hx : Below W.heap.size W wx) => Rg.may_any la lc l wx (HF.out.below hx)
  have HOWN := Lib.hid fun wx (hx : Below W.heap.size W wx) => own2_any s ra rc ha hc ma mc wx (HS1.out.below _ _ _ _ _ _ hx)
  clear hs hf hx hy hb0 hWs hW
  by_cases h1 : MaySd s
  case neg =>
    have HR := Lib.hid (partC_arg (l := l) k (fun h => h1 h.1))
    rw [decide_eq_false h1] at HMAY
    clear h1
    go_enter Try.func31, Try.ntmps31
    go_wp2_with (first | (go_at_call 24; refine HMAY.out.mono ?_; rintro e w1 ⟨rfl, hb1⟩; rw [← HW.out] at hb1; have HB1 := Lib.hid hb1; obtain ⟨⟨c0, c1, c2, c3, c4⟩, -⟩ := box5 (HBX.out _ hb1).1; clear hb1) | (go_at_call 64; refine (HOWN.out _ HB1.out).mono ?_; rintro e w2 ⟨ra2, rc2, ha2, hc2, ma2, mc2, rfl, ho2, hb2⟩; have HO2 := Lib.hid ho2; have HB2 := Lib.hid (HB1.out.trans (hb2.mono HB1.out.size)); obtain ⟨⟨d0, d1, d2, d3, d4⟩, f0, f1, f2, f3, f4⟩ := box5 (HBX.out _ HB2.out).2; obtain ⟨-, k0, k1, k2, k3, k4⟩ := box5 (HBX.out _ HB2.out).1; clear ho2 hb2))
    refine bodyPost_ret (v := .tuple #[.agg #[.bool s.fr, .int .i64 s.nx, .slice ra2 s.rd.length rc2, .slice ha2 s.hd.length hc2, .slice ma2 s.ms.length mc2], .int .i64 1]) (res_sd (i := 6) (j := 7) (g := w.heap.size + 1) Try.results31 rfl rfl (set5_box (HBX.out _ HB2.out).2 _ _ _ _ _)) rfl ?_
    rw [HR.out.1, HR.out.2]
    have hsz := HWS.out
    have hs1 := HB1.out.size
    refine sho_of _ _ _ _ _ _ (HO2.out.kept ?_) (by omega) HSM.out ?_
    · repeat (refine far_set ?_ (by omega))
      exact fun _ _ => rfl
    · repeat (refine low_set ?_ (by omega))
      exact HB0.out.trans (HB2.out.mono HB0.out.size)
  rw [decide_eq_true h1] at HMAY
  by_cases h2 : May l
  case neg =>
    have HR := Lib.hid (partC_arg (s := s) k (fun h => h2 h.2))
    have HRB : Hid (decide (May l) = false) := Lib.hid (decide_eq_false h2)
    clear h1 h2
    go_enter Try.func31, Try.ntmps31
    go_wp2_with (first | (go_at_call 24; refine HMAY.out.mono ?_; rintro e w1 ⟨rfl, hb1⟩; rw [← HW.out] at hb1; have HB1 := Lib.hid hb1; clear hb1) | (go_at_call 43; refine (HRM.out _ HB1.out).mono ?_; rintro e w3 ⟨rfl, hd⟩; rw [HRB.out]; have HB1' := HB1; clear HB1; have HB1 := Lib.hid (HB1'.out.trans (hd.below.mono HB1'.out.size)); obtain ⟨⟨c0, c1, c2, c3, c4⟩, -⟩ := box5 (HBX.out _ HB1.out).1; clear hd HB1') | (go_at_call 64; refine (HOWN.out _ HB1.out).mono ?_; rintro e w2 ⟨ra2, rc2, ha2, hc2, ma2, mc2, rfl, ho2, hb2⟩; have HO2 := Lib.hid ho2; have HB2 := Lib.hid (HB1.out.trans (hb2.mono HB1.out.size)); obtain ⟨⟨d0, d1, d2, d3, d4⟩, f0, f1, f2, f3, f4⟩ := box5 (HBX.out _ HB2.out).2; obtain ⟨-, k0, k1, k2, k3, k4⟩ := box5 (HBX.out _ HB2.out).1; clear ho2 hb2))
    refine bodyPost_ret (v := .tuple #[.agg #[.bool s.fr, .int .i64 s.nx, .slice ra2 s.rd.length rc2, .slice ha2 s.hd.length hc2, .slice ma2 s.ms.length mc2], .int .i64 1]) (res_sd (i := 6) (j := 7) (g := w.heap.size + 1) Try.results31 rfl rfl (set5_box (HBX.out _ HB2.out).2 _ _ _ _ _)) rfl ?_
    rw [HR.out.1, HR.out.2]
    have hsz := HWS.out
    have hs1 := HB1.out.size
    refine sho_of _ _ _ _ _ _ (HO2.out.kept ?_) (by omega) HSM.out ?_
    · repeat (refine far_set ?_ (by omega))
      exact fun _ _ => rfl
    · repeat (refine low_set ?_ (by omega))
      exact HB0.out.trans (HB2.out.mono HB0.out.size)
  have HRB : Hid (decide (May l) = true) := Lib.hid (decide_eq_true h2)
  by_cases h3 : s.fr = true ∧ s.hd = []
  case neg =>
    have HR := Lib.hid (partC_state k h1 h2 h3)
    have h4 : s.fr = false ∨ (s.fr = true ∧ (0 : Int) < (s.hd.length : Int)) := by
      cases hq : s.fr with
      | false => exact .inl rfl
      | true => exact .inr ⟨rfl, by have : s.hd ≠ [] := fun g => h3 ⟨hq, g⟩; have := List.length_pos_iff.2 this; omega⟩
    clear h1 h2 h3
    rcases h4 with h4 | ⟨h4, h5⟩
    all_goals
      have HFR := Lib.hid h4
      clear h4
      go_enter Try.func31, Try.ntmps31
      go_wp2_with (first | (go_at_call 24; refine HMAY.out.mono ?_; rintro e w1 ⟨rfl, hb1⟩; rw [← HW.out] at hb1; have HB1 := Lib.hid hb1; clear hb1) | (go_at_call 43; refine (HRM.out _ HB1.out).mono ?_; rintro e w3 ⟨rfl, hd⟩; rw [HRB.out]; have HB1' := HB1; clear HB1; have HB1 := Lib.hid (HB1'.out.trans (hd.below.mono HB1'.out.size)); obtain ⟨⟨c0, c1, c2, c3, c4⟩, -⟩ := box5 (HBX.out _ HB1.out).1; rw [HFR.out] at c0; clear hd HB1') | (go_at_call 64; rw [← HFR.out]; refine (HOWN.out _ HB1.out).mono ?_; rintro e w2 ⟨ra2, rc2, ha2, hc2, ma2, mc2, rfl, ho2, hb2⟩; have HO2 := Lib.hid ho2; have HB2 := Lib.hid (HB1.out.trans (hb2.mono HB1.out.size)); obtain ⟨⟨d0, d1, d2, d3, d4⟩, f0, f1, f2, f3, f4⟩ := box5 (HBX.out _ HB2.out).2; obtain ⟨-, k0, k1, k2, k3, k4⟩ := box5 (HBX.out _ HB2.out).1; clear ho2 hb2))
      refine bodyPost_ret (v := .tuple #[.agg #[.bool s.fr, .int .i64 s.nx, .slice ra2 s.rd.length rc2, .slice ha2 s.hd.length hc2, .slice ma2 s.ms.length mc2], .int .i64 7]) (res_sd (i := 6) (j := 7) (g := w.heap.size + 1) Try.results31 rfl rfl (set5_box (HBX.out _ HB2.out).2 _ _ _ _ _)) rfl ?_
      rw [HR.out.1, HR.out.2]
      have hsz := HWS.out
      have hs1 := HB1.out.size
      refine sho_of _ _ _ _ _ _ (HO2.out.kept ?_) (by omega) HSM.out ?_
      · repeat (refine far_set ?_ (by omega))
        exact fun _ _ => rfl
      · repeat (refine low_set ?_ (by omega))
        exact HB0.out.trans (HB2.out.mono HB0.out.size)
  obtain ⟨h3, h4⟩ := h3
  have HR := Lib.hid (partC_ok k h1 h2 h3 h4)
  have HRK : Hid (∀ m ∈ s.rd, m.key.length ≤ 1000) := Lib.hid fun m hm => by
    have := (h1.2.2.2.2.2.2.2.2.2.1 m (List.mem_append_right _ hm)).1.1.2.2.2.2.2
    omega
  have HMK : Hid (∀ m ∈ s.ms, m.key.length ≤ 1000) := Lib.hid fun m hm => by
    have := (h1.2.2.2.2.1 m hm).2.2.2.2.2
    omega
  have HL48 : Hid (s.rd.length ≤ 48) := Lib.hid (by have := h1.2.2.1; omega)
  have HL64 : Hid (s.ms.length ≤ 64) := Lib.hid h1.2.2.2.1
  have HFR := Lib.hid h3
  have hhd : s.hd.length = 0 := by rw [h4]; rfl
  have HHD := Lib.hid h4
  have HHL := Lib.hid hhd
  clear h1 h2 h3 h4 hhd
  go_enter Try.func31, Try.ntmps31
  go_wp2_with (first | (go_at_call 24; refine HMAY.out.mono ?_; rintro e w1 ⟨rfl, hb1⟩; rw [← HW.out] at hb1; have HB1 := Lib.hid hb1; clear hb1) | (go_at_call 43; refine (HRM.out _ HB1.out).mono ?_; rintro e w3 ⟨rfl, hd⟩; rw [HRB.out]; have HB1' := HB1; clear HB1; have HB1 := Lib.hid (HB1'.out.trans (hd.below.mono HB1'.out.size)); obtain ⟨⟨c0, c1, c2, c3, c4⟩, -⟩ := box5 (HBX.out _ HB1.out).1; rw [HFR.out] at c0; rw [HHL.out] at c3; have n0 : w.heap.size < w3.heap.size := (by have := HWS.out; have := HB1.out.size; omega); have n1 : ¬ w.heap.size = w3.heap.size := (by omega); clear hd HB1'))
  obtain ⟨t1, t2, t3⟩ := one_box (w := w3) (.cells #[.bool false, .int .i64 s.nx, .slice none 0 0, .slice none 0 0, .slice none 0 0] 26)
  generalize w3.alloc (.cells #[.bool false, .int .i64 s.nx, .slice none 0 0, .slice none 0 0, .slice none 0 0] 26) = W3 at *
  have HT2 := Lib.hid t2
  have HT3 := Lib.hid t3
  have HT1 := Lib.hid t1
  have HUP := Lib.hid (fun (wx : World) (h : Below w3.heap.size w3 wx) => HB1.out.trans (h.mono HB1.out.size))
  clear t1 t2 t3 c0 c1 c2 c3 c4
  go_loopg [40] s.rd.length (partRel1 w3 s (fun m => partF l k m.key) w3.heap.size)
  case atStart => exact ⟨0, [], none, 0, Nat.zero_le _, rfl, rfl, rfl, HT2.out, by have := HT3.out; omega, HT1.out, OwnE.nil _ _ _ _ _⟩
  case round =>
    obtain ⟨i, r, xr, cr, hi, rfl, rfl, hr, hb, hgs, hx, ho⟩ := hrel
    have HR1 := Lib.hid hr
    have HB := Lib.hid hb
    have HGS := Lib.hid hgs
    have HX := Lib.hid hx
    have HO := Lib.hid ho
    clear hr hb hgs hx ho HT1 HT2
    by_cases hlt : i < s.rd.length
    case pos =>
      have hlti : (i : Int) < (s.rd.length : Int) := by omega
      have h0i : (0 : Int) ≤ (i : Int) := by omega
      have hw1 : IntKind.i64.wrap ((i : Int) + 1) = (i : Int) + 1 := IntWalk.i64_in _ (by have := HL48.out; omega)
      obtain ⟨sb, so, rfl, z0, z1, z2, z3, z4⟩ := MgsAt.get (HS1.out.below _ _ _ _ _ _ (HUP.out _ HB.out)).rd i hlt
      have HSN := Lib.hid (filter_snoc (fun m : Mg => partF l k m.key) s.rd i hlt)
      have HKL := Lib.hid (HRK.out _ (List.getElem_mem hlt))
      have HRL : Hid (r.length ≤ 48) := Lib.hid (by rw [HR1.out]; exact Nat.le_trans (filter_len _ _ _) HL48.out)
      generalize s.rd[i] = x at *
      obtain ⟨t1, t2, t3⟩ := one_box (w := wr) (.cells #[.int .i64 x.pub, .int .i64 x.seq, .string ⟨x.key.toArray⟩, .string ⟨x.body.toArray⟩, .bool x.again] 35)
      have HB4 := Lib.hid (HB.out.trans (t2.mono HB.out.size))
      have HT2 := Lib.hid t2
      have HOW := Lib.hid (owns_any la lc l k x.key HKL.out _ (HF.out.below (HUP.out _ HB4.out)))
      have HX4 := Lib.hid (box_bl HX.out t2)
      have HM4 := Lib.hid t1
      have HO4 := Lib.hid (HO.out.below1 t2)
      clear t1 t2 t3
      cases hq : partF l k x.key with
      | false =>
        have HQ := Lib.hid hq
        clear hq
        go_wp2_with (go_at_call 79; refine HOW.out.mono ?_; rintro e w5 ⟨rfl, hd⟩; rw [HQ.out]; have HD := Lib.hid hd.below; clear hd)
        go_roundg (s.rd.length - (i + 1))
        case measure => omega
        case rel => exact ⟨i + 1, r, xr, cr, by omega, by go_num, by simp, by rw [HSN.out, HQ.out, HR1.out]; rfl, HB4.out.trans (HD.out.mono HB4.out.size), Nat.lt_of_lt_of_le HGS.out (Nat.le_trans HT2.out.size HD.out.size), box_bl HX4.out HD.out, HO4.out.below1 HD.out⟩
      | true =>
        have HQ := Lib.hid hq
        clear hq
        go_wp2_with (first | (go_at_call 79; refine HOW.out.mono ?_; rintro e w5 ⟨rfl, hd⟩; rw [HQ.out]; have HD := Lib.hid hd.below; have HX5 := Lib.hid (box_bl HX4.out hd.below); have HO5 := Lib.hid (HO4.out.below1 hd.below); have hm5 := box_bl HM4.out hd.below; obtain ⟨⟨y0, y1, y2, y3, y4⟩, -⟩ := box5 HX5.out; obtain ⟨⟨u0, u1, u2, u3, u4⟩, -⟩ := box5 hm5; have hgs5 : w3.heap.size + 1 ≤ w5.heap.size := (Nat.lt_of_lt_of_le HGS.out (Nat.le_trans HT2.out.size hd.below.size)); have HG5 := Lib.hid hgs5; clear hd hm5 hgs5) |
          (at_builtin; refine put_one mgE (base := w3.heap.size + 1) x rfl (.tmp 50) (.tmp 52) rfl HO5.out HG5.out (by have := HRL.out; omega) _ rfl rfl _ rfl rfl ?_; intro v6 w6 hown6 hg6; obtain ⟨xr6, cr6, rfl, -, -⟩ := OwnE.at mgE hown6; rw [show (r ++ [x]).length = r.length + 1 from List.length_append] at hown6; obtain ⟨p1, p2, p3, p4⟩ := push_box (i := 2) HX5.out (Nat.lt_succ_self _) HG5.out HO5.out hown6 hg6; obtain ⟨⟨j0, j1, j2, j3, j4⟩, f0, f1, f2, f3, f4⟩ := box5 p1; have HP2 := Lib.hid p2; have HP3 := Lib.hid p3; have HP4 := Lib.hid p4; have hsz6 := (Array.getElem?_eq_some_iff.1 p2).1; have HS6 := Lib.hid hsz6; clear p1 p2 p3 p4 hown6 hg6 hsz6))
        go_roundg (s.rd.length - (i + 1))
        case measure => omega
        case rel => exact ⟨i + 1, r ++ [x], xr6, cr6, by omega, by go_num, by simp, by rw [HSN.out, HQ.out, HR1.out]; rfl, (HB4.out.trans (HD.out.mono HB4.out.size)).trans HP4.out, HS6.out, by rw [List.length_append]; exact HP2.out, by rw [List.length_append]; exact HP3.out⟩
    case neg =>
      obtain rfl : i = s.rd.length := by omega
      have hlti : ¬ (s.rd.length : Int) < (s.rd.length : Int) := by omega
      have hr9 : r = s.rd.filter (fun m => partF l k m.key) := by have := HR1.out; rwa [List.take_length] at this
      have HR9 := Lib.hid hr9
      have HRL : Hid (r.length ≤ 48) := Lib.hid (by rw [hr9]; exact Nat.le_trans (List.length_filter_le _ _) HL48.out)
      obtain ⟨⟨c0, c1, c2, c3, c4⟩, -⟩ := box5 (HBX.out _ (HUP.out _ HB.out)).1
      clear hr9 HR1
      go_wp2_with fail
      go_loopg [59] s.ms.length (partRel2 w3 s r xr cr (fun m => partF l k m.key) w3.heap.size)
      case atStart => exact ⟨0, [], none, 0, Nat.zero_le _, rfl, rfl, rfl, HB.out, HGS.out, HX.out, HO.out, OwnE.nil _ _ _ _ _⟩
      case round =>
        clear c0 c1 c2 c3 c4
        obtain ⟨i, q, xm, cm, hi, rfl, rfl, hr, hb, hgs, hx, ho, hk⟩ := hrel
        clear HB HGS HX HO
        have HR1 := Lib.hid hr
        have HB := Lib.hid hb
        have HGS := Lib.hid hgs
        have HX := Lib.hid hx
        have HO := Lib.hid ho
        have HK := Lib.hid hk
        clear hr hb hgs hx ho hk
        by_cases hlt : i < s.ms.length
        case pos =>
          have hlti : (i : Int) < (s.ms.length : Int) := by omega
          have h0i : (0 : Int) ≤ (i : Int) := by omega
          have hw1 : IntKind.i64.wrap ((i : Int) + 1) = (i : Int) + 1 := IntWalk.i64_in _ (by have := HL64.out; omega)
          obtain ⟨sb, so, rfl, z0, z1, z2⟩ := MksAt.get (HS1.out.below _ _ _ _ _ _ (HUP.out _ HB.out)).ms i hlt
          have HSN := Lib.hid (filter_snoc (fun m : Mk => partF l k m.key) s.ms i hlt)
          have HKL := Lib.hid (HMK.out _ (List.getElem_mem hlt))
          have HQL : Hid (q.length ≤ 64) := Lib.hid (by rw [HR1.out]; exact Nat.le_trans (filter_len _ _ _) HL64.out)
          generalize s.ms[i] = x at *
          obtain ⟨t1, t2, t3⟩ := one_box (w := wr) (.cells #[.int .i64 x.pub, .string ⟨x.key.toArray⟩, .int .i64 x.seq] 93)
          have HB4 := Lib.hid (HB.out.trans (t2.mono HB.out.size))
          have HT2 := Lib.hid t2
          have HOW := Lib.hid (owns_any la lc l k x.key HKL.out _ (HF.out.below (HUP.out _ HB4.out)))
          have HX4 := Lib.hid (box_bl HX.out t2)
          have HM4 := Lib.hid t1
          have HO4 := Lib.hid (HO.out.below1 t2)
          have HK4 := Lib.hid (HK.out.below1 t2)
          clear t1 t2 t3
          cases hq : partF l k x.key with
          | false =>
            have HQ := Lib.hid hq
            clear hq
            go_wp2_with (go_at_call 79; refine HOW.out.mono ?_; rintro e w5 ⟨rfl, hd⟩; rw [HQ.out]; have HD := Lib.hid hd.below; clear hd)
            go_roundg (s.ms.length - (i + 1))
            case measure => omega
            case rel => exact ⟨i + 1, q, xm, cm, by omega, by go_num, by simp, by rw [HSN.out, HQ.out, HR1.out]; rfl, HB4.out.trans (HD.out.mono HB4.out.size), Nat.lt_of_lt_of_le HGS.out (Nat.le_trans HT2.out.size HD.out.size), box_bl HX4.out HD.out, HO4.out.below1 HD.out, HK4.out.below1 HD.out⟩
          | true =>
            have HQ := Lib.hid hq
            clear hq
            go_wp2_with (first | (go_at_call 79; refine HOW.out.mono ?_; rintro e w5 ⟨rfl, hd⟩; rw [HQ.out]; have HD := Lib.hid hd.below; have HX5 := Lib.hid (box_bl HX4.out hd.below); have HO5 := Lib.hid (HO4.out.below1 hd.below); have HK5 := Lib.hid (HK4.out.below1 hd.below); have hm5 := box_bl HM4.out hd.below; obtain ⟨⟨y0, y1, y2, y3, y4⟩, -⟩ := box5 HX5.out; obtain ⟨u0, u1, u2⟩ := box3m hm5; have hgs5 : w3.heap.size + 1 ≤ w5.heap.size := (Nat.lt_of_lt_of_le HGS.out (Nat.le_trans HT2.out.size hd.below.size)); have HG5 := Lib.hid hgs5; clear hd hm5 hgs5) |
              (at_builtin; refine put_one mkE (base := w3.heap.size + 1) x rfl (.tmp 69) (.tmp 71) rfl HK5.out HG5.out (by have := HQL.out; omega) _ rfl rfl _ rfl rfl ?_; intro v6 w6 hown6 hg6; obtain ⟨xk6, ck6, rfl, -, -⟩ := OwnE.at mkE hown6; rw [show (q ++ [x]).length = q.length + 1 from List.length_append] at hown6; have HO6 := OwnE.other HK5.out HO5.out (by decide) hg6; obtain ⟨p1, p2, p3, p4⟩ := push_box (i := 4) HX5.out (Nat.lt_succ_self _) HG5.out HK5.out hown6 hg6; obtain ⟨⟨j0, j1, j2, j3, j4⟩, f0, f1, f2, f3, f4⟩ := box5 p1; have HP2 := Lib.hid p2; have HP3 := Lib.hid p3; have HP4 := Lib.hid p4; have HP5 := Lib.hid (OwnE.kept HO6 (w' := w6.setCell ⟨w3.heap.size, 4, none⟩ (.slice xk6 (q.length + 1) ck6)) fun b hb _ => Below.heap_setCell w6 ⟨w3.heap.size, 4, none⟩ _ b (by show b ≠ w3.heap.size; omega)); have hsz6 := (Array.getElem?_eq_some_iff.1 p2).1; have HS6 := Lib.hid hsz6; clear p1 p2 p3 p4 HO6 hown6 hg6 hsz6))
            go_roundg (s.ms.length - (i + 1))
            case measure => omega
            case rel => exact ⟨i + 1, q ++ [x], xk6, ck6, by omega, by go_num, by simp, by rw [HSN.out, HQ.out, HR1.out]; rfl, (HB4.out.trans (HD.out.mono HB4.out.size)).trans HP4.out, HS6.out, by rw [List.length_append]; exact HP2.out, HP5.out, by rw [List.length_append]; exact HP3.out⟩
        case neg =>
          obtain rfl : i = s.ms.length := by omega
          have hlti : ¬ (s.ms.length : Int) < (s.ms.length : Int) := by omega
          have hr9 : q = s.ms.filter (fun m => partF l k m.key) := by have := HR1.out; rwa [List.take_length] at this
          have HR10 := Lib.hid hr9
          obtain ⟨⟨y0, y1, y2, y3, y4⟩, -⟩ := box5 HX.out
          obtain ⟨⟨d0, d1, d2, d3, d4⟩, f0, f1, f2, f3, f4⟩ := box5 (HBX.out _ (HUP.out _ HB.out)).2
          clear hr9 HR1
          go_wp2_with fail
          refine bodyPost_ret (v := .tuple #[.agg #[.bool false, .int .i64 s.nx, .slice xr r.length cr, .slice none 0 0, .slice xm q.length cm], .int .i64 0]) (res_sd (i := 6) (j := 7) (g := w.heap.size + 1) Try.results31 rfl rfl (set5_box (HBX.out _ (HUP.out _ HB.out)).2 _ _ _ _ _)) rfl ?_
          rw [HR.out.1, HR.out.2, ← HR9.out, ← HR10.out]
          have h1s := HB1.out.size
          have hws := HWS.out
          have hq9 : q.length ≤ 64 := by rw [HR10.out]; exact Nat.le_trans (List.length_filter_le _ _) HL64.out
          have hr9 := HRL.out
          refine sho_of (s' := ⟨false, s.nx, r, [], q⟩) xr cr none 0 xm cm (base := w3.heap.size + 1) (OwnS.kept (s := ⟨false, s.nx, r, [], q⟩) ⟨HO.out, OwnE.nil _ _ _ _ _, HK.out⟩ ?_) (by omega) ⟨by show r.length ≤ 1000; omega, by simp, by show q.length ≤ 1000; omega⟩ ?_
          · repeat (refine far_set ?_ (by omega))
            exact fun _ _ => rfl
          · repeat (refine low_set ?_ (by omega))
            exact HB0.out.trans ((HUP.out _ HB.out).mono HB0.out.size)
end Go.Proofs.Ythohjcfpobeplaa.Sh

namespace Go.Proofs.Ythohjcfpobeplaa.Sh
open Go.RowKit Rg Go.Sort
set_option linter.unusedVariables false
set_option linter.unusedSimpArgs false

def rpartRel1 (W : World) (s : Sd) (p : Mg → Bool) (g : Nat) (m : Nat) (v40 : Value) (wr : World) : Prop :=
  ∃ (i : Nat) (r : List Mg) (xr : Option Addr) (cr : Nat), i ≤ s.rd.length ∧ v40 = .int .i64 i ∧ m = s.rd.length - i ∧ r = (s.rd.take i).filter p ∧ Below g W wr ∧ g < wr.heap.size ∧
    wr.heap[g]? = some (.cells #[.bool false, .int .i64 s.nx, .slice xr r.length cr, .slice none 0 0, .slice none 0 0] 26 (0, 0)) ∧ OwnG wr (g + 1) (.slice xr r.length cr) r
def rpartRel2 (W : World) (s : Sd) (r : List Mg) (xr : Option Addr) (cr : Nat) (p : Mk → Bool) (g : Nat) (m : Nat) (v59 : Value) (wr : World) : Prop :=
  ∃ (i : Nat) (q : List Mk) (xm : Option Addr) (cm : Nat), i ≤ s.ms.length ∧ v59 = .int .i64 i ∧ m = s.ms.length - i ∧ q = (s.ms.take i).filter p ∧ Below g W wr ∧ g < wr.heap.size ∧
    wr.heap[g]? = some (.cells #[.bool false, .int .i64 s.nx, .slice xr r.length cr, .slice none 0 0, .slice xm q.length cm] 26 (0, 0)) ∧ OwnG wr (g + 1) (.slice xr r.length cr) r ∧ OwnK wr (g + 1) (.slice xm q.length cm) q

set_option maxRecDepth 100000 in
set_option maxHeartbeats 4000000 in
theorem rpart_any (s : Sd) (ra : Option Addr) (rc : Nat) (ha : Option Addr) (hc : Nat) (ma : Option Addr) (mc : Nat) (la : Option Addr) (lc : Nat) (l : List Ar) (k : Int) (w : World) (hs : SdAt w ra rc ha hc ma mc s) (hf : AsAt w la lc l) :
    Calls Try.prog 32 #[.agg #[.bool s.fr, .int .i64 s.nx, .slice ra s.rd.length rc, .slice ha s.hd.length hc, .slice ma s.ms.length mc], .slice la l.length lc, .int .i64 k] w (ShR (partS s l k) (partC s l) w) := by
  obtain ⟨hx, hy, hb0, hWs⟩ := two_box (w := w) (.cells #[.bool s.fr, .int .i64 s.nx, .slice ra s.rd.length rc, .slice ha s.hd.length hc, .slice ma s.ms.length mc] 26) (.cells #[.bool false, .int .i64 0, .slice none 0 0, .slice none 0 0, .slice none 0 0] 26)
  obtain ⟨W, hW⟩ : ∃ W, W = (w.alloc (.cells #[.bool s.fr, .int .i64 s.nx, .slice ra s.rd.length rc, .slice ha s.hd.length hc, .slice ma s.ms.length mc] 26)).alloc (.cells #[.bool false, .int .i64 0, .slice none 0 0, .slice none 0 0, .slice none 0 0] 26) := ⟨_, rfl⟩
  rw [← hW] at hx hy hb0 hWs
  have HBX := Lib.hid (boxes ra rc ha hc ma mc hx hy (by omega))
  have HB0 := Lib.hid hb0
  have HWS := Lib.hid hWs
  have HS1 := Lib.hid (hs.below ra rc ha hc ma mc hb0)
  have HSM := Lib.hid hs.sm
  have HF := Lib.hid (hf.below hb0)
  have HW := Lib.hid hW
  have HS0 := Lib.hid hs
  have HMAY := Lib.hid (rmay_any s ra rc ha hc ma mc W HS1.out)
  rw [hW] at HMAY
  have HRM := Lib.hid fun wx (hx : Below W.heap.size W wx) => Rg.rmay_any la lc l wx (HF.out.below hx)
  clear hs hf hx hy hb0 hWs hW
  by_cases h1 : MaySd s
  case neg =>
    have HR := Lib.hid (partC_arg (l := l) k (fun h => h1 h.1))
    rw [decide_eq_false h1] at HMAY
    clear h1
    go_enter Try.func32, Try.ntmps32
    go_wp2_with (go_at_call 25; refine HMAY.out.mono ?_; rintro e w1 ⟨rfl, hb1⟩; rw [← HW.out] at hb1; have HB1 := Lib.hid hb1; obtain ⟨⟨c0, c1, c2, c3, c4⟩, -⟩ := box5 (HBX.out _ HB1.out).1; obtain ⟨⟨d0, d1, d2, d3, d4⟩, f0, f1, f2, f3, f4⟩ := box5 (HBX.out _ HB1.out).2; clear hb1)
    refine bodyPost_ret (v := .tuple #[.agg #[.bool s.fr, .int .i64 s.nx, .slice ra s.rd.length rc, .slice ha s.hd.length hc, .slice ma s.ms.length mc], .int .i64 1]) (res_sd (i := 6) (j := 7) (g := w.heap.size + 1) Try.results32 rfl rfl (set5_box (HBX.out _ HB1.out).2 _ _ _ _ _)) rfl ?_
    rw [HR.out.1, HR.out.2]
    exact shr_same _ _ _ _ _ _ _ _ _ _ _ _ HS0.out (HB0.out.trans (HB1.out.mono HB0.out.size))
  rw [decide_eq_true h1] at HMAY
  by_cases h2 : May l
  case neg =>
    have HR := Lib.hid (partC_arg (s := s) k (fun h => h2 h.2))
    have HRB : Hid (decide (May l) = false) := Lib.hid (decide_eq_false h2)
    clear h1 h2
    go_enter Try.func32, Try.ntmps32
    go_wp2_with (first | (go_at_call 25; refine HMAY.out.mono ?_; rintro e w1 ⟨rfl, hb1⟩; rw [← HW.out] at hb1; have HB1 := Lib.hid hb1; clear hb1) | (go_at_call 80; refine (HRM.out _ HB1.out).mono ?_; rintro e w3 ⟨rfl, hd⟩; rw [HRB.out]; have HB1' := HB1; clear HB1; have HB1 := Lib.hid (HB1'.out.trans (hd.below.mono HB1'.out.size)); obtain ⟨⟨c0, c1, c2, c3, c4⟩, -⟩ := box5 (HBX.out _ HB1.out).1; obtain ⟨⟨d0, d1, d2, d3, d4⟩, f0, f1, f2, f3, f4⟩ := box5 (HBX.out _ HB1.out).2; clear hd HB1'))
    refine bodyPost_ret (v := .tuple #[.agg #[.bool s.fr, .int .i64 s.nx, .slice ra s.rd.length rc, .slice ha s.hd.length hc, .slice ma s.ms.length mc], .int .i64 1]) (res_sd (i := 6) (j := 7) (g := w.heap.size + 1) Try.results32 rfl rfl (set5_box (HBX.out _ HB1.out).2 _ _ _ _ _)) rfl ?_
    rw [HR.out.1, HR.out.2]
    exact shr_same _ _ _ _ _ _ _ _ _ _ _ _ HS0.out (HB0.out.trans (HB1.out.mono HB0.out.size))
  have HRB : Hid (decide (May l) = true) := Lib.hid (decide_eq_true h2)
  by_cases h3 : s.fr = true ∧ s.hd = []
  case neg =>
    have HR := Lib.hid (partC_state k h1 h2 h3)
    have h4 : s.fr = false ∨ (s.fr = true ∧ (0 : Int) < (s.hd.length : Int)) := by
      cases hq : s.fr with
      | false => exact .inl rfl
      | true => exact .inr ⟨rfl, by have : s.hd ≠ [] := fun g => h3 ⟨hq, g⟩; have := List.length_pos_iff.2 this; omega⟩
    clear h1 h2 h3
    rcases h4 with h4 | ⟨h4, h5⟩
    case inl =>
      have HFR := Lib.hid h4
      clear h4
      go_enter Try.func32, Try.ntmps32
      go_wp2_with (first | (go_at_call 25; refine HMAY.out.mono ?_; rintro e w1 ⟨rfl, hb1⟩; rw [← HW.out] at hb1; have HB1 := Lib.hid hb1; clear hb1) | (go_at_call 80; refine (HRM.out _ HB1.out).mono ?_; rintro e w3 ⟨rfl, hd⟩; rw [HRB.out]; have HB1' := HB1; clear HB1; have HB1 := Lib.hid (HB1'.out.trans (hd.below.mono HB1'.out.size)); obtain ⟨⟨c0, c1, c2, c3, c4⟩, -⟩ := box5 (HBX.out _ HB1.out).1; obtain ⟨⟨d0, d1, d2, d3, d4⟩, f0, f1, f2, f3, f4⟩ := box5 (HBX.out _ HB1.out).2; rw [HFR.out] at c0; clear hd HB1'))
      refine bodyPost_ret (v := .tuple #[.agg #[.bool false, .int .i64 s.nx, .slice ra s.rd.length rc, .slice ha s.hd.length hc, .slice ma s.ms.length mc], .int .i64 7]) (res_sd (i := 6) (j := 7) (g := w.heap.size + 1) Try.results32 rfl rfl (set5_box (HBX.out _ HB1.out).2 _ _ _ _ _)) rfl ?_
      rw [HR.out.1, HR.out.2, ← HFR.out]
      exact shr_same _ _ _ _ _ _ _ _ _ _ _ _ HS0.out (HB0.out.trans (HB1.out.mono HB0.out.size))
    case inr =>
      have HFR := Lib.hid h4
      clear h4
      go_enter Try.func32, Try.ntmps32
      go_wp2_with (first | (go_at_call 25; refine HMAY.out.mono ?_; rintro e w1 ⟨rfl, hb1⟩; rw [← HW.out] at hb1; have HB1 := Lib.hid hb1; clear hb1) | (go_at_call 80; refine (HRM.out _ HB1.out).mono ?_; rintro e w3 ⟨rfl, hd⟩; rw [HRB.out]; have HB1' := HB1; clear HB1; have HB1 := Lib.hid (HB1'.out.trans (hd.below.mono HB1'.out.size)); obtain ⟨⟨c0, c1, c2, c3, c4⟩, -⟩ := box5 (HBX.out _ HB1.out).1; obtain ⟨⟨d0, d1, d2, d3, d4⟩, f0, f1, f2, f3, f4⟩ := box5 (HBX.out _ HB1.out).2; rw [HFR.out] at c0; clear hd HB1'))
      refine bodyPost_ret (v := .tuple #[.agg #[.bool true, .int .i64 s.nx, .slice ra s.rd.length rc, .slice ha s.hd.length hc, .slice ma s.ms.length mc], .int .i64 7]) (res_sd (i := 6) (j := 7) (g := w.heap.size + 1) Try.results32 rfl rfl (set5_box (HBX.out _ HB1.out).2 _ _ _ _ _)) rfl ?_
      rw [HR.out.1, HR.out.2, ← HFR.out]
      exact shr_same _ _ _ _ _ _ _ _ _ _ _ _ HS0.out (HB0.out.trans (HB1.out.mono HB0.out.size))
  obtain ⟨h3, h4⟩ := h3
  have HR := Lib.hid (partC_ok k h1 h2 h3 h4)
  have HRK : Hid (∀ m ∈ s.rd, m.key.length ≤ 1000) := Lib.hid fun m hm => by
    have := (h1.2.2.2.2.2.2.2.2.2.1 m (List.mem_append_right _ hm)).1.1.2.2.2.2.2
    omega
  have HMK : Hid (∀ m ∈ s.ms, m.key.length ≤ 1000) := Lib.hid fun m hm => by
    have := (h1.2.2.2.2.1 m hm).2.2.2.2.2
    omega
  have HL48 : Hid (s.rd.length ≤ 48) := Lib.hid (by have := h1.2.2.1; omega)
  have HL64 : Hid (s.ms.length ≤ 64) := Lib.hid h1.2.2.2.1
  have HFR := Lib.hid h3
  have hhd : s.hd.length = 0 := by rw [h4]; rfl
  have HHD := Lib.hid h4
  have HHL := Lib.hid hhd
  clear h1 h2 h3 h4 hhd
  go_enter Try.func32, Try.ntmps32
  go_wp2_with (first | (go_at_call 25; refine HMAY.out.mono ?_; rintro e w1 ⟨rfl, hb1⟩; rw [← HW.out] at hb1; have HB1 := Lib.hid hb1; clear hb1) | (go_at_call 80; refine (HRM.out _ HB1.out).mono ?_; rintro e w3 ⟨rfl, hd⟩; rw [HRB.out]; have HB1' := HB1; clear HB1; have HB1 := Lib.hid (HB1'.out.trans (hd.below.mono HB1'.out.size)); obtain ⟨⟨c0, c1, c2, c3, c4⟩, -⟩ := box5 (HBX.out _ HB1.out).1; rw [HFR.out] at c0; rw [HHL.out] at c3; have n0 : w.heap.size < w3.heap.size := (by have := HWS.out; have := HB1.out.size; omega); have n1 : ¬ w.heap.size = w3.heap.size := (by omega); have n2 : w.heap.size + 1 < w3.heap.size := (by have := HWS.out; have := HB1.out.size; omega); clear hd HB1'))
  obtain ⟨t1, t2, t3⟩ := one_box (w := w3) (.cells #[.bool false, .int .i64 s.nx, .slice none 0 0, .slice none 0 0, .slice none 0 0] 26)
  generalize w3.alloc (.cells #[.bool false, .int .i64 s.nx, .slice none 0 0, .slice none 0 0, .slice none 0 0] 26) = W3 at *
  have HT2 := Lib.hid t2
  have HT3 := Lib.hid t3
  have HT1 := Lib.hid t1
  have HUP := Lib.hid (fun (wx : World) (h : Below w3.heap.size w3 wx) => HB1.out.trans (h.mono HB1.out.size))
  clear t1 t2 t3 c0 c1 c2 c3 c4
  go_loopg [9] s.rd.length (rpartRel1 w3 s (fun m => partF l k m.key) w3.heap.size)
  case atStart => exact ⟨0, [], none, 0, Nat.zero_le _, rfl, rfl, rfl, HT2.out, by have := HT3.out; omega, HT1.out, OwnE.nil _ _ _ _ _⟩
  case round =>
    obtain ⟨i, r, xr, cr, hi, rfl, rfl, hr, hb, hgs, hx, ho⟩ := hrel
    have HR1 := Lib.hid hr
    have HB := Lib.hid hb
    have HGS := Lib.hid hgs
    have HX := Lib.hid hx
    have HO := Lib.hid ho
    clear hr hb hgs hx ho HT1 HT2
    by_cases hlt : i < s.rd.length
    case pos =>
      have hlti : (i : Int) < (s.rd.length : Int) := by omega
      have h0i : (0 : Int) ≤ (i : Int) := by omega
      have hw1 : IntKind.i64.wrap ((i : Int) + 1) = (i : Int) + 1 := IntWalk.i64_in _ (by have := HL48.out; omega)
      obtain ⟨sb, so, rfl, z0, z1, z2, z3, z4⟩ := MgsAt.get (HS1.out.below _ _ _ _ _ _ (HUP.out _ HB.out)).rd i hlt
      have HSN := Lib.hid (filter_snoc (fun m : Mg => partF l k m.key) s.rd i hlt)
      have HKL := Lib.hid (HRK.out _ (List.getElem_mem hlt))
      have HRL : Hid (r.length ≤ 48) := Lib.hid (by rw [HR1.out]; exact Nat.le_trans (filter_len _ _ _) HL48.out)
      generalize s.rd[i] = x at *
      obtain ⟨⟨c0, c1, c2, c3, c4⟩, -⟩ := box5 (HBX.out _ (HUP.out _ HB.out)).1
      have HOF : Hid (∀ wx, Calls Try.prog 82 #[.string ⟨x.key.toArray⟩] wx fun e w' => e = .returned (.int .u32 (ofB x.key)) ∧ wx = w') := Lib.hid fun wx => rof_any ⟨x.key.toArray⟩ (by show x.key.toArray.size ≤ maxLen; unfold maxLen; simp; have := HKL.out; omega) wx
      have HOW := Lib.hid (rowner_any la lc l (ofB x.key) wr (HF.out.below (HUP.out _ HB.out)))
      cases hq : partF l k x.key with
      | false =>
        have HQ := Lib.hid hq
        have hq' : (ownerA l (ofB x.key) == k) = false := hq
        clear hq
        generalize ofB x.key = p at *
        generalize ownerA l p = y at *
        go_wp2_with (first | (go_at_call 82; refine (HOF.out _).mono ?_; rintro e w5 ⟨rfl, rfl⟩) | (go_at_call 81; refine HOW.out.mono ?_; rintro e w5 ⟨rfl, hd⟩; have HD := Lib.hid hd.below; clear hd))
        go_roundg (s.rd.length - (i + 1))
        case measure => omega
        case rel => exact ⟨i + 1, r, xr, cr, by omega, by go_num, by simp, by rw [HSN.out, HQ.out, HR1.out]; rfl, HB.out.trans (HD.out.mono HB.out.size), Nat.lt_of_lt_of_le HGS.out HD.out.size, box_bl HX.out HD.out, HO.out.below1 HD.out⟩
      | true =>
        have HQ := Lib.hid hq
        have hq' : (ownerA l (ofB x.key) == k) = true := hq
        clear hq
        generalize ofB x.key = p at *
        generalize ownerA l p = y at *
        go_wp2_with (first | (go_at_call 82; refine (HOF.out _).mono ?_; rintro e w5 ⟨rfl, rfl⟩) | (go_at_call 81; refine HOW.out.mono ?_; rintro e w5 ⟨rfl, hd⟩; have HD := Lib.hid hd.below; clear hd))
        have HX5 := Lib.hid (box_bl HX.out HD.out)
        have HO5 := Lib.hid (show OwnG w5.drew (w3.heap.size + 1) (.slice xr r.length cr) r from (HO.out.below1 HD.out).below1 (Below.refl _ _).drew)
        have HG5 : Hid (w3.heap.size + 1 ≤ w5.drew.heap.size) := Lib.hid (Nat.lt_of_lt_of_le HGS.out HD.out.size)
        have up : ∀ {q : Nat} {v : Value}, wr.cell? ⟨sb, q, none⟩ = some v → w5.cell? ⟨sb, q, none⟩ = some v := fun {q v} hv => (HD.out.cell (p := ⟨sb, q, none⟩) (lt_of_cell hv)).trans hv
        replace z0 := up z0
        replace z1 := up z1
        replace z2 := up z2
        replace z3 := up z3
        replace z4 := up z4
        clear up c0 c1 c2 c3 c4
        obtain ⟨⟨c0, c1, c2, c3, c4⟩, -⟩ := box5 (HBX.out _ (HUP.out _ (HB.out.trans (HD.out.mono HB.out.size)))).1
        obtain ⟨⟨y0, y1, y2, y3, y4⟩, f0, f1, f2, f3, f4⟩ := box5 HX5.out
        have m1 : w3.heap.size < w5.heap.size := Nat.lt_of_lt_of_le HGS.out HD.out.size
        have m2 : ¬ w3.heap.size = w5.heap.size := by omega
        have m3 : w.heap.size < w5.heap.size := by omega
        have m4 : ¬ w.heap.size = w5.heap.size := by omega
        have m5 : sb < w5.heap.size := World.block_lt_of_cell? _ _ z0
        have m6 : ¬ sb = w5.heap.size := by omega
        go_region_law (first | (refine step_put_one mgE x (w := w5.drew) rfl (.tmp 54) (.tmp 60) rfl HO5.out HG5.out (by have := HRL.out; omega) _ rfl rfl _ rfl rfl ?_; intro v6 w6 hown6 hg6; obtain ⟨xr6, cr6, rfl, -, -⟩ := OwnE.at mgE hown6; rw [show (r ++ [x]).length = r.length + 1 from List.length_append] at hown6; obtain ⟨p1, p2, p3, p4⟩ := push_box (w := w5.drew) (i := 2) HX5.out (Nat.lt_succ_self _) HG5.out HO5.out hown6 hg6; obtain ⟨⟨j0, j1, j2, j3, j4⟩, k0, k1, k2, k3, k4⟩ := box5 p1; have HP2 := Lib.hid p2; have HP3 := Lib.hid p3; have HP4 := Lib.hid p4; have hsz6 := (Array.getElem?_eq_some_iff.1 p2).1; have HS6 := Lib.hid hsz6; clear p1 p2 p3 p4 hown6 hg6 hsz6))
        all_goals
          go_wp2_with fail
          go_roundg (s.rd.length - (i + 1))
          case measure => omega
          case rel => exact ⟨i + 1, r ++ [x], xr6, cr6, by omega, by go_num, by simp, by rw [HSN.out, HQ.out, HR1.out]; rfl, (HB.out.trans (HD.out.mono HB.out.size)).drew.trans HP4.out, HS6.out, by rw [List.length_append]; exact HP2.out, by rw [List.length_append]; exact HP3.out⟩
    case neg =>
      obtain rfl : i = s.rd.length := by omega
      have hlti : ¬ (s.rd.length : Int) < (s.rd.length : Int) := by omega
      have hr9 : r = s.rd.filter (fun m => partF l k m.key) := by have := HR1.out; rwa [List.take_length] at this
      have HR9 := Lib.hid hr9
      have HRL : Hid (r.length ≤ 48) := Lib.hid (by rw [hr9]; exact Nat.le_trans (List.length_filter_le _ _) HL48.out)
      obtain ⟨⟨c0, c1, c2, c3, c4⟩, -⟩ := box5 (HBX.out _ (HUP.out _ HB.out)).1
      clear hr9 HR1
      go_wp2_with fail
      go_loopg [10] s.ms.length (rpartRel2 w3 s r xr cr (fun m => partF l k m.key) w3.heap.size)
      case atStart => exact ⟨0, [], none, 0, Nat.zero_le _, rfl, rfl, rfl, HB.out, HGS.out, HX.out, HO.out, OwnE.nil _ _ _ _ _⟩
      case round =>
        clear c0 c1 c2 c3 c4
        obtain ⟨i, q, xm, cm, hi, rfl, rfl, hr, hb, hgs, hx, ho, hk⟩ := hrel
        clear HB HGS HX HO
        have HR1 := Lib.hid hr
        have HB := Lib.hid hb
        have HGS := Lib.hid hgs
        have HX := Lib.hid hx
        have HO := Lib.hid ho
        have HK := Lib.hid hk
        clear hr hb hgs hx ho hk
        by_cases hlt : i < s.ms.length
        case pos =>
          have hlti : (i : Int) < (s.ms.length : Int) := by omega
          have h0i : (0 : Int) ≤ (i : Int) := by omega
          have hw1 : IntKind.i64.wrap ((i : Int) + 1) = (i : Int) + 1 := IntWalk.i64_in _ (by have := HL64.out; omega)
          obtain ⟨sb, so, rfl, z0, z1, z2⟩ := MksAt.get (HS1.out.below _ _ _ _ _ _ (HUP.out _ HB.out)).ms i hlt
          have HSN := Lib.hid (filter_snoc (fun m : Mk => partF l k m.key) s.ms i hlt)
          have HKL := Lib.hid (HMK.out _ (List.getElem_mem hlt))
          have HQL : Hid (q.length ≤ 64) := Lib.hid (by rw [HR1.out]; exact Nat.le_trans (filter_len _ _ _) HL64.out)
          generalize s.ms[i] = x at *
          obtain ⟨⟨c0, c1, c2, c3, c4⟩, -⟩ := box5 (HBX.out _ (HUP.out _ HB.out)).1
          have HOF : Hid (∀ wx, Calls Try.prog 82 #[.string ⟨x.key.toArray⟩] wx fun e w' => e = .returned (.int .u32 (ofB x.key)) ∧ wx = w') := Lib.hid fun wx => rof_any ⟨x.key.toArray⟩ (by show x.key.toArray.size ≤ maxLen; unfold maxLen; simp; have := HKL.out; omega) wx
          have HOW := Lib.hid (rowner_any la lc l (ofB x.key) wr (HF.out.below (HUP.out _ HB.out)))
          cases hq : partF l k x.key with
          | false =>
            have HQ := Lib.hid hq
            have hq' : (ownerA l (ofB x.key) == k) = false := hq
            clear hq
            generalize ofB x.key = p at *
            generalize ownerA l p = y at *
            go_wp2_with (first | (go_at_call 82; refine (HOF.out _).mono ?_; rintro e w5 ⟨rfl, rfl⟩) | (go_at_call 81; refine HOW.out.mono ?_; rintro e w5 ⟨rfl, hd⟩; have HD := Lib.hid hd.below; clear hd))
            go_roundg (s.ms.length - (i + 1))
            case measure => omega
            case rel => exact ⟨i + 1, q, xm, cm, by omega, by go_num, by simp, by rw [HSN.out, HQ.out, HR1.out]; rfl, HB.out.trans (HD.out.mono HB.out.size), Nat.lt_of_lt_of_le HGS.out HD.out.size, box_bl HX.out HD.out, HO.out.below1 HD.out, HK.out.below1 HD.out⟩
          | true =>
            have HQ := Lib.hid hq
            have hq' : (ownerA l (ofB x.key) == k) = true := hq
            clear hq
            generalize ofB x.key = p at *
            generalize ownerA l p = y at *
            go_wp2_with (first | (go_at_call 82; refine (HOF.out _).mono ?_; rintro e w5 ⟨rfl, rfl⟩) | (go_at_call 81; refine HOW.out.mono ?_; rintro e w5 ⟨rfl, hd⟩; have HD := Lib.hid hd.below; clear hd))
            have HX5 := Lib.hid (box_bl HX.out HD.out)
            have HO5 := Lib.hid (show OwnK w5.drew (w3.heap.size + 1) (.slice xm q.length cm) q from (HK.out.below1 HD.out).below1 (Below.refl _ _).drew)
            have HR5 := Lib.hid (show OwnG w5.drew (w3.heap.size + 1) (.slice xr r.length cr) r from (HO.out.below1 HD.out).below1 (Below.refl _ _).drew)
            have HG5 : Hid (w3.heap.size + 1 ≤ w5.drew.heap.size) := Lib.hid (Nat.lt_of_lt_of_le HGS.out HD.out.size)
            have up : ∀ {q : Nat} {v : Value}, wr.cell? ⟨sb, q, none⟩ = some v → w5.cell? ⟨sb, q, none⟩ = some v := fun {q v} hv => (HD.out.cell (p := ⟨sb, q, none⟩) (lt_of_cell hv)).trans hv
            replace z0 := up z0
            replace z1 := up z1
            replace z2 := up z2
            clear up c0 c1 c2 c3 c4
            obtain ⟨⟨c0, c1, c2, c3, c4⟩, -⟩ := box5 (HBX.out _ (HUP.out _ (HB.out.trans (HD.out.mono HB.out.size)))).1
            obtain ⟨⟨y0, y1, y2, y3, y4⟩, f0, f1, f2, f3, f4⟩ := box5 HX5.out
            have m1 : w3.heap.size < w5.heap.size := Nat.lt_of_lt_of_le HGS.out HD.out.size
            have m2 : ¬ w3.heap.size = w5.heap.size := by omega
            have m3 : w.heap.size < w5.heap.size := by omega
            have m4 : ¬ w.heap.size = w5.heap.size := by omega
            have m5 : sb < w5.heap.size := World.block_lt_of_cell? _ _ z0
            have m6 : ¬ sb = w5.heap.size := by omega
            go_region_law (first | (refine step_put_one mkE x (w := w5.drew) rfl (.tmp 82) (.tmp 88) rfl HO5.out HG5.out (by have := HQL.out; omega) _ rfl rfl _ rfl rfl ?_; intro v6 w6 hown6 hg6; obtain ⟨xk6, ck6, rfl, -, -⟩ := OwnE.at mkE hown6; rw [show (q ++ [x]).length = q.length + 1 from List.length_append] at hown6; have HO6 := OwnE.other HO5.out HR5.out (by decide) hg6; obtain ⟨p1, p2, p3, p4⟩ := push_box (w := w5.drew) (i := 4) HX5.out (Nat.lt_succ_self _) HG5.out HO5.out hown6 hg6; obtain ⟨⟨j0, j1, j2, j3, j4⟩, k0, k1, k2, k3, k4⟩ := box5 p1; have HP2 := Lib.hid p2; have HP3 := Lib.hid p3; have HP4 := Lib.hid p4; have HP5 := Lib.hid (OwnE.kept HO6 (w' := w6.setCell ⟨w3.heap.size, 4, none⟩ (.slice xk6 (q.length + 1) ck6)) fun b hb _ => Below.heap_setCell w6 ⟨w3.heap.size, 4, none⟩ _ b (by show b ≠ w3.heap.size; omega)); have hsz6 := (Array.getElem?_eq_some_iff.1 p2).1; have HS6 := Lib.hid hsz6; clear p1 p2 p3 p4 HO6 hown6 hg6 hsz6))
            all_goals
              go_wp2_with fail
              go_roundg (s.ms.length - (i + 1))
              case measure => omega
              case rel => exact ⟨i + 1, q ++ [x], xk6, ck6, by omega, by go_num, by simp, by rw [HSN.out, HQ.out, HR1.out]; rfl, (HB.out.trans (HD.out.mono HB.out.size)).drew.trans HP4.out, HS6.out, by rw [List.length_append]; exact HP2.out, HP5.out, by rw [List.length_append]; exact HP3.out⟩
        case neg =>
          obtain rfl : i = s.ms.length := by omega
          have hlti : ¬ (s.ms.length : Int) < (s.ms.length : Int) := by omega
          have hr9 : q = s.ms.filter (fun m => partF l k m.key) := by have := HR1.out; rwa [List.take_length] at this
          have HR10 := Lib.hid hr9
          obtain ⟨⟨y0, y1, y2, y3, y4⟩, -⟩ := box5 HX.out
          obtain ⟨⟨c0, c1, c2, c3, c4⟩, -⟩ := box5 (HBX.out _ (HUP.out _ HB.out)).1
          obtain ⟨⟨d0, d1, d2, d3, d4⟩, f0, f1, f2, f3, f4⟩ := box5 (HBX.out _ (HUP.out _ HB.out)).2
          clear hr9 HR1
          go_wp2_with fail
          refine bodyPost_ret (v := .tuple #[.agg #[.bool false, .int .i64 s.nx, .slice xr r.length cr, .slice none 0 0, .slice xm q.length cm], .int .i64 0]) (res_sd (i := 6) (j := 7) (g := w.heap.size + 1) Try.results32 rfl rfl (set5_box (HBX.out _ (HUP.out _ HB.out)).2 _ _ _ _ _)) rfl ?_
          rw [HR.out.1, HR.out.2, ← HR9.out, ← HR10.out]
          have h1s := HB1.out.size
          have hws := HWS.out
          have hq9 : q.length ≤ 64 := by rw [HR10.out]; exact Nat.le_trans (List.length_filter_le _ _) HL64.out
          have hr9 := HRL.out
          have hfin : Below w.heap.size w wr := HB0.out.trans ((HUP.out _ HB.out).mono HB0.out.size)
          have hset := set5_below hfin (Nat.le_succ w.heap.size) (.bool false) (.int .i64 s.nx) (.slice xr r.length cr) (.slice none 0 0) (.slice xm q.length cm)
          have own : OwnS (set5 wr (w.heap.size + 1) (.bool false) (.int .i64 s.nx) (.slice xr r.length cr) (.slice none 0 0) (.slice xm q.length cm)) (w3.heap.size + 1) ⟨false, s.nx, r, [], q⟩ (.slice xr r.length cr) (.slice none 0 0) (.slice xm q.length cm) := OwnS.kept (s := ⟨false, s.nx, r, [], q⟩) ⟨HO.out, OwnE.nil _ _ _ _ _, HK.out⟩ fun b hb => set5_heap _ _ _ _ _ _ _ _ (by omega)
          exact shr_of (s' := ⟨false, s.nx, r, [], q⟩) xr cr none 0 xm cm (own.sd xr cr none 0 xm cm ⟨by show r.length ≤ 1000; omega, by simp, by show q.length ≤ 1000; omega⟩) hset
end Go.Proofs.Ythohjcfpobeplaa.Sh

namespace Go.Proofs.Ythohjcfpobeplaa.Sh
open Go.RowKit Rg
set_option linter.unusedVariables false
set_option linter.unusedSimpArgs false

def eqRel {α : Type} (w : World) (l m : List α) (n : Nat) (v : Value) (wr : World) : Prop :=
  ∃ i : Nat, i ≤ l.length ∧ l.take i = m.take i ∧ v = .int .i64 i ∧ n = l.length - i ∧ Drew w wr
theorem eq_more {α : Type} {l m : List α} {i : Nat} (h : l.take i = m.take i) (hi : i < l.length) (hj : i < m.length) (he : l[i] = m[i]) : l.take (i + 1) = m.take (i + 1) := by
  rw [List.take_succ_eq_append_getElem hi, List.take_succ_eq_append_getElem hj, h, he]
theorem eq_not {α : Type} [DecidableEq α] {l m : List α} {i : Nat} (hi : i < l.length) (hj : i < m.length) (he : ¬ l[i] = m[i]) : decide (l = m) = false := by
  rw [decide_eq_false_iff_not]
  intro h
  subst h
  exact he rfl
theorem eq_all {α : Type} [DecidableEq α] {l m : List α} (hlen : l.length = m.length) (h : l.take l.length = m.take l.length) : decide (l = m) = true := by
  rw [decide_eq_true_eq]
  rw [List.take_length, hlen, List.take_length] at h
  exact h

set_option maxHeartbeats 1000000 in
theorem mg_eqs (a b : Option Addr) (ca cb : Nat) (l m : List Mg) (w : World) (hl : MgsAt w a ca l) (hm : MgsAt w b cb m) :
    Calls Try.prog 85 #[.slice a l.length ca, .slice b m.length cb] w fun e w' => e = .returned (.bool (decide (l = m))) ∧ Drew w w' := by
  have hcap := hl.max
  have hlen := hl.len
  unfold maxLen at hcap
  by_cases he : l.length = m.length
  case neg =>
    have HR : Hid (decide (l = m) = false) := Lib.hid (by rw [decide_eq_false_iff_not]; intro h; subst h; exact he rfl)
    have e1 : ((l.length : Int) != (m.length : Int)) = true := by rw [bne_iff_ne]; omega
    clear hl hm he
    go_enter Try.func85, Try.ntmps85
    go_wp2_with fail
    go_ret
    exact ⟨by rw [HR.out]; rfl, Drew.refl _⟩
  have e1 : ((l.length : Int) != (m.length : Int)) = false := by rw [bne_eq_false_iff_eq]; omega
  have HL := Lib.hid hl
  have HM := Lib.hid hm
  have HE := Lib.hid he
  clear hl hm he
  go_enter Try.func85, Try.ntmps85
  go_wp2_with fail
  go_loopg [13] l.length (eqRel w l m)
  case atStart => exact ⟨0, Nat.zero_le _, rfl, rfl, rfl, Drew.refl _⟩
  case round =>
    obtain ⟨i, hi, ht, rfl, rfl, hd⟩ := hrel
    have HT := Lib.hid ht
    have HD := Lib.hid hd
    have HL1 := Lib.hid (HL.out.below hd.below)
    have HM1 := Lib.hid (HM.out.below hd.below)
    clear ht hd
    by_cases hlt : i < l.length
    · have hltm : i < m.length := by have := HE.out; omega
      have hlti : (i : Int) < (l.length : Int) := by omega
      have hltj : (i : Int) < (m.length : Int) := by omega
      have h0i : (0 : Int) ≤ (i : Int) := by omega
      obtain ⟨b1, o1, rfl, c0, c1, c2, c3, c4⟩ := MgsAt.get HL1.out i hlt
      obtain ⟨b2, o2, rfl, d0, d1, d2, d3, d4⟩ := MgsAt.get HM1.out i hltm
      by_cases hq : l[i] = m[i]
      · have hn := fun wx => mg_neq l[i] m[i] true (decide_eq_true hq) wx
        have HT2 := Lib.hid (eq_more HT.out hlt hltm hq)
        clear hq
        go_wp2_with fail
        go_quiet (fail)
        go_wp2_with fail
        go_roundg (l.length - (i + 1))
        case measure => omega
        case rel => exact ⟨i + 1, by omega, HT2.out, by go_num, by simp, HD.out.more _⟩
      · have hn := fun wx => mg_neq l[i] m[i] false (decide_eq_false hq) wx
        have HR := Lib.hid (eq_not hlt hltm hq)
        clear hq
        go_wp2_with fail
        go_quiet (fail)
        go_wp2_with fail
        go_ret
        exact ⟨by rw [HR.out]; rfl, HD.out.more _⟩
    · obtain rfl : i = l.length := by omega
      have HR := Lib.hid (eq_all HE.out HT.out)
      go_wp2_with fail
      go_ret
      exact ⟨by rw [HR.out]; rfl, HD.out⟩

set_option maxHeartbeats 1000000 in
theorem hd_eqs (a b : Option Addr) (ca cb : Nat) (l m : List Hd) (w : World) (hl : HdsAt w a ca l) (hm : HdsAt w b cb m) :
    Calls Try.prog 86 #[.slice a l.length ca, .slice b m.length cb] w fun e w' => e = .returned (.bool (decide (l = m))) ∧ Drew w w' := by
  have hcap := hl.max
  have hlen := hl.len
  unfold maxLen at hcap
  by_cases he : l.length = m.length
  case neg =>
    have HR : Hid (decide (l = m) = false) := Lib.hid (by rw [decide_eq_false_iff_not]; intro h; subst h; exact he rfl)
    have e1 : ((l.length : Int) != (m.length : Int)) = true := by rw [bne_iff_ne]; omega
    clear hl hm he
    go_enter Try.func86, Try.ntmps86
    go_wp2_with fail
    go_ret
    exact ⟨by rw [HR.out]; rfl, Drew.refl _⟩
  have e1 : ((l.length : Int) != (m.length : Int)) = false := by rw [bne_eq_false_iff_eq]; omega
  have HL := Lib.hid hl
  have HM := Lib.hid hm
  have HE := Lib.hid he
  clear hl hm he
  go_enter Try.func86, Try.ntmps86
  go_wp2_with fail
  go_loopg [13] l.length (eqRel w l m)
  case atStart => exact ⟨0, Nat.zero_le _, rfl, rfl, rfl, Drew.refl _⟩
  case round =>
    obtain ⟨i, hi, ht, rfl, rfl, hd⟩ := hrel
    have HT := Lib.hid ht
    have HD := Lib.hid hd
    have HL1 := Lib.hid (HL.out.below hd.below)
    have HM1 := Lib.hid (HM.out.below hd.below)
    clear ht hd
    by_cases hlt : i < l.length
    · have hltm : i < m.length := by have := HE.out; omega
      have hlti : (i : Int) < (l.length : Int) := by omega
      have hltj : (i : Int) < (m.length : Int) := by omega
      have h0i : (0 : Int) ≤ (i : Int) := by omega
      obtain ⟨b1, o1, rfl, c0, c1, c2, c3, c4, c5⟩ := HdsAt.get HL1.out i hlt
      obtain ⟨b2, o2, rfl, d0, d1, d2, d3, d4, d5⟩ := HdsAt.get HM1.out i hltm
      by_cases hq : l[i] = m[i]
      · have hn := fun wx => hd_neq l[i] m[i] true (decide_eq_true hq) wx
        have HT2 := Lib.hid (eq_more HT.out hlt hltm hq)
        clear hq
        go_wp2_with fail
        go_quiet (fail)
        go_wp2_with fail
        go_roundg (l.length - (i + 1))
        case measure => omega
        case rel => exact ⟨i + 1, by omega, HT2.out, by go_num, by simp, HD.out.more _⟩
      · have hn := fun wx => hd_neq l[i] m[i] false (decide_eq_false hq) wx
        have HR := Lib.hid (eq_not hlt hltm hq)
        clear hq
        go_wp2_with fail
        go_quiet (fail)
        go_wp2_with fail
        go_ret
        exact ⟨by rw [HR.out]; rfl, HD.out.more _⟩
    · obtain rfl : i = l.length := by omega
      have HR := Lib.hid (eq_all HE.out HT.out)
      go_wp2_with fail
      go_ret
      exact ⟨by rw [HR.out]; rfl, HD.out⟩

set_option maxHeartbeats 1000000 in
theorem mk_eqs (a b : Option Addr) (ca cb : Nat) (l m : List Mk) (w : World) (hl : MksAt w a ca l) (hm : MksAt w b cb m) :
    Calls Try.prog 87 #[.slice a l.length ca, .slice b m.length cb] w fun e w' => e = .returned (.bool (decide (l = m))) ∧ Drew w w' := by
  have hcap := hl.max
  have hlen := hl.len
  unfold maxLen at hcap
  by_cases he : l.length = m.length
  case neg =>
    have HR : Hid (decide (l = m) = false) := Lib.hid (by rw [decide_eq_false_iff_not]; intro h; subst h; exact he rfl)
    have e1 : ((l.length : Int) != (m.length : Int)) = true := by rw [bne_iff_ne]; omega
    clear hl hm he
    go_enter Try.func87, Try.ntmps87
    go_wp2_with fail
    go_ret
    exact ⟨by rw [HR.out]; rfl, Drew.refl _⟩
  have e1 : ((l.length : Int) != (m.length : Int)) = false := by rw [bne_eq_false_iff_eq]; omega
  have HL := Lib.hid hl
  have HM := Lib.hid hm
  have HE := Lib.hid he
  clear hl hm he
  go_enter Try.func87, Try.ntmps87
  go_wp2_with fail
  go_loopg [13] l.length (eqRel w l m)
  case atStart => exact ⟨0, Nat.zero_le _, rfl, rfl, rfl, Drew.refl _⟩
  case round =>
    obtain ⟨i, hi, ht, rfl, rfl, hd⟩ := hrel
    have HT := Lib.hid ht
    have HD := Lib.hid hd
    have HL1 := Lib.hid (HL.out.below hd.below)
    have HM1 := Lib.hid (HM.out.below hd.below)
    clear ht hd
    by_cases hlt : i < l.length
    · have hltm : i < m.length := by have := HE.out; omega
      have hlti : (i : Int) < (l.length : Int) := by omega
      have hltj : (i : Int) < (m.length : Int) := by omega
      have h0i : (0 : Int) ≤ (i : Int) := by omega
      obtain ⟨b1, o1, rfl, c0, c1, c2⟩ := MksAt.get HL1.out i hlt
      obtain ⟨b2, o2, rfl, d0, d1, d2⟩ := MksAt.get HM1.out i hltm
      by_cases hq : l[i] = m[i]
      · have hn := fun wx => mk_neq l[i] m[i] true (decide_eq_true hq) wx
        have HT2 := Lib.hid (eq_more HT.out hlt hltm hq)
        clear hq
        go_wp2_with fail
        go_quiet (fail)
        go_wp2_with fail
        go_roundg (l.length - (i + 1))
        case measure => omega
        case rel => exact ⟨i + 1, by omega, HT2.out, by go_num, by simp, HD.out.more _⟩
      · have hn := fun wx => mk_neq l[i] m[i] false (decide_eq_false hq) wx
        have HR := Lib.hid (eq_not hlt hltm hq)
        clear hq
        go_wp2_with fail
        go_quiet (fail)
        go_wp2_with fail
        go_ret
        exact ⟨by rw [HR.out]; rfl, HD.out.more _⟩
    · obtain rfl : i = l.length := by omega
      have HR := Lib.hid (eq_all HE.out HT.out)
      go_wp2_with fail
      go_ret
      exact ⟨by rw [HR.out]; rfl, HD.out⟩

theorem sd_ne {s t : Sd} (h : ¬ (s.fr = t.fr ∧ s.nx = t.nx ∧ s.rd = t.rd ∧ s.hd = t.hd ∧ s.ms = t.ms)) : decide (s = t) = false := by
  rw [decide_eq_false_iff_not]
  rintro rfl
  exact h ⟨rfl, rfl, rfl, rfl, rfl⟩
theorem sd_eq {s t : Sd} (h1 : s.fr = t.fr) (h2 : s.nx = t.nx) (h3 : s.rd = t.rd) (h4 : s.hd = t.hd) (h5 : s.ms = t.ms) : decide (s = t) = true := by
  rw [decide_eq_true_eq]
  cases s; cases t
  simp_all

set_option maxHeartbeats 2000000 in
theorem psame_any (s t : Sd) (ra : Option Addr) (rc : Nat) (ha : Option Addr) (hc : Nat) (ma : Option Addr) (mc : Nat) (ra2 : Option Addr) (rc2 : Nat) (ha2 : Option Addr) (hc2 : Nat) (ma2 : Option Addr) (mc2 : Nat) (w : World) (hs : SdAt w ra rc ha hc ma mc s) (ht : SdAt w ra2 rc2 ha2 hc2 ma2 mc2 t) :
    Calls Try.prog 37 #[.agg #[.bool s.fr, .int .i64 s.nx, .slice ra s.rd.length rc, .slice ha s.hd.length hc, .slice ma s.ms.length mc], .agg #[.bool t.fr, .int .i64 t.nx, .slice ra2 t.rd.length rc2, .slice ha2 t.hd.length hc2, .slice ma2 t.ms.length mc2]] w fun e w' => e = .returned (.bool (decide (s = t))) ∧ Below w.heap.size w w' := by
  obtain ⟨hx, hy, hb0, hWs⟩ := two_box (w := w) (.cells #[.bool s.fr, .int .i64 s.nx, .slice ra s.rd.length rc, .slice ha s.hd.length hc, .slice ma s.ms.length mc] 26) (.cells #[.bool t.fr, .int .i64 t.nx, .slice ra2 t.rd.length rc2, .slice ha2 t.hd.length hc2, .slice ma2 t.ms.length mc2] 26)
  obtain ⟨W, hW⟩ : ∃ W, W = (w.alloc (.cells #[.bool s.fr, .int .i64 s.nx, .slice ra s.rd.length rc, .slice ha s.hd.length hc, .slice ma s.ms.length mc] 26)).alloc (.cells #[.bool t.fr, .int .i64 t.nx, .slice ra2 t.rd.length rc2, .slice ha2 t.hd.length hc2, .slice ma2 t.ms.length mc2] 26) := ⟨_, rfl⟩
  rw [← hW] at hx hy hb0 hWs
  have HS1 := Lib.hid (hs.below ra rc ha hc ma mc hb0)
  have HT1 := Lib.hid (ht.below ra2 rc2 ha2 hc2 ma2 mc2 hb0)
  have HBX := Lib.hid (fun (wx : World) (h : Below W.heap.size W wx) => And.intro (box5 (box_bl hx h)).1 (box5 (box_bl hy h)).1)
  have HB0 := Lib.hid hb0
  have HW := Lib.hid hW
  clear hs ht hx hy hb0 hW
  have HM := Lib.hid fun wx (h : Below W.heap.size W wx) => mg_eqs ra ra2 rc rc2 s.rd t.rd wx (HS1.out.below _ _ _ _ _ _ h).rd (HT1.out.below _ _ _ _ _ _ h).rd
  have HH := Lib.hid fun wx (h : Below W.heap.size W wx) => hd_eqs ha ha2 hc hc2 s.hd t.hd wx (HS1.out.below _ _ _ _ _ _ h).hd (HT1.out.below _ _ _ _ _ _ h).hd
  have HK := Lib.hid fun wx (h : Below W.heap.size W wx) => mk_eqs ma ma2 mc mc2 s.ms t.ms wx (HS1.out.below _ _ _ _ _ _ h).ms (HT1.out.below _ _ _ _ _ _ h).ms
  obtain ⟨⟨x0, x1, x2, x3, x4⟩, ⟨y0, y1, y2, y3, y4⟩⟩ := HBX.out W (Below.refl _ _)
  rw [HW.out] at x0 x1 x2 x3 x4 y0 y1 y2 y3 y4
  by_cases q1 : s.fr = t.fr
  case neg =>
    have b0 : (s.fr == t.fr) = false := by rw [beq_eq_false_iff_ne]; exact q1
    have HR := Lib.hid (sd_ne (s := s) (t := t) (fun h => q1 h.1))
    have HD0 : Hid (Below W.heap.size W ((w.alloc (.cells #[.bool s.fr, .int .i64 s.nx, .slice ra s.rd.length rc, .slice ha s.hd.length hc, .slice ma s.ms.length mc] 26)).alloc (.cells #[.bool t.fr, .int .i64 t.nx, .slice ra2 t.rd.length rc2, .slice ha2 t.hd.length hc2, .slice ma2 t.ms.length mc2] 26))) := Lib.hid (by rw [← HW.out]; exact Below.refl _ _)
    clear q1
    go_enter Try.func37, Try.ntmps37
    go_wp2_with fail
    go_ret
    exact ⟨by rw [HR.out]; rfl, HB0.out.trans (HD0.out.mono HB0.out.size)⟩
  by_cases q2 : s.nx = t.nx
  case neg =>
    have b0 : (s.fr == t.fr) = true := by rw [beq_iff_eq]; exact q1
    have b1 : (s.nx == t.nx) = false := by rw [beq_eq_false_iff_ne]; exact q2
    have HR := Lib.hid (sd_ne (s := s) (t := t) (fun h => q2 h.2.1))
    have HD0 : Hid (Below W.heap.size W ((w.alloc (.cells #[.bool s.fr, .int .i64 s.nx, .slice ra s.rd.length rc, .slice ha s.hd.length hc, .slice ma s.ms.length mc] 26)).alloc (.cells #[.bool t.fr, .int .i64 t.nx, .slice ra2 t.rd.length rc2, .slice ha2 t.hd.length hc2, .slice ma2 t.ms.length mc2] 26))) := Lib.hid (by rw [← HW.out]; exact Below.refl _ _)
    clear q1 q2
    go_enter Try.func37, Try.ntmps37
    go_wp2_with fail
    go_ret
    exact ⟨by rw [HR.out]; rfl, HB0.out.trans (HD0.out.mono HB0.out.size)⟩
  by_cases q3 : s.rd = t.rd
  case neg =>
    have b0 : (s.fr == t.fr) = true := by rw [beq_iff_eq]; exact q1
    have b1 : (s.nx == t.nx) = true := by rw [beq_iff_eq]; exact q2
    have D2 : Hid (decide (s.rd = t.rd) = false) := Lib.hid (decide_eq_false q3)
    have HR := Lib.hid (sd_ne (s := s) (t := t) (fun h => q3 h.2.2.1))
    have HD0 : Hid (Below W.heap.size W ((w.alloc (.cells #[.bool s.fr, .int .i64 s.nx, .slice ra s.rd.length rc, .slice ha s.hd.length hc, .slice ma s.ms.length mc] 26)).alloc (.cells #[.bool t.fr, .int .i64 t.nx, .slice ra2 t.rd.length rc2, .slice ha2 t.hd.length hc2, .slice ma2 t.ms.length mc2] 26))) := Lib.hid (by rw [← HW.out]; exact Below.refl _ _)
    clear q1 q2 q3
    go_enter Try.func37, Try.ntmps37
    go_wp2_with (first | (go_at_call 85; refine (HM.out _ HD0.out).mono ?_; rintro e w1 ⟨rfl, hd⟩; have HD1 := Lib.hid (HD0.out.trans (hd.below.mono HD0.out.size)); clear hd; rw [D2.out]; obtain ⟨⟨x0, x1, x2, x3, x4⟩, ⟨y0, y1, y2, y3, y4⟩⟩ := HBX.out _ HD1.out))
    go_ret
    exact ⟨by rw [HR.out]; rfl, HB0.out.trans (HD1.out.mono HB0.out.size)⟩
  by_cases q4 : s.hd = t.hd
  case neg =>
    have b0 : (s.fr == t.fr) = true := by rw [beq_iff_eq]; exact q1
    have b1 : (s.nx == t.nx) = true := by rw [beq_iff_eq]; exact q2
    have D2 : Hid (decide (s.rd = t.rd) = true) := Lib.hid (decide_eq_true q3)
    have D3 : Hid (decide (s.hd = t.hd) = false) := Lib.hid (decide_eq_false q4)
    have HR := Lib.hid (sd_ne (s := s) (t := t) (fun h => q4 h.2.2.2.1))
    have HD0 : Hid (Below W.heap.size W ((w.alloc (.cells #[.bool s.fr, .int .i64 s.nx, .slice ra s.rd.length rc, .slice ha s.hd.length hc, .slice ma s.ms.length mc] 26)).alloc (.cells #[.bool t.fr, .int .i64 t.nx, .slice ra2 t.rd.length rc2, .slice ha2 t.hd.length hc2, .slice ma2 t.ms.length mc2] 26))) := Lib.hid (by rw [← HW.out]; exact Below.refl _ _)
    clear q1 q2 q3 q4
    go_enter Try.func37, Try.ntmps37
    go_wp2_with (first | (go_at_call 85; refine (HM.out _ HD0.out).mono ?_; rintro e w1 ⟨rfl, hd⟩; have HD1 := Lib.hid (HD0.out.trans (hd.below.mono HD0.out.size)); clear hd; rw [D2.out]; obtain ⟨⟨x0, x1, x2, x3, x4⟩, ⟨y0, y1, y2, y3, y4⟩⟩ := HBX.out _ HD1.out) | (go_at_call 86; refine (HH.out _ HD1.out).mono ?_; rintro e w2 ⟨rfl, hd⟩; have HD2 := Lib.hid (HD1.out.trans (hd.below.mono HD1.out.size)); clear hd; rw [D3.out]; obtain ⟨⟨x0, x1, x2, x3, x4⟩, ⟨y0, y1, y2, y3, y4⟩⟩ := HBX.out _ HD2.out))
    go_ret
    exact ⟨by rw [HR.out]; rfl, HB0.out.trans (HD2.out.mono HB0.out.size)⟩
  by_cases q5 : s.ms = t.ms
  case neg =>
    have b0 : (s.fr == t.fr) = true := by rw [beq_iff_eq]; exact q1
    have b1 : (s.nx == t.nx) = true := by rw [beq_iff_eq]; exact q2
    have D2 : Hid (decide (s.rd = t.rd) = true) := Lib.hid (decide_eq_true q3)
    have D3 : Hid (decide (s.hd = t.hd) = true) := Lib.hid (decide_eq_true q4)
    have D4 : Hid (decide (s.ms = t.ms) = false) := Lib.hid (decide_eq_false q5)
    have HR := Lib.hid (sd_ne (s := s) (t := t) (fun h => q5 h.2.2.2.2))
    have HD0 : Hid (Below W.heap.size W ((w.alloc (.cells #[.bool s.fr, .int .i64 s.nx, .slice ra s.rd.length rc, .slice ha s.hd.length hc, .slice ma s.ms.length mc] 26)).alloc (.cells #[.bool t.fr, .int .i64 t.nx, .slice ra2 t.rd.length rc2, .slice ha2 t.hd.length hc2, .slice ma2 t.ms.length mc2] 26))) := Lib.hid (by rw [← HW.out]; exact Below.refl _ _)
    clear q1 q2 q3 q4 q5
    go_enter Try.func37, Try.ntmps37
    go_wp2_with (first | (go_at_call 85; refine (HM.out _ HD0.out).mono ?_; rintro e w1 ⟨rfl, hd⟩; have HD1 := Lib.hid (HD0.out.trans (hd.below.mono HD0.out.size)); clear hd; rw [D2.out]; obtain ⟨⟨x0, x1, x2, x3, x4⟩, ⟨y0, y1, y2, y3, y4⟩⟩ := HBX.out _ HD1.out) | (go_at_call 86; refine (HH.out _ HD1.out).mono ?_; rintro e w2 ⟨rfl, hd⟩; have HD2 := Lib.hid (HD1.out.trans (hd.below.mono HD1.out.size)); clear hd; rw [D3.out]; obtain ⟨⟨x0, x1, x2, x3, x4⟩, ⟨y0, y1, y2, y3, y4⟩⟩ := HBX.out _ HD2.out) | (go_at_call 87; refine (HK.out _ HD2.out).mono ?_; rintro e w3 ⟨rfl, hd⟩; have HD3 := Lib.hid (HD2.out.trans (hd.below.mono HD2.out.size)); clear hd; rw [D4.out]; obtain ⟨⟨x0, x1, x2, x3, x4⟩, ⟨y0, y1, y2, y3, y4⟩⟩ := HBX.out _ HD3.out))
    go_ret
    exact ⟨by rw [HR.out]; rfl, HB0.out.trans (HD3.out.mono HB0.out.size)⟩
  have b0 : (s.fr == t.fr) = true := by rw [beq_iff_eq]; exact q1
  have b1 : (s.nx == t.nx) = true := by rw [beq_iff_eq]; exact q2
  have D2 : Hid (decide (s.rd = t.rd) = true) := Lib.hid (decide_eq_true q3)
  have D3 : Hid (decide (s.hd = t.hd) = true) := Lib.hid (decide_eq_true q4)
  have D4 : Hid (decide (s.ms = t.ms) = true) := Lib.hid (decide_eq_true q5)
  have HR := Lib.hid (sd_eq q1 q2 q3 q4 q5)
  have HD0 : Hid (Below W.heap.size W ((w.alloc (.cells #[.bool s.fr, .int .i64 s.nx, .slice ra s.rd.length rc, .slice ha s.hd.length hc, .slice ma s.ms.length mc] 26)).alloc (.cells #[.bool t.fr, .int .i64 t.nx, .slice ra2 t.rd.length rc2, .slice ha2 t.hd.length hc2, .slice ma2 t.ms.length mc2] 26))) := Lib.hid (by rw [← HW.out]; exact Below.refl _ _)
  clear q1 q2 q3 q4 q5
  go_enter Try.func37, Try.ntmps37
  go_wp2_with (first | (go_at_call 85; refine (HM.out _ HD0.out).mono ?_; rintro e w1 ⟨rfl, hd⟩; have HD1 := Lib.hid (HD0.out.trans (hd.below.mono HD0.out.size)); clear hd; rw [D2.out]; obtain ⟨⟨x0, x1, x2, x3, x4⟩, ⟨y0, y1, y2, y3, y4⟩⟩ := HBX.out _ HD1.out) | (go_at_call 86; refine (HH.out _ HD1.out).mono ?_; rintro e w2 ⟨rfl, hd⟩; have HD2 := Lib.hid (HD1.out.trans (hd.below.mono HD1.out.size)); clear hd; rw [D3.out]; obtain ⟨⟨x0, x1, x2, x3, x4⟩, ⟨y0, y1, y2, y3, y4⟩⟩ := HBX.out _ HD2.out) | (go_at_call 87; refine (HK.out _ HD2.out).mono ?_; rintro e w3 ⟨rfl, hd⟩; have HD3 := Lib.hid (HD2.out.trans (hd.below.mono HD2.out.size)); clear hd; rw [D4.out]; obtain ⟨⟨x0, x1, x2, x3, x4⟩, ⟨y0, y1, y2, y3, y4⟩⟩ := HBX.out _ HD3.out))
  go_ret
  exact ⟨by rw [HR.out]; rfl, HB0.out.trans (HD3.out.mono HB0.out.size)⟩

end Go.Proofs.Ythohjcfpobeplaa.Sh

namespace Go.Proofs.Ythohjcfpobeplaa.Sh
open Go.RowKit Rg Go.Sort
set_option linter.unusedVariables false
set_option linter.unusedSimpArgs false

def ShortM (m : Mg) : Prop := m.key.length ≤ 300 ∧ m.body.length ≤ 300
instance : DecidablePred ShortM := fun m => inferInstanceAs (Decidable (_ ∧ _))

set_option maxHeartbeats 1000000 in
theorem short_any (m : Mg) (w : World) :
    Calls Try.prog 61 #[.agg #[.int .i64 m.pub, .int .i64 m.seq, .string ⟨m.key.toArray⟩, .string ⟨m.body.toArray⟩, .bool m.again]] w fun e w' => e = .returned (.bool (decide (ShortM m))) ∧ Grew w w' := by
  have HG := Lib.hid (Grew.alloc w (.cells #[.int .i64 m.pub, .int .i64 m.seq, .string ⟨m.key.toArray⟩, .string ⟨m.body.toArray⟩, .bool m.again] 35))
  obtain ⟨p, q, k, d, ag⟩ := m
  have hsk : (⟨k.toArray⟩ : ByteArray).size = k.length := rfl
  have hsz : (⟨d.toArray⟩ : ByteArray).size = d.length := rfl
  by_cases h0 : k.length ≤ 300
  case neg =>
    rw [decide_eq_false (show ¬ ShortM ⟨p, q, k, d, ag⟩ from fun h => h0 h.1)]
    have g0 : decide ((k.length : Int) ≤ 300) = false := decide_eq_false (by omega)
    clear h0
    go_enter Try.func61, Try.ntmps61
    go_wp2_with fail
    go_ret
    exact ⟨rfl, HG.out⟩
  have g0 : decide ((k.length : Int) ≤ 300) = true := decide_eq_true (by omega)
  by_cases h1 : d.length ≤ 300
  case neg =>
    rw [decide_eq_false (show ¬ ShortM ⟨p, q, k, d, ag⟩ from fun h => h1 h.2)]
    have g1 : decide ((d.length : Int) ≤ 300) = false := decide_eq_false (by omega)
    clear h0 h1
    go_enter Try.func61, Try.ntmps61
    go_wp2_with fail
    go_ret
    exact ⟨rfl, HG.out⟩
  rw [decide_eq_true (show ShortM ⟨p, q, k, d, ag⟩ from ⟨h0, h1⟩)]
  have g1 : decide ((d.length : Int) ≤ 300) = true := decide_eq_true (by omega)
  clear h0 h1
  go_enter Try.func61, Try.ntmps61
  go_wp2_with fail
  go_ret
  exact ⟨rfl, HG.out⟩

def shortRel (w : World) (l : List Mg) (m : Nat) (v : Value) (wr : World) : Prop :=
  ∃ i : Nat, i ≤ l.length ∧ (∀ (j : Nat) (hj : j < l.length), j < i → ShortM l[j]) ∧ v = .int .i64 i ∧ m = l.length - i ∧ Grew w wr
set_option maxRecDepth 100000 in
set_option maxHeartbeats 1000000 in
theorem batch_any (a : Option Addr) (cap : Nat) (l : List Mg) (w : World) (hf : MgsAt w a cap l) :
    Calls Try.prog 17 #[.slice a l.length cap] w fun e w' => e = .returned (.bool (decide ((∀ m ∈ l, ShortM m) ∧ l.length ≤ 12))) ∧ Grew w w' := by
  have HF := Lib.hid hf
  have hcap := hf.max
  have hlen := hf.len
  unfold maxLen at hcap
  clear hf
  go_enter Try.func17, Try.ntmps17
  go_wp2_with fail
  go_loopg [3] l.length (shortRel w l)
  case atStart => exact ⟨0, Nat.zero_le _, fun j hj h => by omega, rfl, rfl, Grew.refl _⟩
  case round =>
    obtain ⟨i, hi, hok, rfl, rfl, hg⟩ := hrel
    have HOK := Lib.hid hok
    have HG := Lib.hid hg
    have HF1 := Lib.hid (HF.out.below hg.below)
    clear hok hg
    by_cases hlt : i < l.length
    · have hlti : (i : Int) < (l.length : Int) := by omega
      have h0i : (0 : Int) ≤ (i : Int) := by omega
      have c4 : IntKind.i64.wrap ((i : Int) + 1) = (i : Int) + 1 := IntWalk.i64_in _ (by omega)
      obtain ⟨b, o, rfl, d0, d1, d2, d3, d4⟩ := MgsAt.get HF1.out i hlt
      have HS := Lib.hid (short_any l[i] wr)
      by_cases hs : ShortM l[i]
      case neg =>
        rw [decide_eq_false hs] at HS
        have HR : Hid (decide ((∀ m ∈ l, ShortM m) ∧ l.length ≤ 12) = false) := Lib.hid (decide_eq_false fun h => hs (h.1 _ (List.getElem_mem hlt)))
        clear hs
        go_wp2_with (go_at_call 61; refine HS.out.mono ?_; rintro e w2 ⟨rfl, hg2⟩; have HG2 := Lib.hid hg2; clear hg2)
        go_ret
        exact ⟨by rw [HR.out]; rfl, HG.out.trans HG2.out⟩
      rw [decide_eq_true hs] at HS
      have HSS := Lib.hid hs
      clear hs
      go_wp2_with (go_at_call 61; refine HS.out.mono ?_; rintro e w2 ⟨rfl, hg2⟩; have HG2 := Lib.hid hg2; clear hg2)
      go_roundg (l.length - (i + 1))
      case measure => omega
      case rel => exact ⟨i + 1, by omega, fun j hj h => (by by_cases e : j = i; · subst e; exact HSS.out
                                                            · exact HOK.out j hj (by omega)), by go_num, rfl, HG.out.trans HG2.out⟩
    · obtain rfl : i = l.length := by omega
      have hall : ∀ m ∈ l, ShortM m := fun m hm => by
        obtain ⟨j, hj, rfl⟩ := List.getElem_of_mem hm
        exact HOK.out j hj hj
      have HR : Hid (decide ((∀ m ∈ l, ShortM m) ∧ l.length ≤ 12) = decide ((l.length : Int) ≤ 12)) := Lib.hid (by
        by_cases h : l.length ≤ 12
        · rw [decide_eq_true ⟨hall, h⟩, decide_eq_true (by omega)]
        · rw [decide_eq_false (fun g => h g.2), decide_eq_false (by omega)])
      clear hall
      go_wp2_with fail
      go_ret
      exact ⟨ret_bool (by rw [HR.out]), HG.out⟩

end Go.Proofs.Ythohjcfpobeplaa.Sh

namespace Go.Proofs.Ythohjcfpobeplaa.Sh
open Go.RowKit Rg Go.Sort
set_option linter.unusedVariables false
set_option linter.unusedSimpArgs false

/-- a shard whose rows may be long. -/
structure SdRaw (w : World) (ra : Option Addr) (rc : Nat) (ha : Option Addr) (hc : Nat) (ma : Option Addr) (mc : Nat) (s : Sd) : Prop where
  rd : MgsAt w ra rc s.rd
  hd : HdsAt w ha hc s.hd
  ms : MksAt w ma mc s.ms
  nr : ra = none → rc = 0
  nh : ha = none → hc = 0
  nm : ma = none → mc = 0
theorem SdRaw.below {w w' : World} (ra : Option Addr) (rc : Nat) (ha : Option Addr) (hc : Nat) (ma : Option Addr) (mc : Nat) {s : Sd} (h : SdRaw w ra rc ha hc ma mc s) (hb : Below w.heap.size w w') : SdRaw w' ra rc ha hc ma mc s :=
  ⟨h.rd.below hb, h.hd.below hb, h.ms.below hb, h.nr, h.nh, h.nm⟩
def FewS (s : Sd) : Prop := s.rd.length ≤ 60 ∧ s.hd.length ≤ 60 ∧ s.ms.length ≤ 70 ∧ (∀ m ∈ s.rd, ShortM m) ∧ (∀ h ∈ s.hd, ShortM h.m) ∧ (∀ k ∈ s.ms, k.key.length ≤ 100)
instance : DecidablePred FewS := fun s => inferInstanceAs (Decidable (_ ∧ _))
def fewRel {α : Type} (ok : α → Prop) (W : World) (l : List α) (m : Nat) (v : Value) (wr : World) : Prop :=
  ∃ i : Nat, i ≤ l.length ∧ (∀ (j : Nat) (hj : j < l.length), j < i → ok l[j]) ∧ v = .int .i64 i ∧ m = l.length - i ∧ Grew W wr
theorem few_all {α : Type} {ok : α → Prop} {l : List α} (h : ∀ (j : Nat) (hj : j < l.length), j < l.length → ok l[j]) : ∀ x ∈ l, ok x := fun x hx => by
  obtain ⟨j, hj, rfl⟩ := List.getElem_of_mem hx
  exact h j hj hj
theorem few_more {α : Type} {ok : α → Prop} {l : List α} {i : Nat} (h : ∀ (j : Nat) (hj : j < l.length), j < i → ok l[j]) (hlt : i < l.length) (h1 : ok l[i]) : ∀ (j : Nat) (hj : j < l.length), j < i + 1 → ok l[j] := fun j hj hji => by
  by_cases e : j = i
  · subst e; exact h1
  · exact h j hj (by omega)

set_option maxRecDepth 100000 in
set_option maxHeartbeats 2000000 in
theorem few_raw (s : Sd) (ra : Option Addr) (rc : Nat) (ha : Option Addr) (hc : Nat) (ma : Option Addr) (mc : Nat) (w : World) (hs : SdRaw w ra rc ha hc ma mc s) :
    Calls Try.prog 16 #[.agg #[.bool s.fr, .int .i64 s.nx, .slice ra s.rd.length rc, .slice ha s.hd.length hc, .slice ma s.ms.length mc]] w fun e w' => e = .returned (.bool (decide (FewS s))) ∧ Grew w w' := by
  have HG0 := Lib.hid (Grew.alloc w (.cells #[.bool s.fr, .int .i64 s.nx, .slice ra s.rd.length rc, .slice ha s.hd.length hc, .slice ma s.ms.length mc] 26))
  obtain ⟨hx, hb0, hWs⟩ : (w.alloc (.cells #[.bool s.fr, .int .i64 s.nx, .slice ra s.rd.length rc, .slice ha s.hd.length hc, .slice ma s.ms.length mc] 26)).heap[w.heap.size]? = some (.cells #[.bool s.fr, .int .i64 s.nx, .slice ra s.rd.length rc, .slice ha s.hd.length hc, .slice ma s.ms.length mc] 26 (0, 0)) ∧ Below w.heap.size w (w.alloc (.cells #[.bool s.fr, .int .i64 s.nx, .slice ra s.rd.length rc, .slice ha s.hd.length hc, .slice ma s.ms.length mc] 26)) ∧ (w.alloc (.cells #[.bool s.fr, .int .i64 s.nx, .slice ra s.rd.length rc, .slice ha s.hd.length hc, .slice ma s.ms.length mc] 26)).heap.size = w.heap.size + 1 := ⟨heap_alloc_new _ _, (Below.refl _ _).alloc (Nat.le_refl _) _, by simp⟩
  obtain ⟨W, hW⟩ : ∃ W, W = w.alloc (.cells #[.bool s.fr, .int .i64 s.nx, .slice ra s.rd.length rc, .slice ha s.hd.length hc, .slice ma s.ms.length mc] 26) := ⟨_, rfl⟩
  rw [← hW] at hx hb0 hWs HG0
  have HW := Lib.hid hW
  have HX := Lib.hid hx
  have HS := Lib.hid (hs.below ra rc ha hc ma mc hb0)
  have HWS := Lib.hid hWs
  have HXB : Hid (∀ wx, Below W.heap.size W wx → wx.cell? ⟨w.heap.size, 2, none⟩ = some (.slice ra s.rd.length rc) ∧ wx.cell? ⟨w.heap.size, 3, none⟩ = some (.slice ha s.hd.length hc) ∧ wx.cell? ⟨w.heap.size, 4, none⟩ = some (.slice ma s.ms.length mc)) := Lib.hid fun wx hx => by
    have g1 := (hx.block _ (by rw [HWS.out]; omega)).trans HX.out
    exact ⟨(box5 g1).1.2.2.1, (box5 g1).1.2.2.2.1, (box5 g1).1.2.2.2.2⟩
  have hr1 := hs.rd.len
  have hr2 := hs.rd.max
  have hh1 := hs.hd.len
  have hh2 := hs.hd.max
  have hm1 := hs.ms.len
  have hm2 := hs.ms.max
  unfold maxLen at hr2 hh2 hm2
  clear hs hx hb0 hWs hW
  by_cases h1 : 60 < s.rd.length
  · have HR : Hid (decide (FewS s) = false) := Lib.hid (decide_eq_false fun g => by have := g.1; omega)
    have e1 : decide ((60 : Int) < (s.rd.length : Int)) = true := decide_eq_true (by omega)
    clear h1
    go_enter Try.func16, Try.ntmps16
    go_wp2_with fail
    go_ret
    exact ⟨by rw [HR.out]; rfl, HW.out ▸ HG0.out⟩
  have e1 : decide ((60 : Int) < (s.rd.length : Int)) = false := decide_eq_false (by omega)
  by_cases h2 : 60 < s.hd.length
  · have HR : Hid (decide (FewS s) = false) := Lib.hid (decide_eq_false fun g => by have := g.2.1; omega)
    have e2 : decide ((60 : Int) < (s.hd.length : Int)) = true := decide_eq_true (by omega)
    clear h1 h2
    go_enter Try.func16, Try.ntmps16
    go_wp2_with fail
    go_ret
    exact ⟨by rw [HR.out]; rfl, HW.out ▸ HG0.out⟩
  have e2 : decide ((60 : Int) < (s.hd.length : Int)) = false := decide_eq_false (by omega)
  by_cases h3 : 70 < s.ms.length
  · have HR : Hid (decide (FewS s) = false) := Lib.hid (decide_eq_false fun g => by have := g.2.2.1; omega)
    have e3 : decide ((70 : Int) < (s.ms.length : Int)) = true := decide_eq_true (by omega)
    clear h1 h2 h3
    go_enter Try.func16, Try.ntmps16
    go_wp2_with fail
    go_ret
    exact ⟨by rw [HR.out]; rfl, HW.out ▸ HG0.out⟩
  have e3 : decide ((70 : Int) < (s.ms.length : Int)) = false := decide_eq_false (by omega)
  have HL := Lib.hid (show s.rd.length ≤ 60 ∧ s.hd.length ≤ 60 ∧ s.ms.length ≤ 70 by omega)
  clear h1 h2 h3
  go_enter Try.func16, Try.ntmps16
  go_wp2_with fail
  clear e1 e2 e3
  rw [← HW.out]
  go_loopg [3] s.rd.length (fewRel ShortM W s.rd)
  case atStart => exact ⟨0, Nat.zero_le _, fun j hj h => by omega, rfl, rfl, Grew.refl _⟩
  case round =>
    obtain ⟨i, hi, hok, rfl, rfl, hg⟩ := hrel
    have HOK := Lib.hid hok
    have HG := Lib.hid hg
    have HF1 := Lib.hid (HS.out.below ra rc ha hc ma mc hg.below)
    obtain ⟨x2, x3, x4⟩ := HXB.out _ hg.below
    clear hok hg
    by_cases hlt : i < s.rd.length
    · have hlti : (i : Int) < (s.rd.length : Int) := by omega
      have h0i : (0 : Int) ≤ (i : Int) := by omega
      have c4 : IntKind.i64.wrap ((i : Int) + 1) = (i : Int) + 1 := IntWalk.i64_in _ (by omega)
      obtain ⟨b, o, rfl, d0, d1, d2, d3, d4⟩ := MgsAt.get HF1.out.rd i hlt
      have HSC := Lib.hid (short_any s.rd[i] wr)
      by_cases hs : ShortM s.rd[i]
      case neg =>
        have HR : Hid (decide (FewS s) = false) := Lib.hid (decide_eq_false fun h => hs (h.2.2.2.1 _ (List.getElem_mem hlt)))
        rw [decide_eq_false hs] at HSC
        clear hs
        go_wp2_with (go_at_call 61; refine HSC.out.mono ?_; rintro e w2 ⟨rfl, hg2⟩; have HG2 := Lib.hid hg2; clear hg2)
        go_ret
        exact ⟨by rw [HR.out]; rfl, HG0.out.trans (HG.out.trans HG2.out)⟩
      rw [decide_eq_true hs] at HSC
      have HSS := Lib.hid hs
      clear hs
      go_wp2_with (go_at_call 61; refine HSC.out.mono ?_; rintro e w2 ⟨rfl, hg2⟩; have HG2 := Lib.hid hg2; clear hg2)
      go_roundg (s.rd.length - (i + 1))
      case measure => omega
      case rel => exact ⟨i + 1, by omega, few_more (ok := ShortM) HOK.out hlt HSS.out, by go_num, rfl, HG.out.trans HG2.out⟩
    · obtain rfl : i = s.rd.length := by omega
      have HA0 := Lib.hid (few_all (ok := ShortM) HOK.out)
      have HGL0 := Lib.hid HG.out
      clear HOK HG HF1
      go_wp2_with fail
      clear x2 x3 x4
      go_loopg [4] s.hd.length (fewRel (fun h : Hd => ShortM h.m) W s.hd)
      case atStart => exact ⟨0, Nat.zero_le _, fun j hj h => by omega, rfl, rfl, HGL0.out⟩
      case round =>
        obtain ⟨i, hi, hok, rfl, rfl, hg⟩ := hrel
        have HOK := Lib.hid hok
        have HG := Lib.hid hg
        have HF1 := Lib.hid (HS.out.below ra rc ha hc ma mc hg.below)
        obtain ⟨x2, x3, x4⟩ := HXB.out _ hg.below
        clear hok hg
        by_cases hlt : i < s.hd.length
        · have hlti : (i : Int) < (s.hd.length : Int) := by omega
          have h0i : (0 : Int) ≤ (i : Int) := by omega
          have c4 : IntKind.i64.wrap ((i : Int) + 1) = (i : Int) + 1 := IntWalk.i64_in _ (by omega)
          obtain ⟨b, o, rfl, d0, d1, d2, d3, d4, d5⟩ := HdsAt.get HF1.out.hd i hlt
          have HSC := Lib.hid (short_any s.hd[i].m wr)
          by_cases hs : ShortM s.hd[i].m
          case neg =>
            have HR : Hid (decide (FewS s) = false) := Lib.hid (decide_eq_false fun h => hs (h.2.2.2.2.1 _ (List.getElem_mem hlt)))
            rw [decide_eq_false hs] at HSC
            clear hs
            go_wp2_with (go_at_call 61; refine HSC.out.mono ?_; rintro e w2 ⟨rfl, hg2⟩; have HG2 := Lib.hid hg2; clear hg2)
            go_ret
            exact ⟨by rw [HR.out]; rfl, HG0.out.trans (HG.out.trans HG2.out)⟩
          rw [decide_eq_true hs] at HSC
          have HSS := Lib.hid hs
          clear hs
          go_wp2_with (go_at_call 61; refine HSC.out.mono ?_; rintro e w2 ⟨rfl, hg2⟩; have HG2 := Lib.hid hg2; clear hg2)
          go_roundg (s.hd.length - (i + 1))
          case measure => omega
          case rel => exact ⟨i + 1, by omega, few_more (ok := (fun h : Hd => ShortM h.m)) HOK.out hlt HSS.out, by go_num, rfl, HG.out.trans HG2.out⟩
        · obtain rfl : i = s.hd.length := by omega
          have HA1 := Lib.hid (few_all (ok := (fun h : Hd => ShortM h.m)) HOK.out)
          have HGL1 := Lib.hid HG.out
          clear HOK HG HF1
          go_wp2_with fail
          clear x2 x3 x4
          go_loopg [5] s.ms.length (fewRel (fun k : Mk => k.key.length ≤ 100) W s.ms)
          case atStart => exact ⟨0, Nat.zero_le _, fun j hj h => by omega, rfl, rfl, HGL1.out⟩
          case round =>
            obtain ⟨i, hi, hok, rfl, rfl, hg⟩ := hrel
            have HOK := Lib.hid hok
            have HG := Lib.hid hg
            have HF1 := Lib.hid (HS.out.below ra rc ha hc ma mc hg.below)
            obtain ⟨x2, x3, x4⟩ := HXB.out _ hg.below
            clear hok hg
            by_cases hlt : i < s.ms.length
            · have hlti : (i : Int) < (s.ms.length : Int) := by omega
              have h0i : (0 : Int) ≤ (i : Int) := by omega
              have c4 : IntKind.i64.wrap ((i : Int) + 1) = (i : Int) + 1 := IntWalk.i64_in _ (by omega)
              obtain ⟨b, o, rfl, d0, d1, d2⟩ := MksAt.get HF1.out.ms i hlt
              have hsk : (⟨s.ms[i].key.toArray⟩ : ByteArray).size = s.ms[i].key.length := rfl
              by_cases hs : s.ms[i].key.length ≤ 100
              case neg =>
                have HR : Hid (decide (FewS s) = false) := Lib.hid (decide_eq_false fun h => hs (h.2.2.2.2.2 _ (List.getElem_mem hlt)))
                have g0 : (100 : Int) < (s.ms[i].key.length : Int) := by omega
                clear hs
                go_wp2_with fail
                go_ret
                exact ⟨by rw [HR.out]; rfl, HG0.out.trans HG.out⟩
              have g0 : ¬ (100 : Int) < (s.ms[i].key.length : Int) := by omega
              have HSS := Lib.hid hs
              clear hs
              go_wp2_with fail
              go_roundg (s.ms.length - (i + 1))
              case measure => omega
              case rel => exact ⟨i + 1, by omega, few_more (ok := (fun k : Mk => k.key.length ≤ 100)) HOK.out hlt HSS.out, by go_num, rfl, HG.out⟩
            · obtain rfl : i = s.ms.length := by omega
              have HA2 := Lib.hid (few_all (ok := (fun k : Mk => k.key.length ≤ 100)) HOK.out)
              have HGL2 := Lib.hid HG.out
              clear HOK HG HF1
              go_wp2_with fail
              clear x2 x3 x4
              have HR : Hid (decide (FewS s) = true) := Lib.hid (decide_eq_true ⟨HL.out.1, HL.out.2.1, HL.out.2.2, HA0.out, HA1.out, HA2.out⟩)
              go_ret
              exact ⟨by rw [HR.out]; rfl, HG0.out.trans HGL2.out⟩

theorem SdRaw.sd {w : World} (ra : Option Addr) (rc : Nat) (ha : Option Addr) (hc : Nat) (ma : Option Addr) (mc : Nat) {s : Sd} (h : SdRaw w ra rc ha hc ma mc s) (hf : FewS s) : SdAt w ra rc ha hc ma mc s := by
  obtain ⟨h1, h2, h3, -⟩ := hf
  exact ⟨h.rd, h.hd, h.ms, h.nr, h.nh, h.nm, by omega, by omega, by omega⟩

end Go.Proofs.Ythohjcfpobeplaa.Sh
