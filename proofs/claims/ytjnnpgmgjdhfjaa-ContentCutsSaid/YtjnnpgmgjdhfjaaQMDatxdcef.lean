/-
  appendBody, walked: a body's pieces, each copied.
  Tables as plain data: which may be, their bytes, and what bytes are read as; no program here.
  Calls as plain data: their parts, which may be, their bytes; no program here.
-/
import Derived.Test.YtjnnpgmgjdhfjaaQCLeafxefbf
import Derived.Test.YtjnnpgmgjdhfjaaQOctDxbefc
namespace Go.Proofs.Ytjnnpgmgjdhfjaa
open Go.RowKit
set_option linter.unusedVariables false
variable {B : Nat}

/-- a body's pieces. -/
def pcs (most : Nat) (l : List UInt8) : List (List UInt8) := (List.range ((l.length + most - 1) / most)).map fun i => (l.drop (i * most)).take most
def bodyF (ch : Int) (most : Nat) (l : List UInt8) : List Fr := (pcs most l).map fun d => ⟨3, ch, d⟩
@[simp] theorem pcs_length (most : Nat) (l : List UInt8) : (pcs most l).length = (l.length + most - 1) / most := by simp [pcs]
@[simp] theorem bodyF_length (ch : Int) (most : Nat) (l : List UInt8) : (bodyF ch most l).length = (l.length + most - 1) / most := by simp [bodyF]
theorem pcs_get {most : Nat} {l : List UInt8} {i : Nat} (h : i < (pcs most l).length) : (pcs most l)[i] = (l.drop (i * most)).take most := by simp [pcs]
theorem pcs_upto {most n i : Nat} (hm : 0 < most) (h : i * most < n) (h2 : n ≤ (i + 1) * most) : (n + most - 1) / most = i + 1 := by
  have e : (i + 1) * most = i * most + most := Nat.succ_mul _ _
  rw [e] at h2
  rw [show n + most - 1 = (n - i * most - 1) + (i + 1) * most by rw [e]; omega, Nat.add_mul_div_right _ _ hm, Nat.div_eq_of_lt (by omega)]
  omega
theorem pcs_lt {most n i : Nat} (hm : 0 < most) (h : i * most < n) : i < (n + most - 1) / most := by
  have : i + 1 ≤ (n + most - 1) / most := by
    rw [Nat.le_div_iff_mul_le hm, Nat.succ_mul]
    omega
  omega
theorem pcs_end {most n i : Nat} (hm : 0 < most) (h : n ≤ i * most) : (n + most - 1) / most ≤ i := by
  have : (n + most - 1) / most < i + 1 := by
    rw [Nat.div_lt_iff_lt_mul hm, Nat.succ_mul]
    omega
  omega
theorem bodyF_step {ch : Int} {most : Nat} {l : List UInt8} {i : Nat} (h : i < (l.length + most - 1) / most) : (bodyF ch most l).take (i + 1) = (bodyF ch most l).take i ++ [⟨3, ch, (l.drop (i * most)).take most⟩] := by
  rw [List.take_succ_eq_append_getElem (by simpa using h)]
  simp [bodyF, pcs]

def bodyRel (base B : Nat) (zs0 : List FZ) (ch : Int) (l : List UInt8) (most : Nat) (w : World) (m : Nat) (a' : Act) (w' : World) : Prop :=
  ∃ (i : Nat) (zs : List FZ) (lv : Value) (a : Option Addr) (n c : Nat) (u4 u5 u6 u7 : Value) (u9 u10 u11 u12 u13 u14 u15 u16 u17 u18 u19 u20 u21 u22 u23 u24 u25 u26 u27 u28 u29 : Value), a' = { tmps := #[lv, .int .i64 ch, .slice a n c, .int .i64 most, u4, u5, u6, u7, .slice none 0 0, u9, u10, u11, u12, u13, u14, u15, u16, u17, u18, u19, u20, u21, u22, u23, u24, u25, u26, u27, u28, u29], defers := [] } ∧
    n = (l.drop (i * most)).length ∧ m = n ∧ n ≤ c ∧ c ≤ maxLen ∧ BytesAt B w' a (l.drop (i * most)) ∧ Below base w w' ∧ zs.map (·.1) = zs0.map (·.1) ++ (bodyF ch most l).take i ∧ i ≤ (l.length + most - 1) / most ∧
    w'.ownsRow base 36 3 lv zs.length (zs.flatMap fzc) ∧ (∀ z ∈ zs, FZOk lv.ownBlock w' z)

set_option maxRecDepth 100000 in
set_option maxHeartbeats 8000000 in
theorem body_any (base : Nat) (lv : Value) (zs0 : List FZ) (ch : Int) (a : Option Addr) (cap : Nat) (l : List UInt8) (most : Nat) (hm8 : 8 ≤ most) (hm : most ≤ 4096) (hl : l.length ≤ 65536) (hlc : l.length ≤ cap) (hcap : cap ≤ maxLen) (w : World)
    (hown : w.ownsRow base 36 3 lv zs0.length (zs0.flatMap fzc)) (hz : ∀ z ∈ zs0, FZOk lv.ownBlock w z) (hbase : base ≤ w.heap.size) (hz0 : zs0.length ≤ 1000) (hB : B ≤ base) (hat : BytesAt B w a l) :
    Calls Try.prog 22 #[lv, .int .i64 ch, .slice a l.length cap, .int .i64 most] w fun e w' => ∃ (lv' : Value) (zs : List FZ), e = .returned lv' ∧ zs.map (·.1) = zs0.map (·.1) ++ bodyF ch most l ∧
      w'.ownsRow base 36 3 lv' zs.length (zs.flatMap fzc) ∧ (∀ z ∈ zs, FZOk lv'.ownBlock w' z) ∧ Below base w w' := by
  have HOWN := Lib.hid hown
  have HZ := Lib.hid hz
  have HAT := Lib.hid hat
  clear hown hz hat
  have hcap' := hcap
  unfold maxLen at hcap
  go_enter Try.func22, Try.ntmps22
  go_wp2
  refine wp_scope_ghost 0 (bodyRel base B zs0 ch l most w) rfl ?_ ?_
  · intro H hb'
    have HBK := Lib.hid hb'
    clear hb'
    go_wp2
    go_step3
    rename_i hK
    refine hK _ _ (HBK.out l.length _ _ ⟨0, zs0, lv, a, l.length, cap, ?_⟩)
    repeat apply Exists.intro
    exact ⟨rfl, by simp, rfl, hlc, hcap', by simpa using HAT.out, Below.refl _ _, by simp, Nat.zero_le _, by simpa using HOWN.out, by simpa using HZ.out⟩
  · rintro m a' w' ⟨i, zs, lv, a, n, c, u4, u5, u6, u7, u9, u10, u11, u12, u13, u14, u15, u16, u17, u18, u19, u20, u21, u22, u23, u24, u25, u26, u27, u28, u29, rfl, hn, rfl, hnc, hcm, hat, hbel, hzs, hik, hown, hz⟩ H hH
    clear HOWN HZ HAT
    have hcm' := hcm
    unfold maxLen at hcm'
    obtain ⟨la, lc, rfl⟩ := own_form hown
    have HB := Lib.hid hbel
    have HOWN := Lib.hid hown
    have HZ := Lib.hid hz
    have HAT := Lib.hid hat
    have HZS := Lib.hid hzs
    have HH := Lib.hid hH
    have HN := Lib.hid hn
    clear hbel hown hz hat hzs hH
    rw [List.length_drop] at hn
    by_cases h0 : 0 < m
    · have hlt : i * most < l.length := by omega
      have hil := pcs_lt (by omega) hlt
      have HIL := Lib.hid hil
      have hlen : zs.length = zs0.length + i := by
        have := congrArg List.length HZS.out
        rw [List.length_map, List.length_append, List.length_map, List.length_take, bodyF_length] at this
        omega
      have hi5 : i ≤ 65536 := by
        have h1 : i * 1 ≤ i * most := Nat.mul_le_mul_left _ (by omega)
        omega
      obtain ⟨d, hd⟩ : ∃ d, d = (l.drop (i * most)).take most := ⟨_, rfl⟩
      obtain ⟨k, hk⟩ : ∃ k : Nat, k = min most m := ⟨_, rfl⟩
      have hdl : d.length = k := by rw [hd, List.length_take, ← HN.out, hk]
      have hrest : l.drop ((i + 1) * most) = (l.drop (i * most)).drop k := by
        rw [List.drop_drop, hk, Nat.succ_mul]
        by_cases h : most ≤ m
        · rw [Nat.min_eq_left h]
        · rw [List.drop_eq_nil_of_le (by omega), List.drop_eq_nil_of_le (by omega)]
      have hk0 : 0 < k := by omega
      have hkm : k ≤ m := by omega
      have i0 : (0 : Int) ≤ (k : Int) := by omega
      have i1 : (k : Int) ≤ (c : Int) := by omega
      have i2 : (k : Int) ≤ (m : Int) := by omega
      have hcl := clone_any (B := B) a c d (by omega) hcm (by omega) w' (by rw [hd]; exact HAT.out.take most)
      rw [hdl] at hcl
      have HCL := Lib.hid hcl
      have HDL := Lib.hid hdl
      have HREST := Lib.hid hrest
      have HD := Lib.hid hd
      have hz1 : zs.length ≤ 1000000000 := by omega
      have hra : ∀ W, BytesAt B W a (l.drop (i * most)) → BytesAt B W (a.map (·.add k)) (l.drop ((i + 1) * most)) := by
        intro W hW
        rw [hrest]
        by_cases h : k < (l.drop (i * most)).length
        · exact hW.dropm k h
        · intro h0
          rw [List.length_drop] at h0
          omega
      have hrn : c = k → ∀ W (x : Option Addr), BytesAt B W x (l.drop ((i + 1) * most)) := by
        intro hck W x h0
        rw [hrest, List.length_drop, ← HN.out] at h0
        omega
      have HRA := Lib.hid hra
      have HRN := Lib.hid hrn
      have HK := Lib.hid hk
      have hwk : (m < most ∧ m = k) ∨ (¬ m < most ∧ most = k) := by omega
      clear hra hrn hlen hcl hdl hrest hd hk hn hik hil
      have hck : (k = c) ∨ (¬ c = k) := by omega
      rcases hwk with ⟨hmm, hkk⟩ | ⟨hmm, hkk⟩ <;> rcases hck with hck | hck
      all_goals
        have HKK := Lib.hid hkk
        have HCK := Lib.hid hck
        subst hkk
        try subst hck
        go_wp2_with fail
        refine HCL.out.mono ?_
        rintro e w1 ⟨v, rfl, hb1, hbel1⟩
        obtain ⟨a1, c1, rfl, hl1, hm1⟩ := hb1.form
        rw [HDL.out]
        have hown1 := World.ownsRow.below1 HOWN.out hbel1
        have hzk1 : ∀ z ∈ zs, FZOk (Value.slice la zs.length lc).ownBlock w1 z := fun z hz => ⟨(HZ.out z hz).dat.below hbel1, (HZ.out z hz).len, (HZ.out z hz).max⟩
        have hzn : FZOk (Value.slice la zs.length lc).ownBlock w1 (⟨3, ch, d⟩, (a1, c1)) := by
          refine ⟨fun h0 => ?_, hl1, hm1⟩
          obtain ⟨g, cg, he, hg, hbb⟩ := hb1.bytes1 h0
          obtain ⟨rfl, -, rfl⟩ := Value.slice.inj he
          obtain ⟨b, o, he2, hlt2, hcc⟩ := hbb.at h0
          cases he2
          refine ⟨g, 0, rfl, hlt2, fun e => ?_, hcc⟩
          have := World.ownsRow.lt HOWN.out g e
          omega
        have HOWN1 := Lib.hid hown1
        have HZ1 := Lib.hid (And.intro hzk1 hzn)
        have HB1 := Lib.hid (HB.out.trans (hbel1.mono (Nat.le_trans hbase HB.out.size)))
        have hws1 := hbel1.size
        have HBEL1 := Lib.hid hbel1
        have hbs1 : base ≤ w1.heap.size := by have := HB1.out.size; omega
        clear hb1 hbel1 hl1 hm1 hown1 hzk1 hzn
        go_wp2_with (at_builtin; refine put_frame (⟨3, ch, d⟩, (a1, c1)) rfl (.tmp 17) (.tmp 24) rfl HOWN1.out hbs1 hz1 (by rw [← HDL.out]; rfl) rfl _ rfl rfl ?_; intro g4 cap4 w4 hown4 hg4 hat4; have HOWN4 := Lib.hid hown4; have HG4 := Lib.hid hg4; have HAT4 := Lib.hid hat4; clear hown4 hg4 hat4)
        go_step3
        have hmn : (l.drop ((i + 1) * most)).length < m := by rw [HREST.out, List.length_drop, ← HN.out]; omega
        refine ⟨rfl, HH.out (l.drop ((i + 1) * most)).length _ _ hmn ⟨i + 1, zs ++ [(⟨3, ch, d⟩, (a1, c1))], .slice (some ⟨g4, 0, none⟩) (zs.length + 1) cap4, ?_⟩⟩
        repeat apply Exists.intro
        have hat4 : BytesAt B w4 a (l.drop (i * most)) := by
          have hsz := HB.out.size
          have h1 : Below B w' w1 := HBEL1.out.mono (by omega)
          exact HAT.out.under (h1.grown HG4.out (by omega) (fun k e => by have := (World.ownsRow.lt HOWN.out k e).1; omega))
        refine ⟨rfl, ?_, ?_, ?_, ?_, ?_, ?_, ?_, HIL.out, HOWN4.out, ?_⟩
        · first
            | (rw [HREST.out, List.length_drop, ← HN.out]; done)
            | (rw [HREST.out, List.length_drop, ← HN.out]; omega)
        · first
            | (rw [HREST.out, List.length_drop, ← HN.out]; done)
            | (rw [HREST.out, List.length_drop, ← HN.out]; omega)
        · omega
        · unfold maxLen; omega
        · first
            | exact HRA.out _ hat4
            | exact HRN.out rfl _ _
            | exact HRN.out trivial _ _
        · exact HB1.out.grown HG4.out hbs1 (fun k e => (World.ownsRow.lt HOWN.out k e).1)
        · rw [List.map_append, HZS.out, bodyF_step HIL.out, HD.out]
          simp
        · intro z hz
          have hk : ∀ z, FZOk (Value.slice la zs.length lc).ownBlock w1 z → FZOk (Value.slice (some ⟨g4, 0, none⟩) (zs.length + 1) cap4).ownBlock w4 z := fun z h =>
            ⟨h.dat.grown HG4.out (fun g e => by
              have eg : g4 = g := by simpa [Value.ownBlock] using e
              rcases HAT4.out with h1 | h1
              · exact .inl (by rw [h1, eg])
              · exact .inr (by omega)), h.len, h.max⟩
          rcases List.mem_append.1 hz with hz | hz
          · exact hk z (HZ1.out.1 z hz)
          · obtain rfl := List.mem_singleton.1 hz
            exact hk _ HZ1.out.2
    · go_wp2
      simp only [Exit.jump]
      go_ret
      have hend : l.length ≤ i * most := by omega
      have := pcs_end (by omega) hend
      refine ⟨_, zs, rfl, ?_, HOWN.out, HZ.out, HB.out⟩
      rw [HZS.out, List.take_of_length_le (by simp; omega)]

end Go.Proofs.Ytjnnpgmgjdhfjaa

namespace Go.Proofs.Ytjnnpgmgjdhfjaa
set_option linter.unusedVariables false

/-- an item: its name, and its value's four parts. -/
inductive It where
  | mk (name : ByteArray) (kind n : Int) (s : ByteArray) (sub : List It)

namespace It
def name : It → ByteArray | mk a _ _ _ _ => a
def kind : It → Int | mk _ k _ _ _ => k
def n : It → Int | mk _ _ n _ _ => n
def s : It → ByteArray | mk _ _ _ s _ => s
def sub : It → List It | mk _ _ _ _ l => l
@[simp] theorem name_mk (a : ByteArray) (k n : Int) (s : ByteArray) (l : List It) : (It.mk a k n s l).name = a := rfl
@[simp] theorem kind_mk (a : ByteArray) (k n : Int) (s : ByteArray) (l : List It) : (It.mk a k n s l).kind = k := rfl
@[simp] theorem n_mk (a : ByteArray) (k n : Int) (s : ByteArray) (l : List It) : (It.mk a k n s l).n = n := rfl
@[simp] theorem s_mk (a : ByteArray) (k n : Int) (s : ByteArray) (l : List It) : (It.mk a k n s l).s = s := rfl
@[simp] theorem sub_mk (a : ByteArray) (k n : Int) (s : ByteArray) (l : List It) : (It.mk a k n s l).sub = l := rfl
theorem eta (x : It) : It.mk x.name x.kind x.n x.s x.sub = x := by cases x; rfl
theorem ext' {x y : It} (h1 : x.name = y.name) (h2 : x.kind = y.kind) (h3 : x.n = y.n) (h4 : x.s = y.s) (h5 : x.sub = y.sub) : x = y := by
  cases x; cases y; simp_all
end It

/-- how many items there are in all, one more for the list itself. -/
def weigh : List It → Nat
  | [] => 1
  | .mk _ _ _ _ sub :: r => weigh sub + weigh r
theorem weigh_pos : ∀ l : List It, 0 < weigh l
  | [] => by simp [weigh]
  | .mk _ _ _ _ sub :: r => by have := weigh_pos r; simp only [weigh]; omega
theorem weigh_cons (x : It) (r : List It) : weigh (x :: r) = weigh x.sub + weigh r := by cases x; simp [weigh]
theorem weigh_mem : ∀ {l : List It} {x : It}, x ∈ l → weigh x.sub < weigh l
  | [], x, h => by simp at h
  | y :: r, x, h => by
    rw [weigh_cons]
    rcases List.mem_cons.1 h with rfl | h
    · have := weigh_pos r; omega
    · have := weigh_mem h; omega

/-- names within a table: of 1 to 40 bytes, all unlike. -/
def Named (l : List It) : Prop := ∀ (i : Nat) (h : i < l.length), 1 ≤ l[i].name.size ∧ l[i].name.size ≤ 40 ∧ ∀ (j : Nat) (hj : j < i), (l[j]'(by omega)).name ≠ l[i].name

mutual
/-- an item's value may be; a table within it stands so deep. -/
def It.May (d : Nat) : It → Prop
  | .mk _ k n s sub =>
    (k = 0 ∧ n = 0 ∧ s.size = 0 ∧ sub = []) ∨ (k = 1 ∧ (n = 0 ∨ n = 1) ∧ s.size = 0 ∧ sub = []) ∨
    (k = 2 ∧ (-2147483648 ≤ n ∧ n ≤ 2147483647) ∧ s.size = 0 ∧ sub = []) ∨ (k = 3 ∧ s.size = 0 ∧ sub = []) ∨
    (k = 4 ∧ n = 0 ∧ s.size ≤ 200 ∧ sub = []) ∨
    (k = 5 ∧ n = 0 ∧ s.size = 0 ∧ (d ≤ 4 ∧ sub.length ≤ 32 ∧ Named sub ∧ MayAll (d + 1) sub))
def MayAll (d : Nat) : List It → Prop
  | [] => True
  | x :: r => x.May d ∧ MayAll d r
end
/-- a table may be, so deep. -/
def MayT (d : Nat) (l : List It) : Prop := d ≤ 4 ∧ l.length ≤ 32 ∧ Named l ∧ MayAll (d + 1) l

theorem may_iff (d : Nat) (x : It) : x.May d ↔
    (x.kind = 0 ∧ x.n = 0 ∧ x.s.size = 0 ∧ x.sub = []) ∨ (x.kind = 1 ∧ (x.n = 0 ∨ x.n = 1) ∧ x.s.size = 0 ∧ x.sub = []) ∨
    (x.kind = 2 ∧ (-2147483648 ≤ x.n ∧ x.n ≤ 2147483647) ∧ x.s.size = 0 ∧ x.sub = []) ∨ (x.kind = 3 ∧ x.s.size = 0 ∧ x.sub = []) ∨
    (x.kind = 4 ∧ x.n = 0 ∧ x.s.size ≤ 200 ∧ x.sub = []) ∨ (x.kind = 5 ∧ x.n = 0 ∧ x.s.size = 0 ∧ MayT d x.sub) := by
  cases x; simp only [It.May, MayT, It.kind_mk, It.n_mk, It.s_mk, It.sub_mk]

theorem mayAll_iff (d : Nat) : ∀ l : List It, MayAll d l ↔ ∀ x ∈ l, x.May d
  | [] => by simp [MayAll]
  | x :: r => by simp [MayAll, mayAll_iff d r]

theorem named_snoc {l : List It} {x : It} : Named (l ++ [x]) ↔ Named l ∧ 1 ≤ x.name.size ∧ x.name.size ≤ 40 ∧ ∀ y ∈ l, y.name ≠ x.name := by
  constructor
  · intro h
    refine ⟨fun i hi => ?_, ?_⟩
    · obtain ⟨a, b, c⟩ := h i (by simp; omega)
      simp only [List.getElem_append_left hi] at a b c
      refine ⟨a, b, fun j hj => ?_⟩
      have := c j hj
      rwa [List.getElem_append_left (by omega)] at this
    · obtain ⟨a, b, c⟩ := h l.length (by simp)
      simp only [List.getElem_append_right (Nat.le_refl _), Nat.sub_self, List.getElem_cons_zero] at a b c
      refine ⟨a, b, fun y hy => ?_⟩
      obtain ⟨j, hj, rfl⟩ := List.getElem_of_mem hy
      have := c j hj
      rwa [List.getElem_append_left hj] at this
  · rintro ⟨h, a, b, c⟩ i hi
    by_cases hl : i < l.length
    · obtain ⟨a', b', c'⟩ := h i hl
      simp only [List.getElem_append_left hl]
      refine ⟨a', b', fun j hj => ?_⟩
      rw [List.getElem_append_left (by omega)]
      exact c' j hj
    · have he : i = l.length := by simp at hi; omega
      subst he
      simp only [List.getElem_append_right (Nat.le_refl _), Nat.sub_self, List.getElem_cons_zero]
      refine ⟨a, b, fun j hj => ?_⟩
      rw [List.getElem_append_left (by omega)]
      exact c _ (List.getElem_mem _)
theorem named_nil : Named [] := fun i h => by simp at h
theorem mayAll_snoc {d : Nat} {l : List It} {x : It} : MayAll d (l ++ [x]) ↔ MayAll d l ∧ x.May d := by
  simp only [mayAll_iff, List.mem_append, List.mem_singleton]
  constructor
  · intro h; exact ⟨fun y hy => h y (.inl hy), h x (.inr rfl)⟩
  · rintro ⟨h, hx⟩ y (hy | rfl)
    · exact h y hy
    · exact hx
/-- what holds of the first k items. -/
def Upto (d k : Nat) (l : List It) : Prop := Named (l.take k) ∧ MayAll d (l.take k)
theorem upto_zero (d : Nat) (l : List It) : Upto d 0 l := by simp [Upto, named_nil, MayAll]
theorem upto_succ {d k : Nat} {l : List It} (hk : k < l.length) : Upto d (k + 1) l ↔ Upto d k l ∧ (1 ≤ l[k].name.size ∧ l[k].name.size ≤ 40 ∧ ∀ y ∈ l.take k, y.name ≠ l[k].name) ∧ l[k].May d := by
  unfold Upto
  rw [List.take_succ_eq_append_getElem hk, named_snoc, mayAll_snoc]
  constructor
  · rintro ⟨⟨a, b⟩, c, e⟩; exact ⟨⟨a, c⟩, b, e⟩
  · rintro ⟨⟨a, c⟩, b, e⟩; exact ⟨⟨a, b⟩, c, e⟩
theorem upto_mono {d k m : Nat} {l : List It} (h : Upto d m l) (hk : k ≤ m) : Upto d k l := by
  obtain ⟨a, b⟩ := h
  refine ⟨fun i hi => ?_, ?_⟩
  · simp only [List.length_take] at hi
    obtain ⟨x, y, z⟩ := a i (by simp; omega)
    simp only [List.getElem_take] at x y z ⊢
    exact ⟨x, y, fun j hj => z j hj⟩
  · rw [mayAll_iff] at b ⊢
    intro x hx
    exact b x (List.mem_of_mem_take (show x ∈ (l.take m).take k by rw [List.take_take, Nat.min_eq_left hk]; exact hx))
theorem mayT_upto {d : Nat} {l : List It} : MayT d l ↔ d ≤ 4 ∧ l.length ≤ 32 ∧ Upto (d + 1) l.length l := by
  unfold MayT Upto; rw [List.take_length]

/-! ### bytes -/
/-- a signed number's 64 bits. -/
def u64 (n : Int) : Nat := (n % 18446744073709551616).toNat

mutual
/-- an item's bytes: its name, its value. -/
def It.put : It → List UInt8
  | .mk name k n s sub => UInt8.ofNat name.size :: name.data.toList ++
    (if k = 1 then 116 :: be 1 (u64 n) else if k = 2 then 73 :: be 4 (u64 n) else if k = 3 then 108 :: be 8 (u64 n)
     else if k = 4 then 83 :: (be 4 s.size ++ s.data.toList) else if k = 5 then 70 :: (be 4 (putAll sub).length ++ putAll sub) else [86])
def putAll : List It → List UInt8
  | [] => []
  | x :: r => x.put ++ putAll r
end
/-- a table's bytes. -/
def putT (l : List It) : List UInt8 := be 4 (putAll l).length ++ putAll l
theorem putAll_append (l m : List It) : putAll (l ++ m) = putAll l ++ putAll m := by
  induction l with
  | nil => simp [putAll]
  | cons x r ih => simp [putAll, ih]
theorem putT_length (l : List It) : (putT l).length = 4 + (putAll l).length := by simp [putT]
/-- a value's bytes. -/
def It.putV (x : It) : List UInt8 :=
  if x.kind = 1 then 116 :: be 1 (u64 x.n) else if x.kind = 2 then 73 :: be 4 (u64 x.n) else if x.kind = 3 then 108 :: be 8 (u64 x.n)
     else if x.kind = 4 then 83 :: (be 4 x.s.size ++ x.s.data.toList) else if x.kind = 5 then 70 :: putT x.sub else [86]
theorem put_eq (x : It) : x.put = UInt8.ofNat x.name.size :: x.name.data.toList ++ x.putV := by
  cases x
  simp only [It.put, It.putV, putT, It.name_mk, It.kind_mk, It.n_mk, It.s_mk, It.sub_mk]
  rfl

/-! ### what bytes are read as -/
def kindOf (c : Nat) : Int := if c = 86 then 0 else if c = 116 then 1 else if c = 73 then 2 else if c = 108 then 3 else if c = 83 then 4 else if c = 70 then 5 else -1
/-- 32 bits, signed; 64 bits, signed. -/
def sgn32 (n : Nat) : Int := if n % 4294967296 < 2147483648 then (n % 4294967296 : Nat) else (n % 4294967296 : Nat) - 4294967296
def sgn64 (n : Nat) : Int := if n % 18446744073709551616 < 9223372036854775808 then (n % 18446744073709551616 : Nat) else (n % 18446744073709551616 : Nat) - 18446744073709551616
/-- a table, its items read by f. -/
def tabP (f : List UInt8 → List It × Bool) (l : List UInt8) : List It × List UInt8 × Bool :=
  ((f (cntP 4 l).1).1, (cntP 4 l).2.1, (cntP 4 l).2.2 || (f (cntP 4 l).1).2)
/-- a value: an item without a name. -/
def valP (f : List UInt8 → List It × Bool) (nm : ByteArray) (l : List UInt8) : It × List UInt8 × Bool :=
  let k := kindOf (numP 1 l).1
  let r := (numP 1 l).2.1
  let b := (numP 1 l).2.2
  if k = 1 then (.mk nm 1 (numP 1 r).1 ByteArray.empty [], (numP 1 r).2.1, b || (numP 1 r).2.2)
  else if k = 2 then (.mk nm 2 (sgn32 (numP 4 r).1) ByteArray.empty [], (numP 4 r).2.1, b || (numP 4 r).2.2)
  else if k = 3 then (.mk nm 3 (sgn64 (numP 8 r).1) ByteArray.empty [], (numP 8 r).2.1, b || (numP 8 r).2.2)
  else if k = 4 then (.mk nm 4 0 ⟨(cntP 4 r).1.toArray⟩ [], (cntP 4 r).2.1, b || (cntP 4 r).2.2)
  else if k = 5 then (.mk nm 5 0 ByteArray.empty (tabP f r).1, (tabP f r).2.1, b || (tabP f r).2.2)
  else (.mk nm k 0 ByteArray.empty [], r, b)
def itemsP : Nat → List UInt8 → List It × Bool
  | 0, _ => ([], false)
  | f + 1, l => if l = [] then ([], false) else
    let c := cntP 1 l
    let v := valP (itemsP f) ⟨c.1.toArray⟩ c.2.1
    let r := itemsP f v.2.1
    (v.1 :: r.1, c.2.2 || v.2.2 || r.2)

theorem tabP_le (f : List UInt8 → List It × Bool) (l : List UInt8) : (tabP f l).2.1.length ≤ l.length := (cntP_le 4 l).1
theorem valP_le (f : List UInt8 → List It × Bool) (nm : ByteArray) (l : List UInt8) : (valP f nm l).2.1.length ≤ l.length := by
  have h := numP_le 1 l
  unfold valP
  simp only []
  repeat' split
  · exact Nat.le_trans (numP_le 1 _) h
  · exact Nat.le_trans (numP_le 4 _) h
  · exact Nat.le_trans (numP_le 8 _) h
  · exact Nat.le_trans (cntP_le 4 _).1 h
  · exact Nat.le_trans (tabP_le f _) h
  · exact h

theorem kindOf_one {c : Nat} (h : c < 256) {k : Int} (hk : kindOf c = k) : (k = 0 → c = 86) ∧ (k = 1 → c = 116) ∧ (k = 2 → c = 73) ∧ (k = 3 → c = 108) ∧ (k = 4 → c = 83) ∧ (k = 5 → c = 70) ∧ (k = 0 ∨ k = 1 ∨ k = 2 ∨ k = 3 ∨ k = 4 ∨ k = 5 ∨ k = -1) := by
  unfold kindOf at hk
  repeat' split at hk
  all_goals (subst hk; refine ⟨?_, ?_, ?_, ?_, ?_, ?_, ?_⟩ <;> first | omega | (intro h0; first | omega | (exfalso; revert h0; decide)))

theorem u64_nat {m : Nat} (h : m < 18446744073709551616) : u64 (m : Int) = m := by unfold u64; omega
theorem u64_sgn64 {m : Nat} (h : m < 18446744073709551616) : u64 (sgn64 m) = m := by unfold u64 sgn64; split <;> omega
theorem u64_sgn32 (m : Nat) : u64 (sgn32 m) % 4294967296 = m % 4294967296 := by unfold u64 sgn32; split <;> omega
theorem sgn32_u64 {n : Int} (h : -2147483648 ≤ n ∧ n ≤ 2147483647) : sgn32 (u64 n % 4294967296) = n := by unfold u64 sgn32; split <;> omega
theorem sgn64_u64 {n : Int} (h : -9223372036854775808 ≤ n ∧ n ≤ 9223372036854775807) : sgn64 (u64 n % 18446744073709551616) = n := by unfold u64 sgn64; split <;> omega
/-- what is read as a value that may be was its bytes. -/
theorem valP_ok {d : Nat} {f : List UInt8 → List It × Bool} {nm : ByteArray} {l : List UInt8} (hf : ∀ c, c.length < l.length → (f c).2 = false → MayT d (f c).1 → putAll (f c).1 = c)
    (h : (valP f nm l).2.2 = false) (hm : (valP f nm l).1.May d) : l = (valP f nm l).1.putV ++ (valP f nm l).2.1 ∧ (valP f nm l).1.name = nm := by
  unfold valP at h hm ⊢
  simp only [] at h hm ⊢
  have hb : (numP 1 l).2.2 = false := by
    revert h
    repeat' split
    all_goals (intro h; first | exact (Bool.or_eq_false_iff.1 h).1 | exact h)
  obtain ⟨h1, h2⟩ := numP_ok hb
  rw [be_one] at h1
  obtain ⟨k0, k1, k2, k3, k4, k5, k6⟩ := kindOf_one h2 rfl
  have hlt : (numP 1 l).2.1.length < l.length := by rw [congrArg List.length h1]; simp
  generalize hk : kindOf (numP 1 l).1 = k at *
  generalize (numP 1 l).1 = c at *
  generalize hr : (numP 1 l).2.1 = r at *
  rcases k6 with rfl | rfl | rfl | rfl | rfl | rfl | rfl
  · simp only [show ((0 : Int) = 1) = False by simp, show ((0 : Int) = 2) = False by simp, show ((0 : Int) = 3) = False by simp, show ((0 : Int) = 4) = False by simp, show ((0 : Int) = 5) = False by simp, if_false] at h hm ⊢
    obtain rfl := k0 rfl
    exact ⟨by simpa [It.putV] using h1, rfl⟩
  · simp only [if_true] at h hm ⊢
    obtain rfl := k1 rfl
    obtain ⟨h3, h4⟩ := numP_ok (Bool.or_eq_false_iff.1 h).2
    refine ⟨?_, rfl⟩
    rw [h1, It.putV]
    simp only [It.kind_mk, It.n_mk, if_true]
    rw [u64_nat (by omega)]
    conv => lhs; rw [h3]
    rfl
  · simp only [show ((2 : Int) = 1) = False by simp, if_false, if_true] at h hm ⊢
    obtain rfl := k2 rfl
    obtain ⟨h3, h4⟩ := numP_ok (Bool.or_eq_false_iff.1 h).2
    refine ⟨?_, rfl⟩
    rw [h1, It.putV]
    simp only [It.kind_mk, It.n_mk, show ((2 : Int) = 1) = False by simp, if_false, if_true]
    rw [be_mod 4 (u64 (sgn32 (numP 4 r).1)) (numP 4 r).1 (u64_sgn32 _)]
    conv => lhs; rw [h3]
    rfl
  · simp only [show ((3 : Int) = 1) = False by simp, show ((3 : Int) = 2) = False by simp, if_false, if_true] at h hm ⊢
    obtain rfl := k3 rfl
    obtain ⟨h3, h4⟩ := numP_ok (Bool.or_eq_false_iff.1 h).2
    refine ⟨?_, rfl⟩
    rw [h1, It.putV]
    simp only [It.kind_mk, It.n_mk, show ((3 : Int) = 1) = False by simp, show ((3 : Int) = 2) = False by simp, if_false, if_true]
    rw [u64_sgn64 h4]
    conv => lhs; rw [h3]
    rfl
  · simp only [show ((4 : Int) = 1) = False by simp, show ((4 : Int) = 2) = False by simp, show ((4 : Int) = 3) = False by simp, if_false, if_true] at h hm ⊢
    obtain rfl := k4 rfl
    obtain ⟨h3, h4⟩ := cntP_ok (Bool.or_eq_false_iff.1 h).2
    refine ⟨?_, rfl⟩
    rw [h1, It.putV]
    simp only [It.kind_mk, It.n_mk, It.s_mk, show ((4 : Int) = 1) = False by simp, show ((4 : Int) = 2) = False by simp, show ((4 : Int) = 3) = False by simp, if_false, if_true]
    conv => lhs; rw [h3]
    simp [ByteArray.size]
  · simp only [show ((5 : Int) = 1) = False by simp, show ((5 : Int) = 2) = False by simp, show ((5 : Int) = 3) = False by simp, show ((5 : Int) = 4) = False by simp, if_false, if_true] at h hm ⊢
    obtain rfl := k5 rfl
    have ht := (Bool.or_eq_false_iff.1 h).2
    unfold tabP at ht hm ⊢
    simp only [] at ht hm ⊢
    obtain ⟨h3, h4⟩ := cntP_ok (Bool.or_eq_false_iff.1 ht).1
    have hmt : MayT d (f (cntP 4 r).1).1 := by
      rw [may_iff] at hm
      simp only [It.kind_mk, It.sub_mk] at hm
      rcases hm with ⟨h, _⟩ | ⟨h, _⟩ | ⟨h, _⟩ | ⟨h, _⟩ | ⟨h, _⟩ | ⟨_, _, _, h⟩
      all_goals first | exact h | (exfalso; revert h; decide)
    have hp := hf _ (Nat.lt_of_le_of_lt (cntP_le 4 r).2 hlt) (Bool.or_eq_false_iff.1 ht).2 hmt
    refine ⟨?_, rfl⟩
    rw [h1, It.putV]
    simp only [It.kind_mk, It.sub_mk, show ((5 : Int) = 1) = False by simp, show ((5 : Int) = 2) = False by simp, show ((5 : Int) = 3) = False by simp, show ((5 : Int) = 4) = False by simp, if_false, if_true]
    rw [putT, hp]
    conv => lhs; rw [h3]
    simp
  · exfalso
    rw [may_iff] at hm
    simp at hm

theorem itemsP_ok : ∀ (f : Nat) (l : List UInt8), l.length < f → ∀ d, (itemsP f l).2 = false → MayAll d (itemsP f l).1 → putAll (itemsP f l).1 = l
  | 0, l, h, _ => by omega
  | f + 1, l, h, d => by
    unfold itemsP
    split
    · rename_i h0; subst h0; intro _ _; rfl
    · rename_i h0
      simp only []
      intro hb hm
      have hl : 0 < l.length := List.length_pos_iff.2 h0
      obtain ⟨b1, b2⟩ := Bool.or_eq_false_iff.1 hb
      obtain ⟨b0, b1⟩ := Bool.or_eq_false_iff.1 b1
      obtain ⟨h1, h2⟩ := cntP_ok b0
      have h3 := cntP_lt (k := 1) (by decide) hl
      have h4 := valP_le (itemsP f) ⟨(cntP 1 l).1.toArray⟩ (cntP 1 l).2.1
      simp only [MayAll] at hm
      have hv := valP_ok (d := d) (fun c hc hbc hmc => itemsP_ok f c (by omega) (d + 1) hbc hmc.2.2.2) b1 hm.1
      have hr := itemsP_ok f _ (by omega) d b2 hm.2
      rw [putAll, put_eq, hv.2, hr]
      conv => rhs; rw [h1, hv.1]
      simp [be_one, ByteArray.size]

/-- a value's bytes are read as that value. -/
theorem valP_app {d : Nat} {f : List UInt8 → List It × Bool} {x : It} (r : List UInt8) (hf : MayT d x.sub → f (putAll x.sub) = (x.sub, false)) (hm : x.May d) (hn : -9223372036854775808 ≤ x.n ∧ x.n ≤ 9223372036854775807)
    (hl : x.putV.length < 4294967296) : valP f x.name (x.putV ++ r) = (x, r, false) := by
  obtain ⟨nm, k, n, s, sub⟩ := x
  rw [may_iff] at hm
  unfold It.putV at hl ⊢
  simp only [It.name_mk, It.kind_mk, It.n_mk, It.s_mk, It.sub_mk] at hf hm hn hl ⊢
  have hnum : ∀ (c : Nat) (t : List UInt8), c < 256 → numP 1 (UInt8.ofNat c :: t) = (c, t, false) := fun c t hc => by
    have := numP_app 1 c t
    rw [be_one, Nat.mod_eq_of_lt (by simpa using hc)] at this
    exact this
  rcases hm with ⟨rfl, rfl, hs, rfl⟩ | ⟨rfl, h01, hs, rfl⟩ | ⟨rfl, h32, hs, rfl⟩ | ⟨rfl, hs, rfl⟩ | ⟨rfl, rfl, hs, rfl⟩ | ⟨rfl, rfl, hs, hsub⟩
  · have e := hnum 86 r (by decide)
    obtain rfl := empty_of_size hs
    simp only [show ((0 : Int) = 1) = False by simp, show ((0 : Int) = 2) = False by simp, show ((0 : Int) = 3) = False by simp, show ((0 : Int) = 4) = False by simp, show ((0 : Int) = 5) = False by simp, if_false]
    show valP f nm (UInt8.ofNat 86 :: r) = _
    unfold valP
    rw [e]
    rfl
  · obtain rfl := empty_of_size hs
    have e := hnum 116 (be 1 (u64 n) ++ r) (by decide)
    have e2 := numP_app 1 (u64 n) r
    simp only [if_true]
    show valP f nm (UInt8.ofNat 116 :: (be 1 (u64 n) ++ r)) = _
    unfold valP
    rw [e]
    simp only [show kindOf 116 = 1 from rfl, if_true]
    rw [e2]
    rcases h01 with rfl | rfl <;> rfl
  · obtain rfl := empty_of_size hs
    have e := hnum 73 (be 4 (u64 n) ++ r) (by decide)
    have e2 := numP_app 4 (u64 n) r
    simp only [show ((2 : Int) = 1) = False by simp, if_false, if_true]
    show valP f nm (UInt8.ofNat 73 :: (be 4 (u64 n) ++ r)) = _
    unfold valP
    rw [e]
    simp only [show kindOf 73 = 2 from rfl, show ((2 : Int) = 1) = False by simp, if_false, if_true]
    rw [e2]
    simp only [show (256 : Nat) ^ 4 = 4294967296 from rfl, sgn32_u64 h32]
    rfl
  · obtain rfl := empty_of_size hs
    have e := hnum 108 (be 8 (u64 n) ++ r) (by decide)
    have e2 := numP_app 8 (u64 n) r
    simp only [show ((3 : Int) = 1) = False by simp, show ((3 : Int) = 2) = False by simp, if_false, if_true]
    show valP f nm (UInt8.ofNat 108 :: (be 8 (u64 n) ++ r)) = _
    unfold valP
    rw [e]
    simp only [show kindOf 108 = 3 from rfl, show ((3 : Int) = 1) = False by simp, show ((3 : Int) = 2) = False by simp, if_false, if_true]
    rw [e2]
    simp only [show (256 : Nat) ^ 8 = 18446744073709551616 from rfl, sgn64_u64 hn]
    rfl
  · have e := hnum 83 (be 4 s.size ++ (s.data.toList ++ r)) (by decide)
    have e2 := cntP_app (k := 4) (c := s.data.toList) r (by rw [size_toList]; have : (256 : Nat) ^ 4 = 4294967296 := rfl; omega)
    rw [size_toList] at e2
    simp only [show ((4 : Int) = 1) = False by simp, show ((4 : Int) = 2) = False by simp, show ((4 : Int) = 3) = False by simp, if_false, if_true]
    rw [List.cons_append, List.append_assoc]
    show valP f nm (UInt8.ofNat 83 :: (be 4 s.size ++ (s.data.toList ++ r))) = _
    unfold valP
    rw [e]
    simp only [show kindOf 83 = 4 from rfl, show ((4 : Int) = 1) = False by simp, show ((4 : Int) = 2) = False by simp, show ((4 : Int) = 3) = False by simp, if_false, if_true]
    rw [e2, mk_toList]
    rfl
  · obtain rfl := empty_of_size hs
    have e := hnum 70 (putT sub ++ r) (by decide)
    simp only [show ((5 : Int) = 1) = False by simp, show ((5 : Int) = 2) = False by simp, show ((5 : Int) = 3) = False by simp, show ((5 : Int) = 4) = False by simp, if_false, if_true] at hl ⊢
    have hpl : (putAll sub).length < 4294967296 := by rw [List.length_cons, putT_length] at hl; omega
    have e2 := cntP_app (k := 4) (c := putAll sub) r (by have : (256 : Nat) ^ 4 = 4294967296 := rfl; omega)
    show valP f nm (UInt8.ofNat 70 :: (putT sub ++ r)) = _
    unfold valP tabP
    rw [e]
    simp only [show kindOf 70 = 5 from rfl, show ((5 : Int) = 1) = False by simp, show ((5 : Int) = 2) = False by simp, show ((5 : Int) = 3) = False by simp, show ((5 : Int) = 4) = False by simp, if_false, if_true]
    rw [putT, List.append_assoc, e2, hf hsub]
    rfl

/-- numbers of 64 bits, here and within. -/
inductive Fits : List It → Prop
  | mk {l : List It} : (∀ x ∈ l, -9223372036854775808 ≤ x.n ∧ x.n ≤ 9223372036854775807) → (∀ x ∈ l, Fits x.sub) → Fits l

theorem putV_le (x : It) : x.putV.length ≤ x.put.length := by rw [put_eq]; simp; omega

theorem itemsP_app : ∀ (f : Nat) (its : List It), (putAll its).length < f → f < 4294967296 → ∀ d, MayAll d its → (∀ x ∈ its, 1 ≤ x.name.size ∧ x.name.size ≤ 40) → Fits its → itemsP f (putAll its) = (its, false)
  | 0, its, h, _, _ => by omega
  | f + 1, [], h, _, d => by intro _ _ _; simp [putAll, itemsP]
  | f + 1, x :: r, h, hf, d => by
    intro hm hn ⟨hw, hs⟩
    rw [putAll] at h ⊢
    rw [List.length_append] at h
    have hx := put_eq x
    have hpx := hn x (by simp)
    have hlx : x.put.length = 1 + x.name.size + x.putV.length := by rw [hx]; simp; omega
    unfold itemsP
    rw [if_neg (by intro e; have := congrArg List.length e; rw [List.length_append, List.length_nil] at this; omega)]
    simp only [MayAll] at hm
    have e1 : cntP 1 (x.put ++ putAll r) = (x.name.data.toList, x.putV ++ putAll r, false) := by
      have := cntP_app (k := 1) (c := x.name.data.toList) (x.putV ++ putAll r) (by rw [size_toList]; have : (256 : Nat) ^ 1 = 256 := rfl; omega)
      rw [size_toList, be_one] at this
      rw [hx]
      simpa using this
    have e2 : valP (itemsP f) x.name (x.putV ++ putAll r) = (x, putAll r, false) := by
      refine valP_app (d := d) (putAll r) (fun hmt => ?_) hm.1 (hw x (by simp)) (by omega)
      have hpt : (putAll x.sub).length < f := by
        have hk : x.kind = 5 ∨ x.sub = [] := by
          rw [may_iff] at hm
          rcases hm.1 with ⟨_, _, _, h⟩ | ⟨_, _, _, h⟩ | ⟨_, _, _, h⟩ | ⟨_, _, h⟩ | ⟨_, _, _, h⟩ | ⟨h, _⟩
          all_goals first | exact .inr h | exact .inl h
        rcases hk with hk | hk
        · have : x.putV = 70 :: putT x.sub := by unfold It.putV; rw [hk]; rfl
          rw [this, List.length_cons, putT_length] at hlx
          omega
        · rw [hk]; simp [putAll]; omega
      refine itemsP_app f x.sub hpt (by omega) (d + 1) hmt.2.2.2 (fun y hy => ?_) (hs x (by simp))
      obtain ⟨i, hi, rfl⟩ := List.getElem_of_mem hy
      have := hmt.2.2.1 i hi
      exact ⟨this.1, this.2.1⟩
    have e3 := itemsP_app f r (by omega) (by omega) d hm.2 (fun y hy => hn y (by simp [hy])) ⟨fun y hy => hw y (by simp [hy]), fun y hy => hs y (by simp [hy])⟩
    rw [e1]
    simp only [mk_toList]
    rw [e2]
    simp only []
    rw [e3]
    rfl

/-- the whole: bytes of a table that may be are read as it, and as nothing else; what is read as one that may be was its bytes. -/
theorem tabP_app {l : List It} {F : Nat} (hF : (putT l).length < F) (hF2 : F < 4294967296) (hm : MayT 1 l) (hw : Fits l) : tabP (itemsP F) (putT l) = (l, [], false) := by
  have e := cntP_app (k := 4) (c := putAll l) [] (by have : (256 : Nat) ^ 4 = 4294967296 := rfl; rw [putT_length] at hF; omega)
  rw [List.append_nil] at e
  unfold tabP
  rw [putT, e]
  have h2 := itemsP_app F l (by rw [putT_length] at hF; omega) hF2 2 hm.2.2.2 (fun y hy => by
    obtain ⟨i, hi, rfl⟩ := List.getElem_of_mem hy
    have := hm.2.2.1 i hi
    exact ⟨this.1, this.2.1⟩) hw
  rw [h2]
  rfl
theorem tabP_ok {b : List UInt8} {F : Nat} (hF : b.length < F) (h1 : (tabP (itemsP F) b).2.2 = false) (h2 : (tabP (itemsP F) b).2.1 = []) (hm : MayT 1 (tabP (itemsP F) b).1) : putT (tabP (itemsP F) b).1 = b := by
  unfold tabP at h1 h2 hm ⊢
  simp only [] at h1 h2 hm ⊢
  obtain ⟨b1, b2⟩ := Bool.or_eq_false_iff.1 h1
  obtain ⟨h3, _⟩ := cntP_ok b1
  have h4 := itemsP_ok F _ (Nat.lt_of_le_of_lt (cntP_le 4 b).2 hF) 2 b2 hm.2.2.2
  rw [putT, h4]
  conv => rhs; rw [h3, h2]
  simp

/-- tables that may be of the same bytes are the same. -/
theorem putT_inj {l m : List It} (hl : MayT 1 l) (hm : MayT 1 m) (hwl : Fits l) (hwm : Fits m) (hb : (putT l).length ≤ 3000) (h : putT l = putT m) : l = m := by
  have e1 := tabP_app (F := 3001) (by omega) (by decide) hl hwl
  have e2 := tabP_app (F := 3001) (by rw [← h]; omega) (by decide) hm hwm
  rw [h, e2] at e1
  exact (Prod.mk.inj e1).1.symm

end Go.Proofs.Ytjnnpgmgjdhfjaa

namespace Go.Proofs.Ytjnnpgmgjdhfjaa
set_option linter.unusedVariables false

/-- a part's letter. -/
inductive Pt where
  | n | y | e | k | x | c | u | t | f | b | a
  deriving DecidableEq

namespace Pt
def byte : Pt → UInt8 | n => 110 | y => 121 | e => 101 | k => 107 | x => 120 | c => 99 | u => 117 | t => 116 | f => 102 | b => 98 | a => 97
/-- its place among a call's cells. -/
def off : Pt → Nat | n => 1 | y => 2 | e => 3 | k => 4 | x => 5 | c => 6 | u => 7 | t => 8 | f => 9 | b => 10 | a => 11
/-- a text's? -/
def isT : Pt → Bool | n => true | y => true | e => true | k => true | x => true | _ => false
/-- a number's, or a flag's, bytes. -/
def size : Pt → Nat | c => 2 | u => 4 | t => 8 | f => 1 | b => 1 | _ => 0
/-- where a call at g has the text. -/
def at_ (g : Nat) (p : Pt) : Option Addr := if p.isT then some ⟨g, p.off, none⟩ else none
end Pt

structure Me where
  id : Int
  name : ByteArray
  typ : ByteArray
  ex : ByteArray
  key : ByteArray
  text : ByteArray
  code : Int
  count : Int
  tag : Nat
  flag : Bool
  back : Bool
  args : List It

/-- of that Id, with no part. -/
def Me.of (id : Int) : Me := ⟨id, ByteArray.empty, ByteArray.empty, ByteArray.empty, ByteArray.empty, ByteArray.empty, 0, 0, 0, false, false, []⟩

def bitN (b : Bool) : Nat := if b then 1 else 0
/-- 0 and 1 alone. -/
theorem bitN_le (b : Bool) : bitN b ≤ 1 := by cases b <;> decide

def Me.str (m : Me) : Pt → ByteArray
  | .n => m.name | .y => m.typ | .e => m.ex | .k => m.key | .x => m.text | _ => ByteArray.empty
def Me.num (m : Me) : Pt → Nat
  | .c => u64 m.code | .u => u64 m.count | .t => m.tag | .f => bitN m.flag | .b => bitN m.back | _ => 0
/-- m with that part of s. -/
def Me.put (m : Me) (p : Pt) (s : Me) : Me :=
  match p with
  | .n => { m with name := s.name } | .y => { m with typ := s.typ } | .e => { m with ex := s.ex } | .k => { m with key := s.key } | .x => { m with text := s.text }
  | .c => { m with code := s.code } | .u => { m with count := s.count } | .t => { m with tag := s.tag } | .f => { m with flag := s.flag } | .b => { m with back := s.back } | .a => { m with args := s.args }
def Me.cut (m : Me) (p : Pt) : Me := m.put p (Me.of 0)
/-- that number, or flag, laid. -/
def Me.set (m : Me) (p : Pt) (v : Nat) : Me :=
  match p with
  | .c => { m with code := sgn64 v } | .u => { m with count := sgn64 v } | .t => { m with tag := v } | .f => { m with flag := v == 1 } | .b => { m with back := v == 1 } | _ => m
/-- that text laid. -/
def Me.lay (m : Me) (p : Pt) (s : ByteArray) : Me :=
  match p with
  | .n => { m with name := s } | .y => { m with typ := s } | .e => { m with ex := s } | .k => { m with key := s } | .x => { m with text := s } | _ => m

/-- a part's bytes. -/
def Me.enc (m : Me) : Pt → List UInt8
  | .n => be 1 m.name.size ++ m.name.data.toList | .y => be 1 m.typ.size ++ m.typ.data.toList | .e => be 1 m.ex.size ++ m.ex.data.toList | .k => be 1 m.key.size ++ m.key.data.toList | .x => be 1 m.text.size ++ m.text.data.toList
  | .c => be 2 (u64 m.code) | .u => be 4 (u64 m.count) | .t => be 8 m.tag | .f => be 1 (bitN m.flag) | .b => be 1 (bitN m.back) | .a => putT m.args
theorem Me.enc_str (m : Me) {p : Pt} (h : p.isT = true) : m.enc p = be 1 (m.str p).size ++ (m.str p).data.toList := by cases p <;> first | rfl | cases h
theorem Me.enc_num (m : Me) {p : Pt} (h : p.isT = false) (ha : p ≠ .a) : m.enc p = be p.size (m.num p) := by cases p <;> first | rfl | exact absurd rfl ha | cases h

/-- a part may be. -/
def Me.MayP (m : Me) : Pt → Prop
  | .n => m.name.size ≤ 255 | .y => m.typ.size ≤ 255 | .e => m.ex.size ≤ 255 | .k => m.key.size ≤ 255 | .x => m.text.size ≤ 255
  | .c => u64 m.code < 65536 | .u => u64 m.count < 4294967296 | .t => m.tag < 18446744073709551616 | .f => True | .b => True | .a => MayT 1 m.args
theorem Me.may_str (m : Me) {p : Pt} (h : p.isT = true) : m.MayP p ↔ (m.str p).size ≤ 255 := by cases p <;> first | rfl | cases h
/-- a part is 0, or empty. -/
def Me.No (m : Me) : Pt → Prop
  | .n => m.name = ByteArray.empty | .y => m.typ = ByteArray.empty | .e => m.ex = ByteArray.empty | .k => m.key = ByteArray.empty | .x => m.text = ByteArray.empty
  | .c => m.code = 0 | .u => m.count = 0 | .t => m.tag = 0 | .f => m.flag = false | .b => m.back = false | .a => m.args = []
/-- two calls have that part the same. -/
def Me.Sm (m s : Me) : Pt → Prop
  | .n => m.name = s.name | .y => m.typ = s.typ | .e => m.ex = s.ex | .k => m.key = s.key | .x => m.text = s.text
  | .c => m.code = s.code | .u => m.count = s.count | .t => m.tag = s.tag | .f => m.flag = s.flag | .b => m.back = s.back | .a => m.args = s.args
theorem Me.ext' {m s : Me} (hi : m.id = s.id) (h : ∀ p, m.Sm s p) : m = s := by
  have h1 := h .n; have h2 := h .y; have h3 := h .e; have h4 := h .k; have h5 := h .x; have h6 := h .c; have h7 := h .u; have h8 := h .t; have h9 := h .f; have h10 := h .b; have h11 := h .a
  cases m; cases s
  simp only [Me.Sm] at *
  simp_all

/-- what a number's kinds hold. -/
structure Me.Wf (m : Me) : Prop where
  id : -9223372036854775808 ≤ m.id ∧ m.id ≤ 9223372036854775807
  s1 : m.name.size ≤ maxLen
  s2 : m.typ.size ≤ maxLen
  s3 : m.ex.size ≤ maxLen
  s4 : m.key.size ≤ maxLen
  s5 : m.text.size ≤ maxLen
  code : -9223372036854775808 ≤ m.code ∧ m.code ≤ 9223372036854775807
  count : -9223372036854775808 ≤ m.count ∧ m.count ≤ 9223372036854775807
  tag : m.tag < 18446744073709551616
  fits : Fits m.args

theorem Me.num_lt {m : Me} (h : m.Wf) (p : Pt) : m.num p < 18446744073709551616 := by
  have ht := h.tag
  have hb := bitN_le m.flag
  have hc := bitN_le m.back
  have hd : ∀ n : Int, u64 n < 18446744073709551616 := fun n => by unfold u64; omega
  cases p <;> simp only [Me.num] <;> first | exact hd _ | omega
theorem Me.str_len {m : Me} (h : m.Wf) (p : Pt) : (m.str p).size ≤ maxLen := by
  have h0 : (ByteArray.empty).size ≤ maxLen := by decide
  cases p <;> simp only [Me.str] <;> first | exact h.s1 | exact h.s2 | exact h.s3 | exact h.s4 | exact h.s5 | exact h0

/-- the Ids, and their parts. -/
def partsTab : List (Int × List Pt) :=
  [(2010, []), (2011, []), (2041, []), (4011, []), (5021, []), (6011, []), (6072, []), (8510, []), (8511, []), (9010, []), (9011, []), (9020, []), (9021, []), (9030, []), (9031, []),
   (2040, [.c, .x]), (4010, [.n, .y]), (5010, [.n]), (6070, [.n]), (5011, [.n, .u]), (5020, [.n, .e, .k, .a]), (6010, [.u]), (6020, [.n, .x]), (6021, [.x]), (6040, [.e, .k, .f]),
   (6050, [.c, .x, .e, .k]), (6060, [.x, .t, .f, .e, .k]), (6071, [.t, .f, .e, .k, .u]), (6080, [.t, .f]), (6090, [.t, .f]), (6120, [.t, .f, .b])]
/-- the parts of that Id. -/
def partsOf (id : Int) : Option (List Pt) := partsTab.lookup id
/-- letters, as a text. -/
def ltr (l : List Pt) : ByteArray := ⟨(l.map Pt.byte).toArray⟩
def partsStr (id : Int) : ByteArray := match partsOf id with | some l => ltr l | none => ⟨#[45]⟩
@[simp] theorem ltr_size (l : List Pt) : (ltr l).size = l.length := by simp [ltr, ByteArray.size]

/-- at most five, all unlike, Args last; and the Id's range. -/
theorem partsOf_some {id : Int} {l : List Pt} (h : partsOf id = some l) : l.length ≤ 5 ∧ l.Nodup ∧ (∀ i, (hi : i < l.length) → l[i] = .a → i + 1 = l.length) ∧ 2010 ≤ id ∧ id ≤ 9031 := by
  have hm : (id, l) ∈ partsTab := by
    unfold partsOf at h
    revert h
    generalize partsTab = tab
    induction tab with
    | nil => intro h; cases h
    | cons e r ih =>
      intro h
      obtain ⟨k, v⟩ := e
      rw [List.lookup_cons] at h
      split at h
      · rename_i he
        obtain rfl := Option.some.inj h
        obtain rfl : id = k := by simpa using he
        simp
      · exact List.mem_cons_of_mem _ (ih h)
  have hall : ∀ e ∈ partsTab, e.2.length ≤ 5 ∧ e.2.Nodup ∧ (∀ i, (hi : i < e.2.length) → e.2[i] = .a → i + 1 = e.2.length) ∧ 2010 ≤ e.1 ∧ e.1 ≤ 9031 := by decide
  exact hall _ hm
theorem partsOf_none {id : Int} (h : ∀ e ∈ partsTab, ¬ id = e.1) : partsOf id = none := by
  unfold partsOf
  rw [List.lookup_eq_none_iff]
  intro e he
  simpa using h e he

/-! ### which may be -/
def mayL (m : Me) : List Pt → Prop
  | [] => m = Me.of m.id
  | p :: r => m.MayP p ∧ mayL (m.cut p) r
def MayM (m : Me) : Prop := ∃ l, partsOf m.id = some l ∧ mayL m l

@[simp] theorem Me.cut_id (m : Me) (p : Pt) : (m.cut p).id = m.id := by cases p <;> rfl
@[simp] theorem Me.put_id (m : Me) (p : Pt) (s : Me) : (m.put p s).id = m.id := by cases p <;> rfl
theorem Me.put_eq (m : Me) (p : Pt) (s : Me) : (m.put p s).Sm s p := by cases p <;> rfl
theorem Me.put_ne (m : Me) {p q : Pt} (s : Me) (h : q ≠ p) : (m.put p s).Sm m q := by cases p <;> cases q <;> first | rfl | exact absurd rfl h
theorem Me.Sm.may {m s : Me} {p : Pt} (h : m.Sm s p) : m.MayP p ↔ s.MayP p := by cases p <;> simp only [Me.Sm] at h <;> simp only [Me.MayP, h]
theorem Me.Sm.no {m s : Me} {p : Pt} (h : m.Sm s p) : m.No p ↔ s.No p := by cases p <;> simp only [Me.Sm] at h <;> simp only [Me.No, h]
theorem Me.Sm.enc {m s : Me} {p : Pt} (h : m.Sm s p) : m.enc p = s.enc p := by cases p <;> simp only [Me.Sm] at h <;> simp only [Me.enc, h]
theorem Me.Sm.symm {m s : Me} {p : Pt} (h : m.Sm s p) : s.Sm m p := by cases p <;> exact (show _ = _ from h).symm
theorem Me.Sm.trans {m s r : Me} {p : Pt} (h : m.Sm s p) (k : s.Sm r p) : m.Sm r p := by cases p <;> exact (show _ = _ from h).trans k
theorem Me.Sm.refl (m : Me) (p : Pt) : m.Sm m p := by cases p <;> rfl
theorem Me.of_no (id : Int) (p : Pt) : (Me.of id).No p := by cases p <;> rfl
theorem Me.no_eq {m s : Me} {p : Pt} (h : m.No p) (k : s.No p) : m.Sm s p := by cases p <;> exact (show _ = _ from h).trans (show _ = _ from k).symm
theorem Me.cut_no (m : Me) (p : Pt) : (m.cut p).No p := ((m.put_eq p (Me.of 0)).no).2 (Me.of_no 0 p)
theorem Me.no_may {m : Me} {p : Pt} (h : m.No p) : m.MayP p := by
  cases p <;> simp only [Me.No] at h <;> simp only [Me.MayP, h]
  all_goals first
    | decide
    | exact ⟨by decide, by decide, fun i hi => by simp at hi, (mayAll_iff _ _).2 (by simp)⟩
theorem Me.of_iff (m : Me) : m = Me.of m.id ↔ ∀ p, m.No p :=
  ⟨fun h p => by rw [h]; exact Me.of_no _ p, fun h => Me.ext' rfl fun p => Me.no_eq (h p) (Me.of_no _ p)⟩

theorem mayL_iff : ∀ (l : List Pt) (m : Me), l.Nodup → (mayL m l ↔ (∀ p ∈ l, m.MayP p) ∧ ∀ p, p ∉ l → m.No p)
  | [], m, _ => by simp [mayL, Me.of_iff m]
  | p :: r, m, hd => by
    obtain ⟨hp, hr⟩ := List.nodup_cons.1 hd
    rw [mayL, mayL_iff r (m.cut p) hr]
    constructor
    · rintro ⟨h1, h2, h3⟩
      refine ⟨fun q hq => ?_, fun q hq => ?_⟩
      · rcases List.mem_cons.1 hq with rfl | hr2
        · exact h1
        · exact (m.put_ne (Me.of 0) (by rintro rfl; exact hp hr2)).may.1 (h2 q hr2)
      · have hqp : q ≠ p := fun e => hq (by simp [e])
        exact (m.put_ne (Me.of 0) hqp).no.1 (h3 q fun h => hq (by simp [h]))
    · rintro ⟨h1, h2⟩
      refine ⟨h1 p (by simp), fun q hq => ?_, fun q hq => ?_⟩
      · exact (m.put_ne (Me.of 0) (by rintro rfl; exact hp hq)).may.2 (h1 q (by simp [hq]))
      · by_cases hqp : q = p
        · subst hqp; exact m.cut_no q
        · exact (m.put_ne (Me.of 0) hqp).no.2 (h2 q (by simp [hqp, hq]))
theorem mayM_iff {m : Me} {l : List Pt} (h : partsOf m.id = some l) : MayM m ↔ (∀ p ∈ l, m.MayP p) ∧ ∀ p, p ∉ l → m.No p := by
  rw [← mayL_iff l m (partsOf_some h).2.1]
  constructor
  · rintro ⟨l', h1, h2⟩
    rw [h] at h1
    obtain rfl := Option.some.inj h1
    exact h2
  · exact fun h2 => ⟨l, h, h2⟩
theorem mayM_all {m : Me} (h : MayM m) (p : Pt) : m.MayP p := by
  obtain ⟨l, hl, h2⟩ := h
  have := (mayM_iff hl).1 ⟨l, hl, h2⟩
  by_cases hp : p ∈ l
  · exact this.1 p hp
  · exact Me.no_may (this.2 p hp)

/-! ### bytes -/
def encL (m : Me) : List Pt → List UInt8
  | [] => []
  | p :: r => m.enc p ++ encL m r
def headM (id : Int) : List UInt8 := be 2 (id / 100).toNat ++ be 2 (id % 100).toNat
@[simp] theorem headM_length (id : Int) : (headM id).length = 4 := by simp [headM]
def putM (m : Me) : List UInt8 := headM m.id ++ encL m ((partsOf m.id).getD [])
theorem putM_eq {m : Me} {l : List Pt} (h : partsOf m.id = some l) : putM m = headM m.id ++ encL m l := by unfold putM; rw [h]; rfl
theorem encL_append (m : Me) (l r : List Pt) : encL m (l ++ r) = encL m l ++ encL m r := by
  induction l with
  | nil => rfl
  | cons p l ih => simp [encL, ih]
theorem encL_congr {m s : Me} {l : List Pt} (h : ∀ p ∈ l, m.Sm s p) : encL m l = encL s l := by
  induction l with
  | nil => rfl
  | cons p r ih => rw [encL, encL, (h p (by simp)).enc, ih fun q hq => h q (by simp [hq])]

/-- a call that may be, and whose table is not too long. -/
structure Good (m : Me) : Prop where
  may : MayM m
  wf : m.Wf
  few : (putT m.args).length ≤ 3000

theorem Me.enc_le {m : Me} (h : (putT m.args).length ≤ 3000) {p : Pt} (hp : m.MayP p) : (m.enc p).length ≤ 3000 := by
  have hs : ∀ s : ByteArray, s.data.toList.length = s.size := size_toList
  cases p <;> simp only [Me.MayP] at hp <;> simp only [Me.enc, List.length_append, be_length, hs] <;> omega
theorem encL_le {m : Me} (h : (putT m.args).length ≤ 3000) {l : List Pt} (hp : ∀ p ∈ l, m.MayP p) : (encL m l).length ≤ 3000 * l.length := by
  induction l with
  | nil => simp [encL]
  | cons p r ih =>
    have h1 := Me.enc_le h (hp p (by simp))
    have h2 := ih fun q hq => hp q (by simp [hq])
    rw [encL, List.length_append, List.length_cons]
    omega

theorem be_inj {k a b : Nat} (ha : a < 256 ^ k) (hb : b < 256 ^ k) (h : be k a = be k b) : a = b := by
  have := congrArg de h
  rwa [de_be, de_be, Nat.mod_eq_of_lt ha, Nat.mod_eq_of_lt hb] at this
theorem be_app {k a b : Nat} {x y : List UInt8} (ha : a < 256 ^ k) (hb : b < 256 ^ k) (h : be k a ++ x = be k b ++ y) : a = b ∧ x = y := by
  obtain ⟨h1, h2⟩ := List.append_inj h (by simp)
  exact ⟨be_inj ha hb h1, h2⟩
theorem str_app {s t : ByteArray} {x y : List UInt8} (hs : s.size ≤ 255) (ht : t.size ≤ 255) (h : be 1 s.size ++ s.data.toList ++ x = be 1 t.size ++ t.data.toList ++ y) : s = t ∧ x = y := by
  rw [List.append_assoc, List.append_assoc] at h
  obtain ⟨h1, h2⟩ := be_app (by omega) (by omega) h
  obtain ⟨h3, h4⟩ := List.append_inj h2 (by simpa using h1)
  refine ⟨?_, h4⟩
  obtain ⟨⟨s⟩⟩ := s
  obtain ⟨⟨t⟩⟩ := t
  rw [show s = t from h3]
theorem putT_app {l m : List It} {x y : List UInt8} (hl : MayT 1 l) (hm : MayT 1 m) (hwl : Fits l) (hwm : Fits m) (h1 : (putT l).length ≤ 3000) (h2 : (putT m).length ≤ 3000) (h : putT l ++ x = putT m ++ y) : l = m ∧ x = y := by
  have h1' := h1
  have h2' := h2
  rw [putT_length] at h1' h2'
  have hn : (putAll l).length = (putAll m).length := by
    unfold putT at h
    rw [List.append_assoc, List.append_assoc] at h
    exact (be_app (k := 4) (by omega) (by omega) h).1
  obtain ⟨h3, h4⟩ := List.append_inj h (by rw [putT_length, putT_length, hn])
  exact ⟨putT_inj hl hm hwl hwm h1 h3, h4⟩

theorem u64_inj {a b : Int} (ha : -9223372036854775808 ≤ a ∧ a ≤ 9223372036854775807) (hb : -9223372036854775808 ≤ b ∧ b ≤ 9223372036854775807) (h : u64 a = u64 b) : a = b := by unfold u64 at h; omega
theorem bitN_inj {a b : Bool} (h : bitN a = bitN b) : a = b := by cases a <;> cases b <;> first | rfl | (exact absurd h (by decide))
theorem bitN_lt (b : Bool) : bitN b < 256 ^ 1 := by have := bitN_le b; omega

/-- one part's bytes are told apart. -/
theorem enc_app {m s : Me} {p : Pt} {x y : List UInt8} (hm : m.MayP p) (hs : s.MayP p) (wm : m.Wf) (ws : s.Wf) (fm : (putT m.args).length ≤ 3000) (fs : (putT s.args).length ≤ 3000) (h : m.enc p ++ x = s.enc p ++ y) : m.Sm s p ∧ x = y := by
  cases p <;> simp only [Me.MayP] at hm hs <;> simp only [Me.enc] at h <;> simp only [Me.Sm]
  · exact str_app hm hs h
  · exact str_app hm hs h
  · exact str_app hm hs h
  · exact str_app hm hs h
  · exact str_app hm hs h
  · obtain ⟨h1, h2⟩ := be_app (by simpa using hm) (by simpa using hs) h
    exact ⟨u64_inj wm.code ws.code h1, h2⟩
  · obtain ⟨h1, h2⟩ := be_app (by simpa using hm) (by simpa using hs) h
    exact ⟨u64_inj wm.count ws.count h1, h2⟩
  · exact be_app (by simpa using hm) (by simpa using hs) h
  · obtain ⟨h1, h2⟩ := be_app (bitN_lt _) (bitN_lt _) h
    exact ⟨bitN_inj h1, h2⟩
  · obtain ⟨h1, h2⟩ := be_app (bitN_lt _) (bitN_lt _) h
    exact ⟨bitN_inj h1, h2⟩
  · exact putT_app hm hs wm.fits ws.fits fm fs h
theorem encL_app {m s : Me} (wm : m.Wf) (ws : s.Wf) (fm : (putT m.args).length ≤ 3000) (fs : (putT s.args).length ≤ 3000) : ∀ {l : List Pt} {x y : List UInt8}, (∀ p ∈ l, m.MayP p) → (∀ p ∈ l, s.MayP p) → encL m l ++ x = encL s l ++ y → (∀ p ∈ l, m.Sm s p) ∧ x = y
  | [], x, y, _, _, h => ⟨by simp, by simpa [encL] using h⟩
  | p :: r, x, y, h1, h2, h => by
    rw [encL, encL, List.append_assoc, List.append_assoc] at h
    obtain ⟨h3, h4⟩ := enc_app (h1 p (by simp)) (h2 p (by simp)) wm ws fm fs h
    obtain ⟨h5, h6⟩ := encL_app wm ws fm fs (fun q hq => h1 q (by simp [hq])) (fun q hq => h2 q (by simp [hq])) h4
    refine ⟨fun q hq => ?_, h6⟩
    rcases List.mem_cons.1 hq with rfl | hq
    · exact h3
    · exact h5 q hq

theorem headM_inj {i j : Int} (hi : 0 ≤ i ∧ i ≤ 65535) (hj : 0 ≤ j ∧ j ≤ 65535) (h : headM i = headM j) : i = j := by
  unfold headM at h
  obtain ⟨h1, h2⟩ := be_app (k := 2) (by omega) (by omega) h
  have h3 := be_inj (k := 2) (by omega) (by omega) h2
  omega
/-- calls' bytes are told apart, also at the beginning of others. -/
theorem putM_app {m s : Me} {x y : List UInt8} (gm : Good m) (gs : Good s) (h : putM m ++ x = putM s ++ y) : m = s ∧ x = y := by
  obtain ⟨l, hl, _⟩ := gm.may
  obtain ⟨k, hk, _⟩ := gs.may
  have hl5 := partsOf_some hl
  have hk5 := partsOf_some hk
  rw [putM_eq hl, putM_eq hk, List.append_assoc, List.append_assoc] at h
  obtain ⟨h1, h2⟩ := List.append_inj h (by simp)
  have hid := headM_inj ⟨by omega, by omega⟩ ⟨by omega, by omega⟩ h1
  rw [hid, hk] at hl
  obtain rfl := Option.some.inj hl
  have a1 := (mayM_iff (by rw [hid]; exact hk)).1 gm.may
  have a2 := (mayM_iff hk).1 gs.may
  obtain ⟨h3, h4⟩ := encL_app gm.wf gs.wf gm.few gs.few a1.1 a2.1 h2
  refine ⟨Me.ext' hid fun p => ?_, h4⟩
  by_cases hp : p ∈ k
  · exact h3 p hp
  · exact Me.no_eq (a1.2 p hp) (a2.2 p hp)
theorem putM_inj {m s : Me} (gm : Good m) (gs : Good s) (h : putM m = putM s) : m = s := (putM_app (x := []) (y := []) gm gs (by simpa using h)).1

/-! ### what stands at the beginning -/
/-- the Id that four bytes tell, and its parts. -/
def idOf (b : List UInt8) : Int := (de (b.take 2) * 100 + de ((b.drop 2).take 2) : Nat)
def HeadOk (b : List UInt8) (l : List Pt) : Prop := 4 ≤ b.length ∧ de ((b.drop 2).take 2) < 100 ∧ partsOf (idOf b) = some l
theorem head_of {b : List UInt8} {l : List Pt} (h : HeadOk b l) : b = headM (idOf b) ++ b.drop 4 := by
  obtain ⟨h1, h2, h3⟩ := h
  have a1 : (b.take 2).length = 2 := by simp; omega
  have a2 : ((b.drop 2).take 2).length = 2 := by simp; omega
  have b1 := be_de (b.take 2)
  have b2 := be_de ((b.drop 2).take 2)
  rw [a1] at b1
  rw [a2] at b2
  have e1 : (idOf b / 100).toNat = de (b.take 2) := by unfold idOf; omega
  have e2 : (idOf b % 100).toNat = de ((b.drop 2).take 2) := by unfold idOf; omega
  unfold headM
  rw [e1, e2, b1, b2, List.append_assoc]
  have : b.drop 4 = (b.drop 2).drop 2 := by rw [List.drop_drop]
  rw [this, List.take_append_drop, List.take_append_drop]
theorem head_put {i : Int} {l : List Pt} (h : partsOf i = some l) (x : List UInt8) : HeadOk (headM i ++ x) l ∧ idOf (headM i ++ x) = i ∧ (headM i ++ x).drop 4 = x := by
  have hr := partsOf_some h
  have t1 : (headM i ++ x).take 2 = be 2 (i / 100).toNat := by unfold headM; rw [List.append_assoc]; exact List.take_left' (by simp)
  have t2 : ((headM i ++ x).drop 2).take 2 = be 2 (i % 100).toNat := by
    unfold headM
    rw [List.append_assoc, List.drop_left' (by simp)]
    exact List.take_left' (by simp)
  have hid : idOf (headM i ++ x) = i := by
    unfold idOf
    rw [t1, t2, de_be, de_be, Nat.mod_eq_of_lt (by omega), Nat.mod_eq_of_lt (by omega)]
    omega
  refine ⟨⟨by simp, ?_, by rw [hid]; exact h⟩, hid, List.drop_left' (by simp)⟩
  rw [t2, de_be, Nat.mod_eq_of_lt (by omega)]
  omega

end Go.Proofs.Ytjnnpgmgjdhfjaa
