/-
  package value's reader: table; Get.
-/
import Derived.Test.YtjnnpgmgjdhfjaaQGetxcbdf
namespace Go.Proofs.Ytjnnpgmgjdhfjaa
open Go.RowKit
set_option linter.unusedVariables false
variable {B : Nat}

/-- an item, its list's place, its lists' blocks. -/
abbrev Z := It × (Option Addr × Nat) × List Nat
def zc (z : Z) : List Value := [.string z.1.name, .int .i64 z.1.kind, .int .i64 z.1.n, .string z.1.s, .slice z.2.1.1 z.1.sub.length z.2.1.2]
@[simp] theorem zc_length (z : Z) : (zc z).length = 5 := rfl
theorem zcs_length (zs : List Z) : (zs.flatMap zc).length = zs.length * 5 := by
  induction zs with
  | nil => rfl
  | cons z r ih => rw [List.flatMap_cons, List.length_append, ih, zc_length, List.length_cons]; omega
theorem zcs_get (zs : List Z) : ∀ (i r : Nat) (h : i < zs.length) (hr : r < 5), (zs.flatMap zc)[i * 5 + r]? = (zc zs[i])[r]? := by
  induction zs with
  | nil => intro i r h; simp at h
  | cons z s ih =>
    intro i r h hr
    cases i with
    | zero =>
      rw [List.flatMap_cons, Nat.zero_mul, Nat.zero_add, List.getElem?_append_left (by simpa using hr)]
      rfl
    | succ i =>
      rw [List.flatMap_cons, List.getElem?_append_right (by simp; omega), zc_length, show (i + 1) * 5 + r - 5 = i * 5 + r by omega]
      exact ih i r (by simpa using h) hr
structure ZOk (w : World) (z : Z) : Prop where
  sub : SlAt w z.2.2 z.2.1.1 z.2.1.2 z.1.sub
  m0 : z.1.name.size ≤ maxLen
  k1 : -9223372036854775808 ≤ z.1.kind ∧ z.1.kind ≤ 9223372036854775807
  k2 : -9223372036854775808 ≤ z.1.n ∧ z.1.n ≤ 9223372036854775807
  m3 : z.1.s.size ≤ maxLen
theorem flat_range {α : Type} (zs : List Z) (f : Z → List α) (d : Z) : (List.range zs.length).flatMap (fun i => f (zs.getD i d)) = zs.flatMap f := by
  have h : (List.range zs.length).map (fun i => zs.getD i d) = zs := by
    apply List.ext_getElem
    · simp
    · intro i h1 h2
      simp [List.getD, List.getElem?_eq_getElem h2]
  conv => rhs; rw [← h]
  rw [List.flatMap_map]

/-- a row of the call's own reads as a table. -/
theorem slAt_row {w : World} {base : Nat} {lv : Value} {zs : List Z} (h : w.ownsRow base 74 5 lv zs.length (zs.flatMap zc)) (hz : ∀ z ∈ zs, ZOk w z) :
    ∃ a cap bs, lv = .slice a zs.length cap ∧ SlAt w bs a cap (zs.map (·.1)) ∧ ((zs = [] ∧ bs = []) ∨ ∃ g, lv.ownBlock = some g ∧ bs = g :: zs.flatMap (·.2.2)) := by
  rcases h.2 with ⟨rfl, hn⟩ | ⟨g, cap, cur, rfl, hbg, hg, hnc, hcm, hcs, htake⟩
  · obtain rfl : zs = [] := List.eq_nil_of_length_eq_zero hn
    exact ⟨none, 0, [], rfl, SlAt.nil w none (by simp [maxLen]), .inl ⟨rfl, rfl⟩⟩
  · rcases List.eq_nil_or_concat zs with rfl | ⟨_, _, hne⟩
    · exact ⟨_, cap, [], rfl, SlAt.nil w _ hcm, .inl ⟨rfl, rfl⟩⟩
    have hpos : 0 < zs.length := by rw [hne]; simp
    clear hne
    let d : Z := (.mk ByteArray.empty 0 0 ByteArray.empty [], (none, 0), [])
    have hc : ∀ (i r : Nat) (hi : i < zs.length) (hr : r < 5), w.cell? ⟨g, 0 + i * 5 + r, none⟩ = (zc zs[i])[r]? := by
      intro i r hi hr
      rw [← zcs_get zs i r hi hr, Nat.zero_add]
      have hlt : i * 5 + r < zs.length * 5 := by omega
      rw [cell_of_row w _ _ _ _ _ hg, ← htake, List.getElem?_take, if_pos hlt, Array.getElem?_toList]
    have hm : (zs.map (·.1)).length = zs.length := by simp
    have key := SlAt.intro (w := w) (a := some ⟨g, 0, none⟩) (cap := cap) (l := zs.map (·.1)) g 0 (fun i => (zs.getD i d).2.1) (fun i => (zs.getD i d).2.2) (by rw [hm]; exact hnc) hcm (fun _ => rfl) (fun _ => by simp [World.frozen?, hg])
      (fun i hi => by
        rw [hm] at hi
        have hzi := hz _ (List.getElem_mem hi)
        have hgd : zs.getD i d = zs[i] := by simp [List.getD, List.getElem?_eq_getElem hi]
        rw [hgd]
        simp only [List.getElem_map]
        exact ⟨hc i 0 hi (by omega), hc i 1 hi (by omega), hc i 2 hi (by omega), hc i 3 hi (by omega), hc i 4 hi (by omega), hzi.m0, hzi.k1, hzi.k2, hzi.m3⟩)
      (fun i hi => by
        rw [hm] at hi
        have hzi := hz _ (List.getElem_mem hi)
        have hgd : zs.getD i d = zs[i] := by simp [List.getD, List.getElem?_eq_getElem hi]
        simp only [hgd, List.getElem_map]
        exact hzi.sub)
    rw [hm, if_neg (by omega), flat_range zs (·.2.2) d] at key
    exact ⟨_, cap, _, rfl, key, .inr ⟨g, rfl, rfl⟩⟩

theorem item_info : (Try.prog.info? 74).map (fun i => (i.zero, i.size, i.bytes)) = some (some (.agg #[.string ByteArray.empty, .int .i64 0, .int .i64 0, .string ByteArray.empty, .slice none 0 0]), 5, 72) := by kernel_rfl

/-- an item more: its cells lie in the block made last. -/
theorem put_item {ops : Array Oper} {rest : List Oper} {o : Oper} {a : Act} {Q : Exit → Act → World → Prop} {w : World} {base : Nat} {v : Value} {zs : List Z} {cs : Array Value} (z : Z) (hgd : o.guard = none) (s x : Operand)
    (ho : o.op = .call { callee := .builtin .append, args := #[s, x], argTypes := #[23, 23] }) (hb : w.ownsRow base 74 5 v zs.length (zs.flatMap zc)) (hbase : base ≤ w.heap.size) (hl : zs.length ≤ 100000) (hcs : cs = (zc z).toArray)
    (hs : a.eval s = v) (H : Nat) (hH : w.heap.size = H) (hx : a.eval x = .slice (some ⟨H, 0, none⟩) 1 1)
    (h : ∀ g cap w', w'.ownsRow base 74 5 (.slice (some ⟨g, 0, none⟩) (zs.length + 1) cap) (zs ++ [z]).length ((zs ++ [z]).flatMap zc) → w.grownBy w' v.ownBlock → (v.ownBlock = some g ∨ w.heap.size ≤ g) →
      wpList Try.prog ops Q rest (a.put o.dst (.slice (some ⟨g, 0, none⟩) (zs.length + 1) cap)) w') :
    wpList Try.prog ops Q (o :: rest) a (w.alloc (.cells cs 74)) := by
  subst hcs
  subst hH
  obtain ⟨i0, hi, hz0, hz1, hz2⟩ := info_parts item_info
  have hb' := World.ownsRow.alloc hb (.cells (zc z).toArray 74)
  have hone : ∀ u ∈ zc z, u.oneCell' = true := by
    intro u hu
    simp only [zc, List.mem_cons, List.not_mem_nil, or_false] at hu
    rcases hu with rfl | rfl | rfl | rfl | rfl <;> rfl
  refine wpList_append_lies _ hgd s x 23 ho base 74 i0 _ 5 72 Try.underlying23 hi hz0 hz1 hz2 rfl (by decide) v zs.length (zs.flatMap zc) hs hb' ⟨w.heap.size, 0, none⟩ 1 1 (zc z) hx (by simp) (World.news_of_block (heap_alloc_new w _)) hone (by decide) (by unfold maxLen; omega) (by omega) (by simp; omega) _ rfl ?_
  intro g cap w' hown hg hat hlt
  refine h g cap w' ?_ (alloc_before hg) ?_
  · rw [List.length_append, List.flatMap_append]
    simpa using hown
  · rcases hat with h1 | h1
    · exact .inl h1
    · exact .inr (by simp at h1; omega)

theorem valP_name (f : List UInt8 → List It × Bool) (nm : ByteArray) (l : List UInt8) : (valP f nm l).1.name = nm := by
  unfold valP
  simp only []
  repeat' split
  all_goals rfl
theorem valP_wf (f : List UInt8 → List It × Bool) (nm : ByteArray) (l : List UInt8) (hl : l.length ≤ 100000) :
    (-9223372036854775808 ≤ (valP f nm l).1.kind ∧ (valP f nm l).1.kind ≤ 9223372036854775807) ∧ (-9223372036854775808 ≤ (valP f nm l).1.n ∧ (valP f nm l).1.n ≤ 9223372036854775807) ∧ (valP f nm l).1.s.size ≤ maxLen := by
  have h1 := num1_lt (numP 1 l).2.1
  have hle := numP_le 1 l
  have hc := (cntP_le 4 (numP 1 l).2.1).2
  have hk := (kindOf_one (num1_lt l) rfl).2.2.2.2.2.2
  unfold valP
  simp only []
  have s32 : ∀ m, -2147483648 ≤ sgn32 m ∧ sgn32 m ≤ 2147483647 := fun m => by unfold sgn32; split <;> omega
  have s64 : ∀ m, -9223372036854775808 ≤ sgn64 m ∧ sgn64 m ≤ 9223372036854775807 := fun m => by unfold sgn64; split <;> omega
  have e0 : (ByteArray.empty).size = 0 := rfl
  unfold maxLen
  repeat' split
  · simp only [It.kind_mk, It.n_mk, It.s_mk, e0]; omega
  · have := s32 (numP 4 (numP 1 l).2.1).1
    simp only [It.kind_mk, It.n_mk, It.s_mk, e0]; omega
  · have := s64 (numP 8 (numP 1 l).2.1).1
    simp only [It.kind_mk, It.n_mk, It.s_mk, e0]; omega
  · have e : (ByteArray.mk (cntP 4 (numP 1 l).2.1).1.toArray).size = (cntP 4 (numP 1 l).2.1).1.length := rfl
    simp only [It.kind_mk, It.n_mk, It.s_mk, e]; omega
  · simp only [It.kind_mk, It.n_mk, It.s_mk, e0]; omega
  · simp only [It.kind_mk, It.n_mk, It.s_mk, e0]; omega

def tabRel (B : Nat) (W : World) (g : Nat) (l : List UInt8) (bad : Bool) (F : Nat) (n : Nat) (a' : Act) (w' : World) : Prop :=
  ∃ (gi : Nat) (rest : List UInt8) (inb : Bool) (zs : List Z) (lv : Value) (F1 : Nat) (nm : Value) (u6 u7 u8 u9 u10 u11 u12 u13 u14 u15 u16 u17 u18 u19 u20 u21 u22 u23 u24 u25 u26 u27 u28 u29 u30 u31 u32 u33 u34 u35 u36 u37 u38 u39 : Value),
    a' = { tmps := #[.pointer (some ⟨g, 0, none⟩), undef, .slice none 0 0, .pointer (some ⟨gi, 0, none⟩), lv, nm, u6, u7, u8, u9, u10, u11, u12, u13, u14, u15, u16, u17, u18, u19, u20, u21, u22, u23, u24, u25, u26, u27, u28, u29, u30, u31, u32, u33, u34, u35, u36, u37, u38, u39], defers := [] } ∧
    n = rest.length ∧ W.heap.size ≤ gi ∧ W.grownBy w' (some g) ∧ Rd 88 B w' g (cntP 4 l).2.1 (bad || (cntP 4 l).2.2) ∧ Rd 88 B w' gi rest inb ∧
    w'.ownsRow (gi + 1) 74 5 lv zs.length (zs.flatMap zc) ∧ (∀ z ∈ zs, ZOk w' z) ∧ Own w' (gi + 1) (zs.flatMap (·.2.2)) ∧ (∀ b ∈ zs.flatMap (·.2.2), lv.ownBlock ≠ some b) ∧
    rest.length < F1 ∧ zs.length + rest.length ≤ l.length ∧
    (itemsP F (cntP 4 l).1).1 = zs.map (·.1) ++ (itemsP F1 rest).1 ∧ (itemsP F (cntP 4 l).1).2 = (inb || (itemsP F1 rest).2)

theorem itemsP_nil (F : Nat) : itemsP F [] = ([], false) := by cases F <;> simp [itemsP]

/-- what a table's call leaves, when nothing is left to read. -/
theorem tab_end {w w' : World} {g gi F : Nat} {l : List UInt8} {bad inb x : Bool} {zs : List Z} {lv : Value} (hgl : g < w.heap.size) (hgi : w.heap.size ≤ gi) (hgr : w.grownBy w' (some g)) (hrg : Rd 88 B w' g (cntP 4 l).2.1 (bad || (cntP 4 l).2.2))
    (hown : w'.ownsRow (gi + 1) 74 5 lv zs.length (zs.flatMap zc)) (hzs : ∀ z ∈ zs, ZOk w' z) (how : Own w' (gi + 1) (zs.flatMap (·.2.2))) (hlv : ∀ b ∈ zs.flatMap (·.2.2), lv.ownBlock ≠ some b)
    (hp1 : (itemsP F (cntP 4 l).1).1 = zs.map (·.1)) (hp2 : (itemsP F (cntP 4 l).1).2 = inb) (hx : x = ((bad || (cntP 4 l).2.2) || inb)) :
    TabP B (itemsP F) g l bad w (.returned lv) (w'.setCell ⟨g, 1, none⟩ (.bool x)) := by
  obtain ⟨a, cap, bs, rfl, hsl, hbs⟩ := slAt_row hown hzs
  have hsz : (w'.setCell ⟨g, 1, none⟩ (.bool x)).heap.size = w'.heap.size := by simp [World.setCell]
  have hkeep : ∀ b, b ≠ g → (w'.setCell ⟨g, 1, none⟩ (.bool x)).heap[b]? = w'.heap[b]? := fun b hb => Below.heap_setCell _ _ _ _ hb
  have hob : Own w' (gi + 1) bs := by
    rcases hbs with ⟨_, rfl⟩ | ⟨g0, hg0, rfl⟩
    · exact Own.nil _ _
    · have hlt := World.ownsRow.lt hown g0 hg0
      refine ⟨List.nodup_cons.2 ⟨fun h => hlv g0 h hg0, how.1⟩, fun b hb => ?_⟩
      rcases List.mem_cons.1 hb with rfl | hb
      · refine ⟨hlt.1, hlt.2, ?_⟩
        rcases hown.2 with ⟨e, _⟩ | ⟨g1, cap1, cur, e, _, hg, _⟩
        · rw [e] at hg0; cases hg0
        · rw [e] at hg0; cases hg0; exact ⟨cur, _, hg⟩
      · exact how.2 b hb
  have hlen : zs.length = (zs.map (·.1)).length := by simp
  have he : (tabP (itemsP F) l).1 = zs.map (·.1) := hp1
  have hbg : ∀ b ∈ bs, b ≠ g := fun b hb => by have := (hob.2 b hb).1; omega
  refine ⟨a, cap, bs, by rw [he, ← hlen], by rw [he]; exact hsl.keep fun b hb => hkeep b (hbg b hb), (hob.mono (by omega)).keep (fun b hb => hkeep b (hbg b hb)) (by rw [hsz]; exact Nat.le_refl _), ?_, GrownBy.trans hgr (set_grown _ _ _ _)⟩
  · obtain ⟨v, hv, a1, c1, rfl, h1, h2, h3⟩ := hrg
    refine ⟨_, ?_, a1, c1, rfl, h1, h2, h3.other hv (rd_ne rfl _) (set_grown _ _ _ _)⟩
    rw [set_heap hv]
    have : (bad || (tabP (itemsP F) l).2.2) = x := by
      show (bad || ((cntP 4 l).2.2 || (itemsP F (cntP 4 l).1).2)) = x
      rw [hp2, hx, Bool.or_assoc]
    rw [this]
    simp
    rfl

theorem Own.append {w : World} {base : Nat} {bs cs : List Nat} (h : Own w base bs) (k : Own w base cs) (hd : ∀ b ∈ bs, ∀ c ∈ cs, b < c) : Own w base (bs ++ cs) := by
  refine ⟨List.nodup_append.2 ⟨h.1, k.1, fun b hb c hc e => ?_⟩, fun b hb => ?_⟩
  · have := hd b hb c hc; omega
  · rcases List.mem_append.1 hb with hb | hb
    · exact h.2 b hb
    · exact k.2 b hb

/-- a round of the reading: what holds behind it. -/
theorem tab_step {W w' w2 w3 w4 : World} {g gi : Nat} {lg rest3 : List UInt8} {bg inb3 : Bool} {zs : List Z} {lv lv4 : Value} {z : Z} (hB : B ≤ W.heap.size) (hgl : g < W.heap.size) (hgi : W.heap.size ≤ gi) (hgr : W.grownBy w' (some g)) (hrg : Rd 88 B w' g lg bg)
    (hown : w'.ownsRow (gi + 1) 74 5 lv zs.length (zs.flatMap zc)) (hzs : ∀ z ∈ zs, ZOk w' z) (how : Own w' (gi + 1) (zs.flatMap (·.2.2))) (hlv : ∀ b ∈ zs.flatMap (·.2.2), lv.ownBlock ≠ some b)
    (hil : gi < w'.heap.size) (h2 : w'.grownBy w2 (some gi)) (h3 : w2.grownBy w3 (some gi)) (hr3 : Rd 88 B w3 gi rest3 inb3) (hz : ZOk w3 z) (hoz : Own w3 w2.heap.size z.2.2)
    (h4 : w3.grownBy w4 lv.ownBlock) {g4 : Nat} (hl4 : lv4.ownBlock = some g4) (hat : lv.ownBlock = some g4 ∨ w3.heap.size ≤ g4) :
    W.grownBy w4 (some g) ∧ Rd 88 B w4 g lg bg ∧ Rd 88 B w4 gi rest3 inb3 ∧ (∀ y ∈ zs ++ [z], ZOk w4 y) ∧ Own w4 (gi + 1) ((zs ++ [z]).flatMap (·.2.2)) ∧ (∀ b ∈ (zs ++ [z]).flatMap (·.2.2), lv4.ownBlock ≠ some b) := by
  have s2 := h2.size
  have s3 := h3.size
  have s4 := h4.size
  have sg := hgr.size
  have lvb : ∀ k, lv.ownBlock = some k → gi + 1 ≤ k ∧ k < w'.heap.size := World.ownsRow.lt hown
  have e3 : ∀ b, b < w'.heap.size → b ≠ gi → w3.heap[b]? = w'.heap[b]? := fun b hb hne => (h3.block b (by omega) (by simpa using hne)).trans (h2.block b hb (by simpa using hne))
  have e4 : ∀ b, b < w3.heap.size → lv.ownBlock ≠ some b → w4.heap[b]? = w3.heap[b]? := fun b hb hne => h4.block b hb (Ne.symm hne)
  have elow : ∀ b, b < gi → w4.heap[b]? = w'.heap[b]? := fun b hb => (e4 b (by omega) (fun e => by have := lvb b e; omega)).trans (e3 b (by omega) (by omega))
  have egi : w4.heap[gi]? = w3.heap[gi]? := e4 gi (by omega) (fun e => by have := lvb gi e; omega)
  have eold : ∀ b ∈ zs.flatMap (·.2.2), w4.heap[b]? = w'.heap[b]? := fun b hb => by
    have hb2 := how.2 b hb
    exact (e4 b (by omega) (hlv b hb)).trans (e3 b (by omega) (by omega))
  have enew : ∀ b ∈ z.2.2, w4.heap[b]? = w3.heap[b]? := fun b hb => by
    have hb2 := hoz.2 b hb
    exact e4 b hb2.2.1 (fun e => by have := lvb b e; omega)
  refine ⟨⟨h4.os.trans (h3.os.trans (h2.os.trans hgr.os)), h4.tape.trans (h3.tape.trans (h2.tape.trans hgr.tape)), h4.output.trans (h3.output.trans (h2.output.trans hgr.output)), by omega, fun k hk hne => (elow k (by omega)).trans (hgr.block k hk hne)⟩,
    hrg.frame (fun b hb => elow b (by omega)) (elow g (by omega)), hr3.frame (fun b hb => (e4 b (by omega) (fun e => by have := lvb b e; omega))) egi, fun y hy => ?_, ?_, fun b hb => ?_⟩
  · rcases List.mem_append.1 hy with hy | hy
    · have := hzs y hy
      exact ⟨this.sub.keep fun b hb => eold b (List.mem_flatMap.2 ⟨y, hy, hb⟩), this.m0, this.k1, this.k2, this.m3⟩
    · obtain rfl := List.mem_singleton.1 hy
      exact ⟨hz.sub.keep enew, hz.m0, hz.k1, hz.k2, hz.m3⟩
  · rw [List.flatMap_append]
    refine (how.keep eold (by omega)).append ?_ ?_
    · simpa using (hoz.mono (by omega)).keep enew s4
    · intro b hb c hc
      have := (how.2 b hb).2.1
      have := (hoz.2 c (by simpa using hc)).1
      omega
  · rw [hl4]
    intro e
    cases e
    rw [List.flatMap_append] at hb
    rcases List.mem_append.1 hb with hb | hb
    · have hb2 := how.2 g4 hb
      rcases hat with h | h
      · exact hlv g4 hb h
      · omega
    · have hb2 := hoz.2 g4 (by simpa using hb)
      rcases hat with h | h
      · have := lvb g4 h; omega
      · omega

set_option maxRecDepth 100000 in
set_option maxHeartbeats 8000000 in
theorem tab_any : ∀ (N : Nat) (l : List UInt8) (_ : l.length = N) (_ : l.length ≤ 4000) (F : Nat) (_ : l.length < F) (g : Nat) (bad : Bool) (w : World) (_ : B ≤ w.heap.size) (_ : Rd 88 B w g l bad),
    Calls Try.prog 50 #[.pointer (some ⟨g, 0, none⟩)] w (TabP B (itemsP F) g l bad w) := by
  intro N
  induction N using Nat.strongRecOn with
  | _ N ihN =>
    intro l hN hl4 F hF g bad w hB hr
    have HR := Lib.hid hr
    have hgl : g < w.heap.size := hr.lt
    have HIH := Lib.hid ihN
    have hc4 := cntP_le 4 l
    clear hr ihN
    go_enter Try.func50, Try.ntmps50
    go_wp2
    refine wp_scope_ghost 0 (tabRel B w g l bad F) rfl ?_ ?_
    · intro H hb'
      have HBK := Lib.hid hb'
      clear hb'
      go_wp2_with fail
      refine (counted_any g 4 (by decide) l bad _ HR.out).mono ?_
      rintro e w1 ⟨v1, rfl, ⟨a1, c1, rfl, hlc1, hcm1, hat1⟩, hr1, hg1⟩
      have HR1 := Lib.hid hr1
      have HA1 := Lib.hid hat1
      have HG1 := Lib.hid hg1
      have hz1 := hg1.size
      clear hr1 hat1 hg1
      go_wp2_with fail
      refine (readerOf_any a1 (cntP 4 l).1.length c1 _).mono ?_
      rintro e w2 ⟨rfl, hg2⟩
      have hz2 := hg2.size
      have HG2 := Lib.hid hg2
      clear hg2
      go_wp2_with fail
      go_step3
      rename_i hK
      refine hK _ _ (HBK.out (cntP 4 l).1.length _ _ ⟨w2.heap.size, (cntP 4 l).1, false, [], .slice none 0 0, F, undef, ?_⟩)
      repeat apply Exists.intro
      have hk2 : ∀ b, b < w1.heap.size → w2.heap[b]? = w1.heap[b]? := fun b hb => HG2.out.block b hb (by simp)
      refine ⟨rfl, rfl, by omega, alloc_later (GrownBy.trans HG1.out (GrownBy.any HG2.out _)) _, (HR1.out.frame (fun b hb => hk2 b (by omega)) (hk2 g (by omega))).alloc _, ⟨_, heap_alloc_new w2 _, a1, c1, rfl, hlc1, hcm1, ?_⟩, World.ownsRow_nil _ _ _ _, by simp, Own.nil _ _, by simp, by omega, by simp; omega, by simp, by simp⟩
      intro h0
      obtain ⟨b, o, ha, hbB, hc⟩ := HA1.out h0
      exact ⟨b, o, ha, hbB, fun i hi => (((Below.refl _ _).alloc (Nat.le_refl _) _).cell (p := ⟨b, o + i, none⟩) (by show b < w2.heap.size; omega)).trans ((World.cell?_of_block (w := w1) (a := ⟨b, o + i, none⟩) (hk2 b (by omega))).trans (hc i hi))⟩
    · rintro m a' w' ⟨gi, rest, inb, zs, lv, F1, nm, u6, u7, u8, u9, u10, u11, u12, u13, u14, u15, u16, u17, u18, u19, u20, u21, u22, u23, u24, u25, u26, u27, u28, u29, u30, u31, u32, u33, u34, u35, u36, u37, u38, u39, rfl, rfl, hgi, hgr, hrg, hri, hown, hzs, how, hlv, hF1, hzl, hp1, hp2⟩ H hH
      have HH := Lib.hid hH
      have hgil := hri.lt
      have HGR := Lib.hid hgr
      have HRG := Lib.hid hrg
      have HRI := Lib.hid hri
      have HOWN := Lib.hid hown
      have HZS := Lib.hid hzs
      have HOW := Lib.hid how
      have HLV := Lib.hid hlv
      have HP1 := Lib.hid hp1
      have HP2 := Lib.hid hp2
      obtain ⟨vi, hvi, ai, ci, rfl, hlci, hcmi, hati⟩ := hri
      have c0 : w'.cell? ⟨gi, 0, none⟩ = some (.slice ai rest.length ci) := by rw [cell_of_row w' _ _ _ _ _ hvi]; rfl
      have c1 : w'.cell? ⟨gi, 1, none⟩ = some (.bool inb) := by rw [cell_of_row w' _ _ _ _ _ hvi]; rfl
      clear hH hgr hrg hown hzs how hlv hp1 hp2 hvi hati
      by_cases h0 : 0 < rest.length
      · obtain ⟨F2, rfl⟩ : ∃ F2, F1 = F2 + 1 := ⟨F1 - 1, by omega⟩
        have hne : rest ≠ [] := List.length_pos_iff.1 h0
        have hstep : itemsP (F2 + 1) rest = ((valP (itemsP F2) ⟨(cntP 1 rest).1.toArray⟩ (cntP 1 rest).2.1).1 :: (itemsP F2 (valP (itemsP F2) ⟨(cntP 1 rest).1.toArray⟩ (cntP 1 rest).2.1).2.1).1, (cntP 1 rest).2.2 || (valP (itemsP F2) ⟨(cntP 1 rest).1.toArray⟩ (cntP 1 rest).2.1).2.2 || (itemsP F2 (valP (itemsP F2) ⟨(cntP 1 rest).1.toArray⟩ (cntP 1 rest).2.1).2.1).2) := by
          rw [itemsP, if_neg hne]
        have hct := cntP_lt (k := 1) (by decide) h0
        have hvl := valP_le (itemsP F2) ⟨(cntP 1 rest).1.toArray⟩ (cntP 1 rest).2.1
        have hvn := valP_name (itemsP F2) ⟨(cntP 1 rest).1.toArray⟩ (cntP 1 rest).2.1
        have hvw := valP_wf (itemsP F2) ⟨(cntP 1 rest).1.toArray⟩ (cntP 1 rest).2.1 (by omega)
        have hnl := numP_le 1 (cntP 1 rest).2.1
        have HC := Lib.hid hct
        have HNL := Lib.hid hnl
        have HNE := Lib.hid hne
        have h0i : (0 : Int) < (rest.length : Int) := by omega
        clear hne hct hnl
        go_wp2_with fail
        refine (counted_any gi 1 (by decide) rest inb _ HRI.out).mono ?_
        rintro e w2 ⟨v2, rfl, ⟨a2, c2, rfl, hlc2, hcm2, hat2⟩, hr2, hg2⟩
        have hcv := conv_str c2 hat2
        have HR2 := Lib.hid hr2
        have HG2 := Lib.hid hg2
        have HV := Lib.hid (And.intro hstep (And.intro hvl (And.intro hvn hvw)))
        clear hr2 hg2 hat2 hstep hvl hvn hvw
        go_wp2_with fail
        refine (value_any (itemsP F2) ⟨(cntP 1 rest).1.toArray⟩ gi (cntP 1 rest).2.1 _ _ HR2.out (fun w3 bad3 hr3 => HIH.out _ (by have := HC.out; have := HNL.out; omega) _ rfl (by have := HC.out; have := HNL.out; omega) F2 (by have := HC.out; have := HNL.out; omega) gi bad3 w3 (by have := hr3.lt; omega) hr3)).mono ?_
        obtain ⟨V, hV⟩ : ∃ V, V = valP (itemsP F2) ⟨(cntP 1 rest).1.toArray⟩ (cntP 1 rest).2.1 := ⟨_, rfl⟩
        unfold ValP
        rw [← hV] at HV ⊢
        clear hV
        rintro e w3 ⟨a3, c3, bs3, rfl, hsl3, how3, hr3, hg3⟩
        have HS3 := Lib.hid hsl3
        have HO3 := Lib.hid how3
        have HR3 := Lib.hid hr3
        have HG3 := Lib.hid hg3
        have hs2 := HG2.out.size
        have hs3 := hg3.size
        have HLB := Lib.hid (World.ownsRow.lt HOWN.out)
        have hown3 : w3.ownsRow (gi + 1) 74 5 lv zs.length (zs.flatMap zc) := HOWN.out.kept (GrownBy.trans HG2.out hg3) (by
          cases hb : lv.ownBlock with
          | none => exact .inl rfl
          | some k => exact .inr (fun e => by have := (HLB.out k hb).1; cases e; omega))
        have HOWN3 := Lib.hid hown3
        clear hsl3 how3 hr3 hg3 hown3
        have hzl2 : zs.length ≤ 100000 := by omega
        go_wp2_with (at_builtin; refine put_item (V.1, (a3, c3), bs3) rfl (.tmp 19) (.tmp 23) rfl HOWN3.out (by omega) hzl2 (by rw [zc]; simp only [HV.out.2.2.1]) rfl _ rfl rfl ?_; intro g4 cap4 w4 hown4 hg4 hat4; have HOWN4 := Lib.hid hown4; have HG4 := Lib.hid hg4; have HAT4 := Lib.hid hat4; clear hown4 hg4 hat4)
        go_step3
        obtain ⟨q1, q2, q3, q4, q5, q6⟩ := HV.out
        have hzk : ZOk w3 (V.1, (a3, c3), bs3) := ⟨HS3.out, by rw [q3]; show (cntP 1 rest).1.length ≤ maxLen; unfold maxLen; have := HC.out; omega, q4, q5, q6⟩
        obtain ⟨r1, r2, r3, r4, r5, r6⟩ := tab_step (lv4 := .slice (some ⟨g4, 0, none⟩) (zs.length + 1) cap4) hB hgl hgi HGR.out HRG.out HOWN.out HZS.out HOW.out HLV.out hgil HG2.out HG3.out HR3.out hzk HO3.out HG4.out (g4 := g4) rfl HAT4.out
        refine ⟨rfl, HH.out V.2.1.length _ _ (by have := HC.out; omega) ⟨gi, V.2.1, (inb || (cntP 1 rest).2.2 || V.2.2), zs ++ [(V.1, (a3, c3), bs3)], .slice (some ⟨g4, 0, none⟩) (zs.length + 1) cap4, F2, .string ⟨(cntP 1 rest).1.toArray⟩, ?_⟩⟩
        repeat apply Exists.intro
        refine ⟨rfl, rfl, hgi, r1, r2, r3, HOWN4.out, r4, r5, r6, by have := HC.out; omega, by have := HC.out; simp; omega, ?_, ?_⟩
        · rw [HP1.out, q1]; simp
        · rw [HP2.out, q1]; simp [Bool.or_assoc]
      · obtain rfl : rest = [] := List.eq_nil_of_length_eq_zero (by omega)
        obtain ⟨vg, hvg, ag, cg, rfl, hlcg, hcmg, hatg⟩ := HRG.out
        have d0 : w'.cell? ⟨g, 0, none⟩ = some (.slice ag (cntP 4 l).2.1.length cg) := by rw [cell_of_row w' _ _ _ _ _ hvg]; rfl
        have d1 : w'.cell? ⟨g, 1, none⟩ = some (.bool (bad || (cntP 4 l).2.2)) := by rw [cell_of_row w' _ _ _ _ _ hvg]; rfl
        have f1 : w'.frozen? ⟨g, 1, none⟩ = false := by simp [World.frozen?, hvg]
        simp only [List.length_nil] at *
        have HVG := Lib.hid hvg
        have HATG := Lib.hid hatg
        clear hvg hatg
        cases hbb : (bad || (cntP 4 l).2.2)
        · rw [hbb] at d1
          have HBB := Lib.hid hbb
          clear hbb
          go_wp2
          simp only [Exit.jump]
          go_ret
          exact tab_end hgl hgi HGR.out HRG.out HOWN.out HZS.out HOW.out HLV.out (by simpa [itemsP_nil] using HP1.out) (by simpa [itemsP_nil] using HP2.out) (by rw [HBB.out]; rfl)
        · rw [hbb] at d1
          have HBB := Lib.hid hbb
          clear hbb
          go_wp2
          simp only [Exit.jump]
          go_ret
          exact tab_end hgl hgi HGR.out HRG.out HOWN.out HZS.out HOW.out HLV.out (by simpa [itemsP_nil] using HP1.out) (by simpa [itemsP_nil] using HP2.out) (by rw [HBB.out]; rfl)



/-- what Get answers. -/
def GetR (b : List UInt8) (w : World) (e : Ending) (w' : World) : Prop :=
  Below w.heap.size w w' ∧ ((e = .returned (.tuple #[.slice none 0 0, .int .i64 502]) ∧ ∀ l, MayT 1 l → Fits l → putT l = b → b.length ≤ 3000 → False) ∨
    ∃ (l : List It) (a : Option Addr) (cap : Nat) (bs : List Nat), MayT 1 l ∧ putT l = b ∧ b.length ≤ 3000 ∧ e = .returned (.tuple #[.slice a l.length cap, .int .i64 0]) ∧ SlAt w' bs a cap l ∧ Own w' w.heap.size bs)

set_option maxRecDepth 100000 in
set_option maxHeartbeats 4000000 in
theorem get_any (v : Value) (b : List UInt8) (w : World) (hB : B ≤ w.heap.size) (hv : BytesIn B w v b) :
    Calls Try.prog 32 #[v] w (GetR b w) := by
  obtain ⟨a, cap, rfl, hlc, hcm, hat⟩ := hv
  by_cases h3 : (b.length : Int) ≤ 3000
  · have HAT := Lib.hid hat
    clear hat
    unfold maxLen at hcm
    go_enter Try.func32, Try.ntmps32
    go_wp2_with fail
    refine (readerOf_any a b.length cap _).mono ?_
    rintro e w1 ⟨rfl, hg1⟩
    have hz1 := hg1.size
    have hrd : Rd 88 B (w1.alloc (.cells #[.slice a b.length cap, .bool false] 88)) w1.heap.size b false := by
      refine ⟨_, heap_alloc_new w1 _, a, cap, rfl, hlc, (by unfold maxLen; omega), fun h0 => ?_⟩
      obtain ⟨b1, o, ha, hbB, hc⟩ := HAT.out h0
      exact ⟨b1, o, ha, hbB, fun i hi => (((Below.refl _ _).alloc (Nat.le_refl _) _).cell (p := ⟨b1, o + i, none⟩) (by show b1 < w1.heap.size; omega)).trans ((World.cell?_of_block (w := w) (a := ⟨b1, o + i, none⟩) (hg1.block b1 (by omega) (by simp))).trans (hc i hi))⟩
    have HRD := Lib.hid hrd
    have HG1 := Lib.hid hg1
    clear hrd hg1
    go_wp2_with fail
    refine (tab_any b.length b rfl (by omega) 3001 (by omega) w1.heap.size false _ (by simp; omega) HRD.out).mono ?_
    rintro e w2 ⟨a2, cap2, bs, rfl, hsl, how, hr, hg⟩
    obtain ⟨T, hT⟩ : ∃ T, T = tabP (itemsP 3001) b := ⟨_, rfl⟩
    have happ : ∀ l, MayT 1 l → Fits l → putT l = b → T = (l, [], false) := fun l h1 h2 h3' => by
      rw [hT, ← h3']
      exact tabP_app (by rw [h3']; omega) (by decide) h1 h2
    have hok : T.2.2 = false → T.2.1 = [] → MayT 1 T.1 → putT T.1 = b := fun h1 h2 h3' => by
      rw [hT] at h1 h2 h3' ⊢
      exact tabP_ok (by omega) h1 h2 h3'
    rw [← hT] at hsl hr ⊢
    clear hT
    have hbel : Below w.heap.size w w2 := ((Below.refl _ _).grown HG1.out (Nat.le_refl _) (fun k hk => by cases hk)).trans (((Below.refl _ _).alloc hz1 _).trans ((Below.refl _ _).grown hg (by simp; omega) (fun k hk => by cases hk; exact hz1)))
    obtain ⟨vr, hvr, ar, cr, rfl, hlr, hmr, hatr⟩ := hr
    have c0 : w2.cell? ⟨w1.heap.size, 0, none⟩ = some (.slice ar T.2.1.length cr) := by rw [cell_of_row w2 _ _ _ _ _ hvr]; rfl
    have c1 : w2.cell? ⟨w1.heap.size, 1, none⟩ = some (.bool (false || T.2.2)) := by rw [cell_of_row w2 _ _ _ _ _ hvr]; rfl
    rw [Bool.false_or] at c1
    have hos : Own w2 w.heap.size bs := how.mono (by simp; omega)
    have HS := Lib.hid hsl
    have HO := Lib.hid hos
    have HBL := Lib.hid hbel
    have HAP := Lib.hid happ
    have HOK := Lib.hid hok
    clear hsl how hg hbel hvr hatr happ hok hos
    cases hbad : T.2.2
    · rw [hbad] at c1
      by_cases hnil : ¬ T.2.1 = []
      · obtain ⟨x, r, hx⟩ := List.exists_cons_of_ne_nil hnil
        rw [hx, List.length_cons] at c0
        have HX := Lib.hid hx
        clear hx hnil hlr
        go_wp2_with fail
        go_ret2
        refine ⟨HBL.out, .inl ⟨rfl, fun l h1 h2 h3' _ => ?_⟩⟩
        have hx := HX.out
        rw [HAP.out l h1 h2 h3'] at hx
        cases hx
      · replace hnil : T.2.1 = [] := Classical.not_not.1 hnil
        rw [hnil, List.length_nil] at c0
        have HNIL := Lib.hid hnil
        clear hnil hlr
        go_wp2_with fail
        refine (mayTable_any _ ⟨bs, HS.out⟩).mono ?_
        rintro e w3 ⟨r, hr, rfl, hb3⟩
        have HB3 := Lib.hid hb3
        clear hb3
        cases r
        · replace hr : ¬ MayT 1 T.1 := by simpa using hr
          have HR := Lib.hid hr
          clear hr
          go_wp2_with fail
          go_ret2
          refine ⟨HBL.out.trans (HB3.out.mono HBL.out.size), .inl ⟨rfl, fun l h1 h2 h3' _ => ?_⟩⟩
          have := HR.out
          rw [HAP.out l h1 h2 h3'] at this
          exact this h1
        · replace hr : MayT 1 T.1 := by simpa using hr
          have HR := Lib.hid hr
          clear hr
          go_wp2_with fail
          go_ret2
          exact ⟨HBL.out.trans (HB3.out.mono HBL.out.size), .inr ⟨T.1, a2, cap2, bs, HR.out, HOK.out hbad HNIL.out HR.out, by omega, rfl, HS.out.under HB3.out HS.out.lt, HO.out.keep (fun x hx => HB3.out.block x (HO.out.2 x hx).2.1) HB3.out.size⟩⟩
    · rw [hbad] at c1
      go_wp2_with fail
      go_ret2
      refine ⟨HBL.out, .inl ⟨rfl, fun l h1 h2 h3' _ => ?_⟩⟩
      rw [HAP.out l h1 h2 h3'] at hbad
      cases hbad
  · clear hat
    unfold maxLen at hcm
    go_enter Try.func32, Try.ntmps32
    go_wp2_with fail
    go_ret2
    exact ⟨Below.refl _ _, .inl ⟨rfl, fun l _ _ _ h => by omega⟩⟩

end Go.Proofs.Ytjnnpgmgjdhfjaa
