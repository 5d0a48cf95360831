/-
  QuadSums, walked: of whole numbers the sum does not hang on their order, and a turned sum is the sum of the turned.
-/
import Derived.Test.YtlnfghmkfgihjaaTold
import Derived.Test.YtlnfghmkfgihjaaRow
import Derived.Deep.AppendLies
import Derived.Laws.AppendOwnNone
namespace Go.Proofs.Ytlnfghmkfgihjaa
open Go.RowKit

/-- complex numbers as cells. -/
def cvs (l : List (Nat × Nat)) : List Value := l.map fun z => .complex .f64 z.1 z.2

/-- the j-th number of the law. -/
def qv (zs : List Int) (j : Nat) : Int := zs.getD j 0 % 18446744073709551616 % 100000
def Zr (zs : List Int) (j : Nat) : Nat × Nat := (floatOfInt .f64 (qv zs j), floatOfInt .f64 (j : Int))
def La (zs : List Int) (k : Nat) : List (Nat × Nat) := (List.range k).map (Zr zs)
def Lc (zs : List Int) (kk : Int) (k : Nat) : List (Nat × Nat) := (List.range k).map fun j => spin kk (Zr zs j)
def Lb (zs : List Int) : Nat → List (Nat × Nat)
  | 0 => []
  | k + 1 => Zr zs k :: Lb zs k

theorem La_succ (zs : List Int) (k : Nat) : La zs (k + 1) = La zs k ++ [Zr zs k] := by
  unfold La; rw [List.range_succ, List.map_append]; rfl
theorem Lc_succ (zs : List Int) (kk : Int) (k : Nat) : Lc zs kk (k + 1) = Lc zs kk k ++ [spin kk (Zr zs k)] := by
  unfold Lc; rw [List.range_succ, List.map_append]; rfl
theorem Lb_eq (zs : List Int) : ∀ k, Lb zs k = (La zs k).reverse
  | 0 => rfl
  | k + 1 => by rw [Lb, La_succ, List.reverse_append, Lb_eq zs k]; rfl
theorem Lb_length (zs : List Int) (k : Nat) : (Lb zs k).length = k := by rw [Lb_eq]; simp [La]

/-- no block in common. -/
def Sep (u v : Value) : Prop := ∀ g, u.ownBlock = some g → v.ownBlock = some g → False
theorem Sep.symm {u v : Value} (h : Sep u v) : Sep v u := fun g a b => h g b a
theorem Sep.ne {u v : Value} (h : Sep u v) : u.ownBlock = none ∨ u.ownBlock ≠ v.ownBlock := by
  cases hu : u.ownBlock with
  | none => exact .inl rfl
  | some g => exact .inr fun e => h g hu e.symm

/-- behind k rounds. -/
def SRel (w : World) (zs : List Int) (kk : Int) (k : Nat) (va vb vc : Value) (wr : World) : Prop :=
  Below w.heap.size w wr ∧ wr.ownsRow w.heap.size 24 1 va k (cvs (La zs k)) ∧ wr.ownsRow w.heap.size 24 1 vb k (cvs (Lb zs k)) ∧ wr.ownsRow w.heap.size 24 1 vc k (cvs (Lc zs kk k)) ∧
  Sep va vb ∧ Sep va vc ∧ Sep vb vc ∧ (k = 0 → vb = .slice none 0 0)

theorem Sums.info : (Try.prog.info? 24).map (fun i => (i.zero, i.size, i.bytes)) = some (some (.complex .f64 0 0), 1, 16) := by kernel_rfl

theorem cell_new_at' (W : World) (n : Nat) (h : W.heap.size = n) (v : Value) (t : TypeId) : ∀ j u, [v][j]? = some u → (W.alloc (.cells #[v] t)).cell? ((⟨n, 0, none⟩ : Addr).add j) = some u := by
  intro j u hj
  match j, hj with
  | 0, hj => simp at hj; subst hj; rw [← h]; simp [Addr.add]

/-- a value in a new block of its own, owned. -/
theorem owns_new (W : World) (base : Nat) (v : Value) (h : base ≤ W.heap.size) : (W.alloc (.cells #[v] 24)).ownsRow base 24 1 (.slice (some ⟨W.heap.size, 0, none⟩) 1 1) 1 [v] := by
  refine ⟨rfl, .inr ⟨W.heap.size, 1, #[v], rfl, h, ?_, Nat.le_refl _, by unfold maxLen; omega, rfl, rfl⟩⟩
  exact heap_alloc_new W _

theorem mod100000 (a : Int) : wrap64 ((IntKind.u64.wrap a).tmod 100000) = a % 18446744073709551616 % 100000 := by
  have h : IntKind.u64.wrap a = a % 18446744073709551616 := by simp [IntKind.wrap, IntKind.bits, IntKind.signed]
  rw [h, Int.tmod_eq_emod_of_nonneg (by omega)]
  simp only [wrap64]
  omega

theorem one_cvs (l : List (Nat × Nat)) : ∀ u ∈ cvs l, u.oneCell' = true := by
  intro u hu
  unfold cvs at hu
  obtain ⟨z, _, rfl⟩ := List.mem_map.1 hu
  rfl

/-- a complex number as a cell. -/
def cv (z : Nat × Nat) : Value := .complex .f64 z.1 z.2

theorem grown_size {W W' : World} {o : Obj} {row : Option Nat} (g : (W.alloc o).grownBy W' row) : W.heap.size + 1 ≤ W'.heap.size := by
  have := g.size
  rw [World.size_alloc] at this
  exact this

theorem own_lt {W : World} {base n : Nat} {v : Value} {xs : List Value} (h : W.ownsRow base 24 1 v n xs) {g : Nat} (hg : v.ownBlock = some g) : g < W.heap.size := (h.lt g hg).2

theorem ne_of_lt {W : World} {base n : Nat} {v : Value} {xs : List Value} (h : W.ownsRow base 24 1 v n xs) {g : Nat} (hg : W.heap.size ≤ g) : v.ownBlock = none ∨ v.ownBlock ≠ some g := by
  cases hv : v.ownBlock with
  | none => exact .inl rfl
  | some x => exact .inr fun e => by cases e; exact absurd (own_lt h hv) (by omega)

theorem srel_b {w wr W2 : World} {zs : List Int} {kk : Int} {k : Nat} {va vb vc : Value} {o : Obj} (h : SRel w zs kk k va vb vc wr) (g2 : (wr.alloc o).grownBy W2 va.ownBlock) :
    W2.ownsRow w.heap.size 24 1 vb k (cvs (Lb zs k)) ∧ W2.ownsRow w.heap.size 24 1 vc k (cvs (Lc zs kk k)) :=
  ⟨(h.2.2.1.alloc _).kept g2 h.2.2.2.2.1.symm.ne, (h.2.2.2.1.alloc _).kept g2 h.2.2.2.2.2.1.symm.ne⟩

theorem srel_c {w wr W2 W4 : World} {zs : List Int} {kk : Int} {k : Nat} {va vb vc : Value} {o o' : Obj} (h : SRel w zs kk k va vb vc wr) (g2 : (wr.alloc o).grownBy W2 va.ownBlock)
    (g4 : (W2.alloc o').grownBy W4 (some W2.heap.size)) : W4.ownsRow w.heap.size 24 1 vc k (cvs (Lc zs kk k)) :=
  ((srel_b h g2).2.alloc _).kept g4 (ne_of_lt (srel_b h g2).2 (Nat.le_refl _))

theorem srel_step {w wr W2 W4 W6 : World} {zs : List Int} {kk : Int} {k : Nat} {va vb vc : Value} {ga ca gb cb gc cc : Nat} {z : Nat × Nat} (hz : Zr zs k = z) (h : SRel w zs kk k va vb vc wr)
    (own2 : W2.ownsRow w.heap.size 24 1 (.slice (some ⟨ga, 0, none⟩) (k + 1) ca) (k + 1) (cvs (La zs k) ++ [cv z])) (g2 : (wr.alloc (.cells #[cv z] 24)).grownBy W2 va.ownBlock)
    (hat2 : va.ownBlock = some ga ∨ ga = wr.heap.size + 1) (hlt2 : ga < W2.heap.size)
    (own4 : W4.ownsRow w.heap.size 24 1 (.slice (some ⟨gb, 0, none⟩) (k + 1) cb) (k + 1) (cv z :: cvs (Lb zs k))) (g4 : (W2.alloc (.cells #[cv z] 24)).grownBy W4 (some W2.heap.size))
    (hat4 : gb = W2.heap.size ∨ gb = W2.heap.size + 1) (hlt4 : gb < W4.heap.size)
    (own6 : W6.ownsRow w.heap.size 24 1 (.slice (some ⟨gc, 0, none⟩) (k + 1) cc) (k + 1) (cvs (Lc zs kk k) ++ [cv (spin kk z)])) (g6 : (W4.alloc (.cells #[cv (spin kk z)] 24)).grownBy W6 vc.ownBlock)
    (hat6 : vc.ownBlock = some gc ∨ gc = W4.heap.size + 1) :
    SRel w zs kk (k + 1) (.slice (some ⟨ga, 0, none⟩) (k + 1) ca) (.slice (some ⟨gb, 0, none⟩) (k + 1) cb) (.slice (some ⟨gc, 0, none⟩) (k + 1) cc) W6 := by
  subst hz
  have s2 := grown_size g2
  have s4 := grown_size g4
  have s6 := grown_size g6
  have hB := h.1.size
  have oa4 := (own2.alloc _).kept g4 (.inr fun e => by simp [Value.ownBlock] at e; omega)
  have ac : vc.ownBlock ≠ some ga := by
    intro e
    rcases hat2 with h1 | h1
    · exact h.2.2.2.2.2.1 ga h1 e
    · have := own_lt h.2.2.2.1 e; omega
  have bc : ∀ g, vc.ownBlock = some g → g < W2.heap.size := fun g e => by have := own_lt h.2.2.2.1 e; omega
  have oa6 := (oa4.alloc _).kept g6 (.inr fun e => ac (by rw [← e]; rfl))
  have ob6 := (own4.alloc _).kept g6 (.inr fun e => by have := bc gb (by rw [← e]; rfl); omega)
  refine ⟨?_, ?_, ?_, ?_, ?_, ?_, ?_, fun e => absurd e (Nat.succ_ne_zero _)⟩
  · have r2 : Below w.heap.size w W2 := (h.1.alloc (by omega) _).grown g2 (by rw [World.size_alloc]; omega) (fun g e => (h.2.1.lt g e).1)
    have r4 : Below w.heap.size w W4 := (r2.alloc (by omega) _).grown g4 (by rw [World.size_alloc]; omega) (fun g e => by cases e; omega)
    exact (r4.alloc (by omega) _).grown g6 (by rw [World.size_alloc]; omega) (fun g e => (h.2.2.2.1.lt g e).1)
  · rw [La_succ, cvs, List.map_append]; exact oa6
  · rw [Lb, cvs, List.map_cons]; exact ob6
  · rw [Lc_succ, cvs, List.map_append]; exact own6
  · intro g e1 e2
    simp [Value.ownBlock] at e1 e2
    omega
  · intro g e1 e2
    simp [Value.ownBlock] at e1 e2
    subst e1 e2
    rcases hat6 with h1 | h1
    · exact ac h1
    · omega
  · intro g e1 e2
    simp [Value.ownBlock] at e1 e2
    subst e1 e2
    rcases hat6 with h1 | h1
    · have := bc _ h1; omega
    · omega

/-- so many numbers together. -/
def tot (f : Nat → Int × Int) : Nat → Int × Int
  | 0 => (0, 0)
  | k + 1 => addI (tot f k) (f k)

theorem tot_congr {f g : Nat → Int × Int} : ∀ {k : Nat}, (∀ j, j < k → f j = g j) → tot f k = tot g k
  | 0, _ => rfl
  | k + 1, h => by rw [tot, tot, tot_congr fun j hj => h j (by omega), h k (by omega)]

theorem tot_left (f : Nat → Int × Int) : ∀ k, tot f (k + 1) = addI (f 0) (tot (fun j => f (j + 1)) k)
  | 0 => by simp [tot, addI]
  | k + 1 => by
    rw [tot, tot_left f k, tot]
    simp only [addI]
    ext <;> simp <;> omega

theorem tot_rev (f : Nat → Int × Int) : ∀ k, tot (fun j => f (k - 1 - j)) k = tot f k
  | 0 => rfl
  | k + 1 => by
    rw [tot_left f k, tot]
    have e : tot (fun j => f (k + 1 - 1 - j)) k = tot (fun j => f (j + 1)) k := by
      rw [← tot_rev (fun j => f (j + 1)) k]
      refine tot_congr fun j hj => ?_
      show f (k + 1 - 1 - j) = f (k - 1 - j + 1)
      rw [show k + 1 - 1 - j = k - 1 - j + 1 from by omega]
    rw [e, show k + 1 - 1 - k = 0 from by omega]
    simp only [addI]
    ext <;> simp <;> omega

theorem spinI_add (k : Int) (p q : Int × Int) : spinI k (addI p q) = addI (spinI k p) (spinI k q) := by
  unfold spinI addI
  split
  · ext <;> simp <;> omega
  · split
    · ext <;> simp <;> omega
    · split
      · ext <;> simp <;> omega
      · rfl

theorem tot_spin (kk : Int) (f : Nat → Int × Int) : ∀ k, tot (fun j => spinI kk (f j)) k = spinI kk (tot f k)
  | 0 => by
    unfold tot spinI
    split
    · rfl
    · split
      · rfl
      · split <;> rfl
  | k + 1 => by rw [tot, tot_spin kk f k, tot, spinI_add]

theorem sumTo_tot {zs : List (Nat × Nat)} {f : Nat → Int × Int} {B : Nat} : ∀ {k : Nat} {r : Nat × Nat}, (∀ j, j < k → CI (zs.getD j (0, 0)) (f j)) → (∀ j, j < k → Bd B (f j)) → SumTo zs k r → k * B ≤ 2 ^ 53 → CI r (tot f k) ∧ Bd (k * B) (tot f k)
  | 0, r, _, _, h, _ => by cases h; exact ⟨⟨fl_0, fl_0⟩, by simp [Bd, tot]⟩
  | k + 1, r, hz, hB, ⟨m, hm, h⟩, hk => by
    have hk' : k * B + B ≤ 2 ^ 53 := by rw [Nat.succ_mul] at hk; exact hk
    obtain ⟨h1, h2⟩ := sumTo_tot (fun j hj => hz j (by omega)) (fun j hj => hB j (by omega)) hm (by omega)
    have h3 := add_Bd h2 (hB k (by omega))
    rw [Nat.succ_mul]
    exact ⟨h.CI h1 (hz k (by omega)) h3 hk', h3⟩

def fq (zs : List Int) (j : Nat) : Int × Int := (qv zs j, (j : Int))
theorem fq_CI (zs : List Int) {j : Nat} (h : j < 41) : CI (Zr zs j) (fq zs j) := by
  refine ⟨Fl.ofInt_isI _ ?_, Fl.ofInt_isI _ ?_⟩
  · unfold qv; omega
  · omega
theorem fq_Bd (zs : List Int) {j : Nat} (h : j < 41) : Bd 100000 (fq zs j) := by
  refine ⟨?_, ?_⟩
  · show (qv zs j).natAbs ≤ 100000
    unfold qv; omega
  · show ((j : Int)).natAbs ≤ 100000
    omega

theorem La_get (zs : List Int) {j k : Nat} (h : j < k) : (La zs k).getD j (0, 0) = Zr zs j := by unfold La; simp [h]
theorem Lc_get (zs : List Int) (kk : Int) {j k : Nat} (h : j < k) : (Lc zs kk k).getD j (0, 0) = spin kk (Zr zs j) := by unfold Lc; simp [h]
theorem Lb_get (zs : List Int) : ∀ {j k : Nat}, j < k → (Lb zs k).getD j (0, 0) = Zr zs (k - 1 - j)
  | 0, k + 1, _ => rfl
  | j + 1, k + 1, h => by
    rw [Lb, List.getD_cons_succ, Lb_get zs (by omega), show k + 1 - 1 - (j + 1) = k - 1 - j from by omega]

theorem suma_CI (zs : List Int) {k : Nat} {r : Nat × Nat} (hk : k ≤ 40) (h : SumTo (La zs k) k r) : CI r (tot (fq zs) k) :=
  (sumTo_tot (B := 100000) (fun j hj => by rw [La_get zs hj]; exact fq_CI zs (by omega)) (fun j hj => fq_Bd zs (by omega)) h (by omega)).1
theorem sumb_CI (zs : List Int) {k : Nat} {r : Nat × Nat} (hk : k ≤ 40) (h : SumTo (Lb zs k) k r) : CI r (tot (fq zs) k) := by
  rw [← tot_rev]
  exact (sumTo_tot (B := 100000) (fun j hj => by rw [Lb_get zs hj]; exact fq_CI zs (by omega)) (fun j hj => fq_Bd zs (by omega)) h (by omega)).1
theorem sumc_CI (zs : List Int) (kk : Int) {k : Nat} {r : Nat × Nat} (hk : k ≤ 40) (h : SumTo (Lc zs kk k) k r) : CI r (spinI kk (tot (fq zs) k)) := by
  rw [← tot_spin]
  exact (sumTo_tot (B := 100000) (fun j hj => by rw [Lc_get zs kk hj]; exact spin_CI kk (fq_CI zs (by omega))) (fun j hj => spin_Bd kk (fq_Bd zs (by omega))) h (by omega)).1

/-- the sum of a list that is owned. -/
theorem sum_row {W : World} {base k : Nat} {v : Value} {L : List (Nat × Nat)} (hk : k ≤ 1000) (h : W.ownsRow base 24 1 v k (cvs L)) (w : World) (hb : Below W.heap.size W w) :
    Calls Try.prog 16 #[v] w fun e w' => ∃ r m, e = .returned (cx r) ∧ w.drewN m = w' ∧ SumTo L k r := by
  rcases h.2 with ⟨rfl, rfl⟩ | ⟨g, cap, cur, rfl, _, _, _, _, _, _⟩
  · exact (sum_nil w).mono fun e w' ⟨he, hw⟩ => ⟨(0, 0), 0, he, hw, rfl⟩
  · refine sum_any g 0 k cap L hk w fun j hj => ?_
    have hlen : L.length = k := by have := h.1; simpa [cvs] using this
    have hlt := own_lt h (g := g) rfl
    have hc := h.cells (g := g) rfl j (.complex .f64 (L.getD j (0, 0)).1 (L.getD j (0, 0)).2) (by unfold cvs; simp [hlen, hj])
    rw [add_at] at hc
    exact (hb.cell (by exact hlt)).trans hc

set_option maxHeartbeats 4000000 in
theorem qsums_some (a : Option Addr) (len cap : Nat) (zs : List Int) (kk : Int) (w : World) (hl : len ≤ 40)
    (ha : 0 < len → ∃ b off, a = some ⟨b, off, none⟩ ∧ b < w.heap.size ∧ ∀ i, i < len → w.cell? ⟨b, off + i, none⟩ = some (.int .i64 (zs.getD i 0))) :
    Calls Try.prog 8 #[.slice a len cap, .int .i64 kk] w fun e w' => e = .returned (.bool true) ∧ Below w.heap.size w w' := by
  have HA0 := Lib.hid ha
  clear ha
  obtain ⟨i0, hi, hz0, hz1, hz2⟩ := info_parts Sums.info
  go_enter Try.func8, Try.ntmps8
  go_wp2
  go_loopw [5, 6, 7, 8] (fun va vb vc i wr => ∃ k : Nat, k ≤ len ∧ i = .int .i64 (k : Nat) ∧ SRel w zs kk k va vb vc wr) (fun _ _ _ i _ => len - (intOf i).toNat)
  case atStart =>
    exact ⟨0, Nat.zero_le _, rfl, Below.refl _ _, World.ownsRow_nil _ _ _ _, World.ownsRow_nil _ _ _ _, World.ownsRow_nil _ _ _ _, fun g h => by simp [Value.ownBlock] at h, fun g h => by simp [Value.ownBlock] at h, fun g h => by simp [Value.ownBlock] at h, fun _ => rfl⟩
  case round =>
    obtain ⟨k, hk, rfl, hrel⟩ := hrel
    by_cases hlt : k < len
    · obtain ⟨b, off, hab, hb, hc⟩ := HA0.out (by omega)
      subst hab
      have c0 : wr.cell? ⟨b, off + k, none⟩ = some (.int .i64 (zs.getD k 0)) := (hrel.1.cell hb).trans (hc _ hlt)
      clear hc
      have hm := mod100000 (zs.getD k 0)
      obtain ⟨Q, hQ⟩ : ∃ Q, zs.getD k 0 % 18446744073709551616 % 100000 = Q := ⟨_, rfl⟩
      rw [hQ] at hm
      obtain ⟨y1, hy1⟩ : ∃ y, floatOfInt .f64 Q = y := ⟨_, rfl⟩
      obtain ⟨y2, hy2⟩ : ∃ y, floatOfInt .f64 (k : Int) = y := ⟨_, rfl⟩
      have HZ := Lib.hid (show Zr zs k = (y1, y2) by unfold Zr qv; rw [hQ, hy1, hy2])
      clear hQ
      generalize zs.getD k 0 = lk at c0 hm
      have HR := Lib.hid hrel
      have hsz := HR.out.1.size
      have oa := Lib.hid hrel.2.1
      clear hrel
      by_cases hk0 : k = 0
      · subst hk0
        have hvb := HR.out.2.2.2.2.2.2.2 rfl
        subst hvb
        have hy2' : floatOfInt .f64 0 = y2 := hy2
        have c0' : wr.cell? ⟨b, off, none⟩ = some (.int .i64 lk) := c0
        clear hy2 c0
        go_wp2_with (at_builtin; refine wpList_append_lies _ rfl (.tmp 31) (.tmp 33) 26 rfl w.heap.size 24 i0 (.complex .f64 0 0) 1 16 Try.underlying26 hi hz0 hz1 hz2 rfl (by decide) _ 0 (cvs (La zs 0)) rfl ?e1 ⟨wr.heap.size, 0, none⟩ 1 1 [.complex .f64 y1 y2] rfl rfl ?e2 ?e3 (by decide) ?e4 ?e5 ?e6 (wr.heap.size + 1) ?e7 ?_)
        case e1 => exact oa.out.alloc _
        case e2 => exact cell_new_at' _ _ (by simp) _ _
        case e3 => intro u hu; simp at hu; subst hu; rfl
        case e4 => unfold maxLen; omega
        case e5 => omega
        case e6 => simp; omega
        case e7 => simp
        intro ga ca W2 own2 g2 hat2 hlt2
        have O2 := Lib.hid own2
        have G2 := Lib.hid g2
        have T2 := Lib.hid hat2
        have S2 := grown_size g2
        clear own2 g2 hat2
        go_wp2_with (at_builtin; refine wpList_append_own_none rfl (.tmp 36) (.tmp 37) 26 rfl w.heap.size 24 i0 1 Try.underlying26 hi _ 1 [.complex .f64 y1 y2] rfl ?h1 rfl ?_)
        case h1 => exact owns_new W2 _ _ (by omega)
        obtain ⟨W4, hW4⟩ : ∃ x, x = W2.alloc (.cells #[.complex .f64 y1 y2] 24) := ⟨_, rfl⟩
        rw [← hW4]
        have G4 := Lib.hid (show (W2.alloc (.cells #[cv (y1, y2)] 24)).grownBy W4 (some W2.heap.size) by rw [hW4]; exact ⟨rfl, rfl, rfl, Nat.le_refl _, fun _ _ _ => rfl⟩)
        have O4 := Lib.hid (show W4.ownsRow w.heap.size 24 1 (.slice (some ⟨W2.heap.size, 0, none⟩) (0 + 1) 1) (0 + 1) (cv (y1, y2) :: cvs (Lb zs 0)) by rw [hW4]; exact owns_new W2 _ _ (by omega))
        have S4 := grown_size G4.out
        have hlt4 : W2.heap.size < W4.heap.size := by omega
        have oc := Lib.hid (srel_c HR.out G2.out G4.out)
        clear hW4
        go_wp2_with fail
        refine (spin_any _ _ _ _).mono ?_
        rintro e w' ⟨rfl, rfl⟩
        go_wp2_with (at_builtin; refine wpList_append_lies _ rfl (.tmp 39) (.tmp 43) 26 rfl w.heap.size 24 i0 (.complex .f64 0 0) 1 16 Try.underlying26 hi hz0 hz1 hz2 rfl (by decide) _ 0 (cvs (Lc zs kk 0)) rfl ?u1 ⟨W4.heap.size, 0, none⟩ 1 1 [.complex .f64 (spin kk (y1, y2)).1 (spin kk (y1, y2)).2] rfl rfl ?u2 ?u3 (by decide) ?u4 ?u5 ?u6 (W4.heap.size + 1) ?u7 ?_)
        case u1 => exact oc.out.alloc _
        case u2 => exact cell_new_at' _ _ (by simp) _ _
        case u3 => intro u hu; simp at hu; subst hu; rfl
        case u4 => unfold maxLen; omega
        case u5 => omega
        case u6 => simp; omega
        case u7 => simp
        intro gc cc W6 own6 g6 hat6 hlt6
        have R := Lib.hid (srel_step HZ.out HR.out O2.out G2.out T2.out hlt2 O4.out G4.out (.inl rfl) hlt4 own6 g6 hat6)
        clear own6 g6 hat6
        go_wp2
        go_roundw
        case rel => exact ⟨0 + 1, by omega, by go_num, R.out⟩
        case measure => simp [intOf]; omega
      · have hk1 : 0 < k := by omega
        obtain ⟨gb, cb, hvb, _, hgb⟩ := HR.out.2.2.1.form hk1
        subst hvb
        go_wp2_with (at_builtin; refine wpList_append_lies _ rfl (.tmp 31) (.tmp 33) 26 rfl w.heap.size 24 i0 (.complex .f64 0 0) 1 16 Try.underlying26 hi hz0 hz1 hz2 rfl (by decide) _ k (cvs (La zs k)) rfl ?p1 ⟨wr.heap.size, 0, none⟩ 1 1 [.complex .f64 y1 y2] rfl rfl ?p2 ?p3 (by decide) ?p4 ?p5 ?p6 (wr.heap.size + 1) ?p7 ?_)
        case p1 => exact oa.out.alloc _
        case p2 => exact cell_new_at' _ _ (by simp) _ _
        case p3 => intro u hu; simp at hu; subst hu; rfl
        case p4 => unfold maxLen; omega
        case p5 => omega
        case p6 => simp; omega
        case p7 => simp
        intro ga ca W2 own2 g2 hat2 hlt2
        have O2 := Lib.hid own2
        have G2 := Lib.hid g2
        have T2 := Lib.hid hat2
        have S2 := grown_size g2
        have ob := Lib.hid (srel_b HR.out g2).1
        clear own2 g2 hat2
        go_wp2_with (at_builtin; refine wpList_append_lies _ rfl (.tmp 36) (.tmp 37) 26 rfl w.heap.size 24 i0 (.complex .f64 0 0) 1 16 Try.underlying26 hi hz0 hz1 hz2 rfl (by decide) _ 1 [.complex .f64 y1 y2] rfl ?q1 ⟨gb, 0, none⟩ k cb (cvs (Lb zs k)) rfl ?q2 ?q3 ?q4 hk1 ?q5 ?q6 ?q7 (W2.heap.size + 1) ?q8 ?_)
        case q1 => exact owns_new W2 _ _ (by omega)
        case q2 => simp [cvs, Lb_length]
        case q3 => exact (ob.out.alloc _).cells (g := gb) rfl
        case q4 => exact one_cvs _
        case q5 => unfold maxLen; omega
        case q6 => omega
        case q7 => simp; omega
        case q8 => simp
        intro gb' cb' W4 own4 g4 hat4 hlt4
        rw [Nat.add_comm 1 k] at own4 ⊢
        have O4 := Lib.hid own4
        have G4 := Lib.hid g4
        have T4 := Lib.hid (show gb' = W2.heap.size ∨ gb' = W2.heap.size + 1 by
          rcases hat4 with e | e
          · left; simp [Value.ownBlock] at e; exact e.symm
          · right; exact e)
        have S4 := grown_size g4
        have oc := Lib.hid (srel_c HR.out G2.out g4)
        clear own4 g4 hat4 ob
        go_wp2_with fail
        refine (spin_any _ _ _ _).mono ?_
        rintro e w' ⟨rfl, rfl⟩
        go_wp2_with (at_builtin; refine wpList_append_lies _ rfl (.tmp 39) (.tmp 43) 26 rfl w.heap.size 24 i0 (.complex .f64 0 0) 1 16 Try.underlying26 hi hz0 hz1 hz2 rfl (by decide) _ k (cvs (Lc zs kk k)) rfl ?t1 ⟨W4.heap.size, 0, none⟩ 1 1 [.complex .f64 (spin kk (y1, y2)).1 (spin kk (y1, y2)).2] rfl rfl ?t2 ?t3 (by decide) ?t4 ?t5 ?t6 (W4.heap.size + 1) ?t7 ?_)
        case t1 => exact oc.out.alloc _
        case t2 => exact cell_new_at' _ _ (by simp) _ _
        case t3 => intro u hu; simp at hu; subst hu; rfl
        case t4 => unfold maxLen; omega
        case t5 => omega
        case t6 => simp; omega
        case t7 => simp
        intro gc cc W6 own6 g6 hat6 hlt6
        have R := Lib.hid (srel_step HZ.out HR.out O2.out G2.out T2.out hlt2 O4.out G4.out T4.out hlt4 own6 g6 hat6)
        clear own6 g6 hat6
        go_wp2
        go_roundw
        case rel => exact ⟨k + 1, by omega, by go_num, R.out⟩
        case measure => simp [intOf]; omega
    · have hkl : k = len := by omega
      subst hkl
      have HR := Lib.hid hrel
      clear hrel
      go_wp2_with fail
      refine (told_any _).mono ?_
      rintro e w3 ⟨rfl, hb3⟩
      have HB := Lib.hid hb3
      clear hb3
      go_wp2_with fail
      refine (sum_row (by omega) HR.out.2.1 _ HB.out).mono ?_
      rintro e w4 ⟨ra, na, rfl, rfl, hsa⟩
      have KA := Lib.hid (suma_CI zs hl hsa)
      clear hsa
      go_wp2_with fail
      refine (sum_row (by omega) HR.out.2.2.1 _ (below_drewN HB.out _)).mono ?_
      rintro e w4 ⟨rb, nb, rfl, rfl, hsb⟩
      have hsb := sumb_CI zs hl hsb
      have o1 : FloatKind.f64.format.order ra.1 rb.1 = some .eq := Fl.eq_isI KA.out.1 hsb.1
      have o2 : FloatKind.f64.format.order ra.2 rb.2 = some .eq := Fl.eq_isI KA.out.2 hsb.2
      clear hsb
      go_wp2_with fail
      refine (sum_row (by omega) HR.out.2.2.2.1 _ (below_drewN HB.out _)).mono ?_
      rintro e w4 ⟨rc, nc, rfl, rfl, hsc⟩
      have KC := Lib.hid (sumc_CI zs kk hl hsc)
      clear hsc
      go_wp2_with fail
      refine (sum_row (by omega) HR.out.2.1 _ (below_drewN HB.out _)).mono ?_
      rintro e w4 ⟨rd, nd, rfl, rfl, hsd⟩
      have KD := Lib.hid (spin_CI kk (suma_CI zs hl hsd))
      clear hsd
      go_wp2_with fail
      refine (spin_any _ _ _ _).mono ?_
      rintro e w' ⟨rfl, rfl⟩
      have o3 : FloatKind.f64.format.order rc.1 (spin kk (rd.1, rd.2)).1 = some .eq := Fl.eq_isI KC.out.1 KD.out.1
      have o4 : FloatKind.f64.format.order rc.2 (spin kk (rd.1, rd.2)).2 = some .eq := Fl.eq_isI KC.out.2 KD.out.2
      go_wp2_with fail
      go_ret
      exact ⟨rfl, below_drewN (HR.out.1.trans (HB.out.mono HR.out.1.size)) _⟩

set_option maxHeartbeats 400000 in
theorem qsums_long (a : Option Addr) (len cap : Nat) (kk : Int) (w : World) (hl : 40 < len) :
    Calls Try.prog 8 #[.slice a len cap, .int .i64 kk] w fun e w' => e = .returned (.bool true) ∧ Below w.heap.size w w' := by
  go_enter Try.func8, Try.ntmps8
  go_wp2_with fail
  refine (told_any _).mono ?_
  rintro e w3 ⟨rfl, hb3⟩
  go_wp2_with fail
  go_ret
  exact ⟨rfl, hb3⟩

theorem qsums_any (a : Option Addr) (len cap : Nat) (z : List Int) (kk : Int) (w : World) (h : IsRow .i64 w a len cap z) :
    Calls Try.prog 8 #[.slice a len cap, .int .i64 kk] w fun e w' => e = .returned (.bool true) ∧ Below w.heap.size w w' := by
  by_cases hl : len ≤ 40
  · refine qsums_some a len cap z kk w hl fun h0 => ?_
    rcases h with ⟨_, h, _⟩ | ⟨x, rfl, hlc, _, hz, hx, _⟩
    · omega
    · have h1 := hx 0 (by omega)
      obtain ⟨b, off, rfl⟩ := addr_of h1
      rw [add_at] at h1
      exact ⟨b, off, rfl, World.block_lt_of_cell? w _ h1, fun i hi => by rw [← add_at]; exact hx i (by omega)⟩
  · exact qsums_long a len cap kk w (by omega)

end Go.Proofs.Ytlnfghmkfgihjaa
