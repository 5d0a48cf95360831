/-
  MaySd place by place, as the document asks.
-/
import Derived.Test.YtgebfdgpbogalaaShDat
namespace Go.Proofs.Ytgebfdgpbogalaa.Sh

def R1 (s : Sd) (i : Nat) (h : i < s.ms.length) : Prop := MayStand s.ms[i].pub s.ms[i].seq s.ms[i].key ∧ ∀ k (hk : k < i), ¬ (s.ms[k].pub = s.ms[i].pub ∧ s.ms[k].key = s.ms[i].key)
def R2 (s : Sd) (i : Nat) (h : i < s.hd.length) : Prop := MayMg s.hd[i].m ∧ 1 ≤ s.hd[i].tag ∧ s.hd[i].tag < s.nx ∧ (0 < i → s.hd[i - 1].tag < s.hd[i].tag) ∧ s.hd[i].m.seq ≤ lastF s.ms s.hd[i].m.pub s.hd[i].m.key ∧ ∀ k (hk : k < i), ¬ s.hd[k].m.key = s.hd[i].m.key
def R3 (s : Sd) (i : Nat) (h : i < s.rd.length) : Prop := MayMg s.rd[i] ∧ s.rd[i].seq ≤ lastF s.ms s.rd[i].pub s.rd[i].key ∧ (∀ k (hk : k < i), ¬ (s.rd[k].pub = s.rd[i].pub ∧ s.rd[k].key = s.rd[i].key ∧ s.rd[i].seq ≤ s.rd[k].seq)) ∧ (∀ k (hk : k < s.hd.length), ¬ (s.hd[k].m.pub = s.rd[i].pub ∧ s.hd[k].m.key = s.rd[i].key ∧ s.rd[i].seq ≤ s.hd[k].m.seq))
theorem tags_up {l : List Hd} (h : ∀ i (hi : i < l.length), 0 < i → l[i - 1].tag < l[i].tag) : ∀ (d i : Nat) (hj : i + d + 1 < l.length), l[i].tag < l[i + d + 1].tag := by
  intro d
  induction d with
  | zero => intro i hj; exact h (i + 1) hj (by omega)
  | succ d ih =>
    intro i hj
    have h1 := ih i (by omega)
    have h2 := h (i + (d + 1) + 1) hj (by omega)
    exact Int.lt_trans h1 h2
theorem rmay_is (s : Sd) : MaySd s ↔ 1 ≤ s.nx ∧ s.nx ≤ 1073741824 ∧ s.rd.length + s.hd.length ≤ 48 ∧ s.ms.length ≤ 64 ∧ (∀ i h, R1 s i h) ∧ (∀ i h, R2 s i h) ∧ (∀ i h, R3 s i h) := by
  constructor
  · rintro ⟨a, b, c, d, e, f, g, h, i, j, k⟩
    rw [List.pairwise_iff_getElem] at f h i k
    refine ⟨a, b, c, d, fun n hn => ⟨e _ (List.getElem_mem hn), fun m hm => f m n (by omega) hn hm⟩, fun n hn => ?_, fun n hn => ?_⟩
    · have hj := j s.hd[n].m (List.mem_append_left _ (List.mem_map.2 ⟨_, List.getElem_mem hn, rfl⟩))
      have hg := g _ (List.getElem_mem hn)
      exact ⟨hj.1, hg.1, hg.2, fun h0 => h (n - 1) n (by omega) hn (by omega), hj.2, fun m hm => i m n (by omega) hn hm⟩
    · have hj := j s.rd[n] (List.mem_append_right _ (List.getElem_mem hn))
      have lenA : (allF s).length = s.hd.length + s.rd.length := by simp [allF]
      have at1 : ∀ m (hm : m < s.rd.length), ∃ h', (allF s)[s.hd.length + m]'h' = s.rd[m] := fun m hm => ⟨by omega, by simp [allF]⟩
      have at2 : ∀ m (hm : m < s.hd.length), ∃ h', (allF s)[m]'h' = s.hd[m].m := fun m hm => ⟨by omega, by simp [allF, hm]⟩
      refine ⟨hj.1, hj.2, fun m hm => ?_, fun m hm => ?_⟩
      · obtain ⟨h1, e1⟩ := at1 m (by omega)
        obtain ⟨h2, e2⟩ := at1 n hn
        have := k _ _ h1 h2 (by omega)
        rw [e1, e2] at this
        rintro ⟨p1, p2, p3⟩
        have := this ⟨p1, p2⟩
        omega
      · obtain ⟨h1, e1⟩ := at2 m hm
        obtain ⟨h2, e2⟩ := at1 n hn
        have := k _ _ h1 h2 (by omega)
        rw [e1, e2] at this
        rintro ⟨p1, p2, p3⟩
        have := this ⟨p1, p2⟩
        omega
  · rintro ⟨a, b, c, d, r1, r2, r3⟩
    refine ⟨a, b, c, d, fun m hm => ?_, ?_, fun x hx => ?_, ?_, ?_, fun m hm => ?_, ?_⟩
    · obtain ⟨n, hn, rfl⟩ := List.getElem_of_mem hm
      exact (r1 n hn).1
    · rw [List.pairwise_iff_getElem]
      exact fun i j hi hj hij => (r1 j hj).2 i hij
    · obtain ⟨n, hn, rfl⟩ := List.getElem_of_mem hx
      exact ⟨(r2 n hn).2.1, (r2 n hn).2.2.1⟩
    · rw [List.pairwise_iff_getElem]
      intro i j hi hj hij
      have := tags_up (l := s.hd) (fun i hi h0 => (r2 i hi).2.2.2.1 h0) (j - i - 1) i (by omega)
      have e : i + (j - i - 1) + 1 = j := by omega
      simpa only [e] using this
    · rw [List.pairwise_iff_getElem]
      exact fun i j hi hj hij => (r2 j hj).2.2.2.2.2 i hij
    · rcases List.mem_append.1 hm with hm | hm
      · obtain ⟨x, hx, rfl⟩ := List.mem_map.1 hm
        obtain ⟨n, hn, rfl⟩ := List.getElem_of_mem hx
        exact ⟨(r2 n hn).1, (r2 n hn).2.2.2.2.1⟩
      · obtain ⟨n, hn, rfl⟩ := List.getElem_of_mem hm
        exact ⟨(r3 n hn).1, (r3 n hn).2.1⟩
    · unfold allF
      rw [List.pairwise_append]
      refine ⟨?_, ?_, fun x hx y hy => ?_⟩
      · rw [List.pairwise_map, List.pairwise_iff_getElem]
        exact fun i j hi hj hij h => absurd h.2 ((r2 j hj).2.2.2.2.2 i hij)
      · rw [List.pairwise_iff_getElem]
        intro i j hi hj hij h
        have := (r3 j hj).2.2.1 i hij
        exact Classical.byContradiction fun g => this ⟨h.1, h.2, by omega⟩
      · obtain ⟨x', hx', rfl⟩ := List.mem_map.1 hx
        obtain ⟨i, hi, rfl⟩ := List.getElem_of_mem hx'
        obtain ⟨j, hj, rfl⟩ := List.getElem_of_mem hy
        intro h
        have := (r3 j hj).2.2.2 i hi
        exact Classical.byContradiction fun g => this ⟨h.1, h.2, by omega⟩

end Go.Proofs.Ytgebfdgpbogalaa.Sh
