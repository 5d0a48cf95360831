/-
  Law 12's steps: what may be stays so; a slice of steps that came in.
-/
import Derived.Test.YtfmdlmhfckjniaaShDo
namespace Go.Proofs.Ytfmdlmhfckjniaa.Sh
open Go.RowKit Rg Go.Sort
set_option linter.unusedVariables false
set_option linter.unusedSimpArgs false

theorem step_may {s : Sd} (o : OpD) (h : MaySd s) : MaySd (stepF s o) := by
  unfold stepF
  repeat' split
  · exact put_may h _
  · exact get_may h
  · exact ack_may h _
  · exact nack_may h _
  · exact set_may h _
  · exact set_may h _
  · exact put_may h _
def playF (l : List OpD) : Sd := l.foldl stepF sd1
theorem play_snoc (l : List OpD) (i : Nat) (h : i < l.length) : playF (l.take (i + 1)) = stepF (playF (l.take i)) l[i] := by
  unfold playF
  rw [show l.take (i + 1) = l.take i ++ [l[i]] by rw [List.take_add_one, List.getElem?_eq_getElem h]; rfl, List.foldl_append]
  rfl
theorem play_may (l : List OpD) : MaySd (playF l) := by
  unfold playF
  have key : ∀ (l : List OpD) (s : Sd), MaySd s → MaySd (l.foldl stepF s) := by
    intro l
    induction l with
    | nil => intro s h; exact h
    | cons o l ih => intro s h; exact ih _ (step_may o h)
  exact key l sd1 (by decide)
/-- a slice of steps. -/
structure OpsAt (w : World) (a : Option Addr) (cap : Nat) (l : List OpD) : Prop where
  len : l.length ≤ cap
  max : cap ≤ maxLen
  at' : 0 < l.length → ∃ b o, a = some ⟨b, o, none⟩ ∧ ∀ i (h : i < l.length), ∃ ao co,
    (w.cell? ⟨b, o + i * 6, none⟩ = some (.int .i64 l[i].kind) ∧ w.cell? ⟨b, o + i * 6 + 1, none⟩ = some (.int .i64 l[i].pub) ∧ w.cell? ⟨b, o + i * 6 + 2, none⟩ = some (.int .i64 l[i].key) ∧ w.cell? ⟨b, o + i * 6 + 3, none⟩ = some (.int .i64 l[i].many) ∧ w.cell? ⟨b, o + i * 6 + 4, none⟩ = some (.int .i64 l[i].n) ∧ w.cell? ⟨b, o + i * 6 + 5, none⟩ = some (.slice ao l[i].l.length co)) ∧ OpAt w ao co l[i]
theorem OpsAt.nil (w : World) : OpsAt w none 0 [] := ⟨Nat.le_refl _, by simp [maxLen], fun h => by simp at h⟩
theorem OpsAt.below {w w' : World} {a : Option Addr} {cap : Nat} {l : List OpD} (h : OpsAt w a cap l) (hb : Below w.heap.size w w') : OpsAt w' a cap l := by
  refine ⟨h.len, h.max, fun h0 => ?_⟩
  obtain ⟨b, o, ha, hc⟩ := h.at' h0
  refine ⟨b, o, ha, fun i hi => ?_⟩
  obtain ⟨ao, co, ⟨c0, c1, c2, c3, c4, c5⟩, hop⟩ := hc i hi
  have up : ∀ {q : Nat} {v : Value}, w.cell? ⟨b, q, none⟩ = some v → w'.cell? ⟨b, q, none⟩ = some v := fun {q v} hv => (hb.cell (p := ⟨b, q, none⟩) (lt_of_cell hv)).trans hv
  exact ⟨ao, co, ⟨up c0, up c1, up c2, up c3, up c4, up c5⟩, hop.below hb⟩

end Go.Proofs.Ytfmdlmhfckjniaa.Sh
