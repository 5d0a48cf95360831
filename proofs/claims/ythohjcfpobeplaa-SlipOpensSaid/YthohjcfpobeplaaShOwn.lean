/-
  shard.own, walked: a shard in memory of the call's own.
-/
import Derived.Test.YthohjcfpobeplaaShDel
import Derived.Deep.RegionWith
namespace Go.Proofs.Ythohjcfpobeplaa.Sh
open Go.RowKit Rg
set_option linter.unusedVariables false
set_option linter.unusedSimpArgs false

theorem OwnS.kept {w w' : World} {base : Nat} {s : Sd} {vr vh vm : Value} (h : OwnS w base s vr vh vm) (hk : ∀ b, base ≤ b → w'.heap[b]? = w.heap[b]?) : OwnS w' base s vr vh vm :=
  ⟨h.rd.kept fun b hb _ => hk b hb, h.hd.kept fun b hb _ => hk b hb, h.ms.kept fun b hb _ => hk b hb⟩
theorem OwnS.mono {w : World} {base base' : Nat} {s : Sd} {vr vh vm : Value} (h : OwnS w base s vr vh vm) (hb : base' ≤ base) : OwnS w base' s vr vh vm := ⟨h.rd.mono hb, h.hd.mono hb, h.ms.mono hb⟩
theorem OwnS.below1 {w w' : World} {base : Nat} {s : Sd} {vr vh vm : Value} (h : OwnS w base s vr vh vm) (hb : Below w.heap.size w w') : OwnS w' base s vr vh vm := ⟨h.rd.below1 hb, h.hd.below1 hb, h.ms.below1 hb⟩
theorem OwnS.at {w : World} {base : Nat} {s : Sd} {vr vh vm : Value} (h : OwnS w base s vr vh vm) (hsm : s.rd.length ≤ 1000 ∧ s.hd.length ≤ 1000 ∧ s.ms.length ≤ 1000) : ∃ ra rc ha hc ma mc, vr = .slice ra s.rd.length rc ∧ vh = .slice ha s.hd.length hc ∧ vm = .slice ma s.ms.length mc ∧ SdAt w ra rc ha hc ma mc s := by
  obtain ⟨ra, rc, h1, h2, h3⟩ := OwnE.at mgE h.rd
  obtain ⟨ha, hc, h4, h5, h6⟩ := OwnE.at hdE h.hd
  obtain ⟨ma, mc, h7, h8, h9⟩ := OwnE.at mkE h.ms
  exact ⟨ra, rc, ha, hc, ma, mc, h1, h4, h7, ⟨h2, h5, h8, h3, h6, h9, hsm⟩⟩
/-- blocks from B on are as they were. -/
theorem far_set {B : Nat} {w w' : World} {g i : Nat} {v : Value} (h : ∀ b, B ≤ b → w'.heap[b]? = w.heap[b]?) (hg : g < B) : ∀ b, B ≤ b → (w'.setCell ⟨g, i, none⟩ v).heap[b]? = w.heap[b]? :=
  fun b hb => (Below.heap_setCell w' ⟨g, i, none⟩ v b (by show b ≠ g; omega)).trans (h b hb)
theorem low_set {B : Nat} {w w' : World} {g i : Nat} {v : Value} (h : Below B w w') (hg : B ≤ g) : Below B w (w'.setCell ⟨g, i, none⟩ v) := h.setCell (p := ⟨g, i, none⟩) hg v
def OwnR (s : Sd) (w : World) (e : Ending) (w' : World) : Prop :=
  ∃ vr vh vm, e = .returned (.agg #[.bool s.fr, .int .i64 s.nx, vr, vh, vm]) ∧ OwnS w' w.heap.size s vr vh vm ∧ Below w.heap.size w w'
theorem own_end {s : Sd} {w W wz wf : World} {vr vh vm : Value} (hb0 : Below w.heap.size w W) (h1 : OwnS wz W.heap.size s vr vh vm) (hk : ∀ b, W.heap.size ≤ b → wf.heap[b]? = wz.heap[b]?) (hb : Below w.heap.size w wf) :
    OwnR s w (.returned (.agg #[.bool s.fr, .int .i64 s.nx, vr, vh, vm])) wf := ⟨vr, vh, vm, rfl, (h1.kept hk).mono hb0.size, hb⟩

end Go.Proofs.Ythohjcfpobeplaa.Sh
