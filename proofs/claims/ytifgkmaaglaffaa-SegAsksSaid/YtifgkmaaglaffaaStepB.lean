/-
  Bytes put on at a step of a region that draws its order. No function of the program is named here.
-/
import Derived.Test.YtifgkmaaglaffaaKept
import Derived.Deep.RegionLaw
namespace Go.Proofs.Ytifgkmaaglaffaa
open Go.RowKit
set_option linter.unusedVariables false

theorem step_put_bytes {ops : Array Oper} {o : Oper} {a : Act} {K : Act → World → Prop} {Q : Exit → Act → World → Prop} {E : Prop} {w : World} {base B n c : Nat} {v : Value} {l m : List UInt8} {ad : Option Addr} (hgd : o.guard = none) (s x : Operand)
    (ho : o.op = .call { callee := .builtin .append, args := #[s, x], argTypes := #[22, 22] }) (hb : Buf w base v l) (hbase : base ≤ w.heap.size) (hm : BytesAt B w ad m) (hl : l.length + m.length ≤ 1000000) (hn : n = m.length)
    (hs : a.eval s = v) (hx : a.eval x = .slice ad n c)
    (h : ∀ v' w', Buf w' base v' (l ++ m) → Onto w v w' v' → K (a.put o.dst v') w') :
    if Region.wanted o (yielded ops a.tmps) = true then Oper.wp Try.prog o a w K Q else E := by
  have hw : Region.wanted o (yielded ops a.tmps) = true := by simp [Region.wanted, hgd]
  rw [if_pos hw]
  subst hn
  obtain ⟨v', w', hr, h1, h2⟩ := run_bytes o.type hb hbase ad c hm hl
  unfold Oper.wp execOp
  simp only [ho, resolve, invoke, builtin, Sem.run_bind, Sem.run_pure, Result.andThen_ok, List.map_toArray, List.map_cons, List.map_nil, hs, hx, hr]
  exact h v' w' h1 h2
theorem Buf.eqHeap {w w' : World} {base : Nat} {v : Value} {l : List UInt8} (h : Buf w base v l) (hk : w'.heap = w.heap) : Buf w' base v l := h.stay fun k _ => by rw [hk]

end Go.Proofs.Ytifgkmaaglaffaa
