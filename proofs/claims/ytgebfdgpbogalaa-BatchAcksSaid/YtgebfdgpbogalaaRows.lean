/-
  No cell of these rows narrows 'for every input' (looked for: loops, veiled, ifaces, maps, wideKeys, modest, calm, conditions, laid).
  DERIVED. THE GIVEN ROWS OF THIS SEAT. 4 by the template 'for every input the law returns true; each argument reads behind the call as it read before'; 0 by the template 'total and deterministic' (their statements: YtgebfdgpbogalaaTotals.lean).
  GIVEN WITH THE SEED: the statements are not yours to turn. If you find one false, say at which input.
  Laid BY PROGRAM, IN A SANDBOX (cutbox-rows.mjs): the forced cells as the released guide's own fill.sh prints them over the translation 0deac9fa462c5215… (all of the seat's roots in one cut). By AI agents, Wed Nov 11 2026. No macro, syntax, notation, axiom, sorry.
-/
import Derived.Test.YtgebfdgpbogalaaChecked
import GoSem.Claim
import GoSem.ClaimJoined
import GoSem.ClaimMapViews
import Derived.JoinedTies
import Derived.KernelRfl
namespace Go.Proofs.Ytgebfdgpbogalaa
/- THE CELL 'sum', in the pinned program and in every row, IS THE sha256 OF THE DUMP (.gsa) THAT YtgebfdgpbogalaaProg.lean LOADS. Nothing in Lean hashes anything: it is a label: what it is worth is what the hold of that sum in a sandbox is worth. -/
noncomputable def Try.pinned : Pinned := { name := "ytgebfdgpbogalaa", sum := "0deac9fa462c5215fa2544f89cd080e0ea4ad9647f76b0893183fd916d88c182", checked := Try.checked }
namespace Rows
def none {H : Type} : Left H := { results := [], args := [] }

/-- 'carrefourlaw13.BatchPlays': WHATEVER THE INPUT: true; the input reads as it did. -/
def batchPlaysSpec : ChangeSpec := { name := "batchPlays", fn := fun _ => fun
  | [d1, d2] => { results := [.lit (.bool true)], args := [d1, d2] }
  | _ => none }
def batchPlaysRow : OpenClaim := { program := "ytgebfdgpbogalaa", sum := "0deac9fa462c5215fa2544f89cd080e0ea4ad9647f76b0893183fd916d88c182", func := "carrefour/carrefourlaw13.BatchPlays", spec := "batchPlays", apart := false }
def BatchPlaysSaid : Prop := batchPlaysRow.holds Try.pinned (OpenSpec.ofChange batchPlaysSpec)

/-- ITS FALSE NEIGHBOUR: 'it returns false'. Refute it at one input. -/
def batchPlaysWrong : ChangeSpec := { name := "batchPlays", fn := fun _ => fun
  | [d1, d2] => { results := [.lit (.bool false)], args := [d1, d2] }
  | _ => none }
def BatchPlaysWrongFalsely : Prop := batchPlaysRow.holds Try.pinned (OpenSpec.ofChange batchPlaysWrong)

/-- 'carrefourlaw13.BatchAcks': WHATEVER THE INPUT: true; the input reads as it did. -/
def batchAcksSpec : ChangeSpec := { name := "batchAcks", fn := fun _ => fun
  | [d1, d2] => { results := [.lit (.bool true)], args := [d1, d2] }
  | _ => none }
def batchAcksRow : OpenClaim := { program := "ytgebfdgpbogalaa", sum := "0deac9fa462c5215fa2544f89cd080e0ea4ad9647f76b0893183fd916d88c182", func := "carrefour/carrefourlaw13.BatchAcks", spec := "batchAcks", inPlace := ["slices.overlaps[carrefour/api.Msg]"], apart := false }
def BatchAcksSaid : Prop := batchAcksRow.holds Try.pinned (OpenSpec.ofChange batchAcksSpec)

/-- ITS FALSE NEIGHBOUR: 'it returns false'. Refute it at one input. -/
def batchAcksWrong : ChangeSpec := { name := "batchAcks", fn := fun _ => fun
  | [d1, d2] => { results := [.lit (.bool false)], args := [d1, d2] }
  | _ => none }
def BatchAcksWrongFalsely : Prop := batchAcksRow.holds Try.pinned (OpenSpec.ofChange batchAcksWrong)

/-- 'carrefourlaw13.BatchNext': WHATEVER THE INPUT: true; the input reads as it did. -/
def batchNextSpec : ChangeSpec := { name := "batchNext", fn := fun _ => fun
  | [d1, d2, d3] => { results := [.lit (.bool true)], args := [d1, d2, d3] }
  | _ => none }
def batchNextRow : OpenClaim := { program := "ytgebfdgpbogalaa", sum := "0deac9fa462c5215fa2544f89cd080e0ea4ad9647f76b0893183fd916d88c182", func := "carrefour/carrefourlaw13.BatchNext", spec := "batchNext", apart := false }
def BatchNextSaid : Prop := batchNextRow.holds Try.pinned (OpenSpec.ofChange batchNextSpec)

/-- ITS FALSE NEIGHBOUR: 'it returns false'. Refute it at one input. -/
def batchNextWrong : ChangeSpec := { name := "batchNext", fn := fun _ => fun
  | [d1, d2, d3] => { results := [.lit (.bool false)], args := [d1, d2, d3] }
  | _ => none }
def BatchNextWrongFalsely : Prop := batchNextRow.holds Try.pinned (OpenSpec.ofChange batchNextWrong)

/-- 'carrefourlaw12.ShardOrder': WHATEVER THE INPUT: true; the input reads as it did. -/
def shardOrderSpec : ChangeSpec := { name := "shardOrder", fn := fun _ => fun
  | [d] => { results := [.lit (.bool true)], args := [d] }
  | _ => none }
def shardOrderRow : OpenClaim := { program := "ytgebfdgpbogalaa", sum := "0deac9fa462c5215fa2544f89cd080e0ea4ad9647f76b0893183fd916d88c182", func := "carrefour/carrefourlaw12.ShardOrder", spec := "shardOrder", inPlace := ["slices.overlaps[carrefour/api.Msg]"], apart := false }
def ShardOrderSaid : Prop := shardOrderRow.holds Try.pinned (OpenSpec.ofChange shardOrderSpec)

/-- ITS FALSE NEIGHBOUR: 'it returns false'. Refute it at one input. -/
def shardOrderWrong : ChangeSpec := { name := "shardOrder", fn := fun _ => fun
  | [d] => { results := [.lit (.bool false)], args := [d] }
  | _ => none }
def ShardOrderWrongFalsely : Prop := shardOrderRow.holds Try.pinned (OpenSpec.ofChange shardOrderWrong)

/- THE SECOND FORM. 'bulk': how many values and letters a reading holds, each counted each time it is reached (what is shared counts as often as it is met; a slice's spare places count too). A statement '..UptoSaid' is the law's where the arguments, and the package variables that the reading takes, are together of bulk at most 1048576: NARROWER than '..Said'. Prove '..Said' where nothing that the law and all that it calls make is longer than what came in: it says more and counts as full. Else prove '..UptoSaid'. A law counts once. -/
mutual
def uptoBulk {H : Type} : DataW H → Nat
  | .lit (.string bytes) => bytes.length + 1
  | .lit _ => 1
  | .nil => 1
  | .ptr d => uptoBulk d + 1
  | .slice elems spare => uptoBulkAll elems + uptoBulkAll spare + 1
  | .agg parts => uptoBulkAll parts + 1
  | .iface _ d => uptoBulk d + 1
  | .map entries => uptoBulkEntries entries + 1
  | .held _ => 1
def uptoBulkAll {H : Type} : List (DataW H) → Nat
  | [] => 0
  | d :: r => uptoBulk d + uptoBulkAll r
def uptoBulkEntries {H : Type} : List (Lit × DataW H) → Nat
  | [] => 0
  | x :: r => uptoBulkEntry x + uptoBulkEntries r
def uptoBulkEntry {H : Type} : Lit × DataW H → Nat
  | (.string bytes, d) => bytes.length + uptoBulk d + 1
  | (_, d) => uptoBulk d + 1
 end
def uptoSmall : (H : Type) → List (DataW H) → Bool := fun _ ds => decide (uptoBulkAll ds ≤ 1048576)
def OpenSpec.upto (s : _root_.Go.ChangeSpec) : _root_.Go.OpenSpec := { _root_.Go.OpenSpec.ofChange s with cond := some uptoSmall }

/-- 'carrefourlaw13.BatchPlays', WHERE WHAT IT READS IS OF BULK AT MOST 1048576: true; the input reads as it did. -/
def batchPlaysUptoRow : OpenClaim := { program := "ytgebfdgpbogalaa", sum := "0deac9fa462c5215fa2544f89cd080e0ea4ad9647f76b0893183fd916d88c182", func := "carrefour/carrefourlaw13.BatchPlays", spec := "batchPlays", apart := false, narrowed := true }
def BatchPlaysUptoSaid : Prop := batchPlaysUptoRow.holds Try.pinned (OpenSpec.upto batchPlaysSpec)

/-- 'carrefourlaw13.BatchAcks', WHERE WHAT IT READS IS OF BULK AT MOST 1048576: true; the input reads as it did. -/
def batchAcksUptoRow : OpenClaim := { program := "ytgebfdgpbogalaa", sum := "0deac9fa462c5215fa2544f89cd080e0ea4ad9647f76b0893183fd916d88c182", func := "carrefour/carrefourlaw13.BatchAcks", spec := "batchAcks", inPlace := ["slices.overlaps[carrefour/api.Msg]"], apart := false, narrowed := true }
def BatchAcksUptoSaid : Prop := batchAcksUptoRow.holds Try.pinned (OpenSpec.upto batchAcksSpec)

/-- 'carrefourlaw13.BatchNext', WHERE WHAT IT READS IS OF BULK AT MOST 1048576: true; the input reads as it did. -/
def batchNextUptoRow : OpenClaim := { program := "ytgebfdgpbogalaa", sum := "0deac9fa462c5215fa2544f89cd080e0ea4ad9647f76b0893183fd916d88c182", func := "carrefour/carrefourlaw13.BatchNext", spec := "batchNext", apart := false, narrowed := true }
def BatchNextUptoSaid : Prop := batchNextUptoRow.holds Try.pinned (OpenSpec.upto batchNextSpec)

/-- 'carrefourlaw12.ShardOrder', WHERE WHAT IT READS IS OF BULK AT MOST 1048576: true; the input reads as it did. -/
def shardOrderUptoRow : OpenClaim := { program := "ytgebfdgpbogalaa", sum := "0deac9fa462c5215fa2544f89cd080e0ea4ad9647f76b0893183fd916d88c182", func := "carrefour/carrefourlaw12.ShardOrder", spec := "shardOrder", inPlace := ["slices.overlaps[carrefour/api.Msg]"], apart := false, narrowed := true }
def ShardOrderUptoSaid : Prop := shardOrderUptoRow.holds Try.pinned (OpenSpec.upto shardOrderSpec)

end Rows
end Go.Proofs.Ytgebfdgpbogalaa
