/-
  No cell of these rows narrows 'for every input' (looked for: loops, veiled, ifaces, maps, wideKeys, modest, calm, conditions, laid).
  DERIVED. THE GIVEN ROWS OF THIS SEAT. 5 by the template 'for every input the law returns true; each argument reads behind the call as it read before'; 0 by the template 'total and deterministic' (their statements: YtidedmmfmifgjaaTotals.lean).
  GIVEN WITH THE SEED: the statements are not yours to turn. If you find one false, say at which input.
  Laid BY PROGRAM, IN A SANDBOX (cutbox-rows.mjs): the forced cells as the released guide's own fill.sh prints them over the translation c3d471cb3503ee57… (all of the seat's roots in one cut). By AI agents, Wed Nov 11 2026. No macro, syntax, notation, axiom, sorry.
-/
import Derived.Test.YtidedmmfmifgjaaChecked
import GoSem.Claim
import GoSem.ClaimJoined
import GoSem.ClaimMapViews
import Derived.JoinedTies
import Derived.KernelRfl
namespace Go.Proofs.Ytidedmmfmifgjaa
/- THE CELL 'sum', in the pinned program and in every row, IS THE sha256 OF THE DUMP (.gsa) THAT YtidedmmfmifgjaaProg.lean LOADS. Nothing in Lean hashes anything: it is a label: what it is worth is what the hold of that sum in a sandbox is worth. -/
noncomputable def Try.pinned : Pinned := { name := "ytidedmmfmifgjaa", sum := "c3d471cb3503ee578d11ae1f1b3e8d0ceec499f25bcb4aa4baa97e064a957a78", checked := Try.checked }
namespace Rows
def none {H : Type} : Left H := { results := [], args := [] }

/-- 'carrefourlaw7.TopicAsks': WHATEVER THE INPUT: true; the input reads as it did. -/
def topicAsksSpec : ChangeSpec := { name := "topicAsks", fn := fun _ => fun
  | [d1, d2] => { results := [.lit (.bool true)], args := [d1, d2] }
  | _ => none }
def topicAsksRow : OpenClaim := { program := "ytidedmmfmifgjaa", sum := "c3d471cb3503ee578d11ae1f1b3e8d0ceec499f25bcb4aa4baa97e064a957a78", func := "carrefour/carrefourlaw7.TopicAsks", spec := "topicAsks", inPlace := ["internal/bytealg.CountString", "internal/bytealg.IndexByteString", "internal/bytealg.IndexString"], named := ["internal/bytealg.MaxLen"], apart := false }
def TopicAsksSaid : Prop := topicAsksRow.holds Try.pinned (OpenSpec.ofChange topicAsksSpec)

/-- ITS FALSE NEIGHBOUR: 'it returns false'. Refute it at one input. -/
def topicAsksWrong : ChangeSpec := { name := "topicAsks", fn := fun _ => fun
  | [d1, d2] => { results := [.lit (.bool false)], args := [d1, d2] }
  | _ => none }
def TopicAsksWrongFalsely : Prop := topicAsksRow.holds Try.pinned (OpenSpec.ofChange topicAsksWrong)

/-- 'carrefourlaw7.TopicMakes': WHATEVER THE INPUT: true; the input reads as it did. -/
def topicMakesSpec : ChangeSpec := { name := "topicMakes", fn := fun _ => fun
  | [d1, d2] => { results := [.lit (.bool true)], args := [d1, d2] }
  | _ => none }
def topicMakesRow : OpenClaim := { program := "ytidedmmfmifgjaa", sum := "c3d471cb3503ee578d11ae1f1b3e8d0ceec499f25bcb4aa4baa97e064a957a78", func := "carrefour/carrefourlaw7.TopicMakes", spec := "topicMakes", inPlace := ["internal/bytealg.CountString", "internal/bytealg.IndexByteString", "internal/bytealg.IndexString"], named := ["internal/bytealg.MaxLen"], apart := false }
def TopicMakesSaid : Prop := topicMakesRow.holds Try.pinned (OpenSpec.ofChange topicMakesSpec)

/-- ITS FALSE NEIGHBOUR: 'it returns false'. Refute it at one input. -/
def topicMakesWrong : ChangeSpec := { name := "topicMakes", fn := fun _ => fun
  | [d1, d2] => { results := [.lit (.bool false)], args := [d1, d2] }
  | _ => none }
def TopicMakesWrongFalsely : Prop := topicMakesRow.holds Try.pinned (OpenSpec.ofChange topicMakesWrong)

/-- 'carrefourlaw7.TopicStars': WHATEVER THE INPUT: true; the input reads as it did. -/
def topicStarsSpec : ChangeSpec := { name := "topicStars", fn := fun _ => fun
  | [d1, d2, d3] => { results := [.lit (.bool true)], args := [d1, d2, d3] }
  | _ => none }
def topicStarsRow : OpenClaim := { program := "ytidedmmfmifgjaa", sum := "c3d471cb3503ee578d11ae1f1b3e8d0ceec499f25bcb4aa4baa97e064a957a78", func := "carrefour/carrefourlaw7.TopicStars", spec := "topicStars", inPlace := ["internal/bytealg.CountString", "internal/bytealg.IndexByteString", "internal/bytealg.IndexString"], named := ["internal/bytealg.MaxLen"], apart := false }
def TopicStarsSaid : Prop := topicStarsRow.holds Try.pinned (OpenSpec.ofChange topicStarsSpec)

/-- ITS FALSE NEIGHBOUR: 'it returns false'. Refute it at one input. -/
def topicStarsWrong : ChangeSpec := { name := "topicStars", fn := fun _ => fun
  | [d1, d2, d3] => { results := [.lit (.bool false)], args := [d1, d2, d3] }
  | _ => none }
def TopicStarsWrongFalsely : Prop := topicStarsRow.holds Try.pinned (OpenSpec.ofChange topicStarsWrong)

/-- 'carrefourlaw7.TopicLong': WHATEVER THE INPUT: true; the input reads as it did. -/
def topicLongSpec : ChangeSpec := { name := "topicLong", fn := fun _ => fun
  | [d1, d2] => { results := [.lit (.bool true)], args := [d1, d2] }
  | _ => none }
def topicLongRow : OpenClaim := { program := "ytidedmmfmifgjaa", sum := "c3d471cb3503ee578d11ae1f1b3e8d0ceec499f25bcb4aa4baa97e064a957a78", func := "carrefour/carrefourlaw7.TopicLong", spec := "topicLong", inPlace := ["internal/bytealg.CountString", "internal/bytealg.IndexByteString", "internal/bytealg.IndexString"], named := ["internal/bytealg.MaxLen"], apart := false }
def TopicLongSaid : Prop := topicLongRow.holds Try.pinned (OpenSpec.ofChange topicLongSpec)

/-- ITS FALSE NEIGHBOUR: 'it returns false'. Refute it at one input. -/
def topicLongWrong : ChangeSpec := { name := "topicLong", fn := fun _ => fun
  | [d1, d2] => { results := [.lit (.bool false)], args := [d1, d2] }
  | _ => none }
def TopicLongWrongFalsely : Prop := topicLongRow.holds Try.pinned (OpenSpec.ofChange topicLongWrong)

/-- 'carrefourlaw7.TopicWords': WHATEVER THE INPUT: true; the input reads as it did. -/
def topicWordsSpec : ChangeSpec := { name := "topicWords", fn := fun _ => fun
  | [d] => { results := [.lit (.bool true)], args := [d] }
  | _ => none }
def topicWordsRow : OpenClaim := { program := "ytidedmmfmifgjaa", sum := "c3d471cb3503ee578d11ae1f1b3e8d0ceec499f25bcb4aa4baa97e064a957a78", func := "carrefour/carrefourlaw7.TopicWords", spec := "topicWords", inPlace := ["internal/bytealg.CountString", "internal/bytealg.IndexByteString", "internal/bytealg.IndexString"], named := ["internal/bytealg.MaxLen"], apart := false }
def TopicWordsSaid : Prop := topicWordsRow.holds Try.pinned (OpenSpec.ofChange topicWordsSpec)

/-- ITS FALSE NEIGHBOUR: 'it returns false'. Refute it at one input. -/
def topicWordsWrong : ChangeSpec := { name := "topicWords", fn := fun _ => fun
  | [d] => { results := [.lit (.bool false)], args := [d] }
  | _ => none }
def TopicWordsWrongFalsely : Prop := topicWordsRow.holds Try.pinned (OpenSpec.ofChange topicWordsWrong)

/- THE SECOND FORM. 'bulk': how many values and letters a reading holds, each counted each time it is reached (what is shared counts as often as it is met; a slice's spare places count too). A statement '..UptoSaid' is the law's where the arguments, and the package variables that the reading takes, are together of bulk at most 1048576: NARROWER than '..Said'. Prove '..Said' where nothing that the law and all that it calls make is longer than what came in: it says more and counts as full. Else prove '..UptoSaid'. A law counts once. -/
mutual
def uptoBulk {H : Type} : DataW H → Nat
  | .lit (.string bytes) => bytes.length + 1
  | .lit _ => 1
  | .nil => 1
  | .ptr d => uptoBulk d + 1
  | .slice elems spare => uptoBulkAll elems + uptoBulkAll spare + 1
  | .agg parts => uptoBulkAll parts + 1
  | .iface _ d => uptoBulk d + 1
  | .map entries => uptoBulkEntries entries + 1
  | .held _ => 1
def uptoBulkAll {H : Type} : List (DataW H) → Nat
  | [] => 0
  | d :: r => uptoBulk d + uptoBulkAll r
def uptoBulkEntries {H : Type} : List (Lit × DataW H) → Nat
  | [] => 0
  | x :: r => uptoBulkEntry x + uptoBulkEntries r
def uptoBulkEntry {H : Type} : Lit × DataW H → Nat
  | (.string bytes, d) => bytes.length + uptoBulk d + 1
  | (_, d) => uptoBulk d + 1
 end
def uptoSmall : (H : Type) → List (DataW H) → Bool := fun _ ds => decide (uptoBulkAll ds ≤ 1048576)
def OpenSpec.upto (s : _root_.Go.ChangeSpec) : _root_.Go.OpenSpec := { _root_.Go.OpenSpec.ofChange s with cond := some uptoSmall }

/-- 'carrefourlaw7.TopicAsks', WHERE WHAT IT READS IS OF BULK AT MOST 1048576: true; the input reads as it did. -/
def topicAsksUptoRow : OpenClaim := { program := "ytidedmmfmifgjaa", sum := "c3d471cb3503ee578d11ae1f1b3e8d0ceec499f25bcb4aa4baa97e064a957a78", func := "carrefour/carrefourlaw7.TopicAsks", spec := "topicAsks", inPlace := ["internal/bytealg.CountString", "internal/bytealg.IndexByteString", "internal/bytealg.IndexString"], named := ["internal/bytealg.MaxLen"], apart := false, narrowed := true }
def TopicAsksUptoSaid : Prop := topicAsksUptoRow.holds Try.pinned (OpenSpec.upto topicAsksSpec)

/-- 'carrefourlaw7.TopicMakes', WHERE WHAT IT READS IS OF BULK AT MOST 1048576: true; the input reads as it did. -/
def topicMakesUptoRow : OpenClaim := { program := "ytidedmmfmifgjaa", sum := "c3d471cb3503ee578d11ae1f1b3e8d0ceec499f25bcb4aa4baa97e064a957a78", func := "carrefour/carrefourlaw7.TopicMakes", spec := "topicMakes", inPlace := ["internal/bytealg.CountString", "internal/bytealg.IndexByteString", "internal/bytealg.IndexString"], named := ["internal/bytealg.MaxLen"], apart := false, narrowed := true }
def TopicMakesUptoSaid : Prop := topicMakesUptoRow.holds Try.pinned (OpenSpec.upto topicMakesSpec)

/-- 'carrefourlaw7.TopicStars', WHERE WHAT IT READS IS OF BULK AT MOST 1048576: true; the input reads as it did. -/
def topicStarsUptoRow : OpenClaim := { program := "ytidedmmfmifgjaa", sum := "c3d471cb3503ee578d11ae1f1b3e8d0ceec499f25bcb4aa4baa97e064a957a78", func := "carrefour/carrefourlaw7.TopicStars", spec := "topicStars", inPlace := ["internal/bytealg.CountString", "internal/bytealg.IndexByteString", "internal/bytealg.IndexString"], named := ["internal/bytealg.MaxLen"], apart := false, narrowed := true }
def TopicStarsUptoSaid : Prop := topicStarsUptoRow.holds Try.pinned (OpenSpec.upto topicStarsSpec)

/-- 'carrefourlaw7.TopicLong', WHERE WHAT IT READS IS OF BULK AT MOST 1048576: true; the input reads as it did. -/
def topicLongUptoRow : OpenClaim := { program := "ytidedmmfmifgjaa", sum := "c3d471cb3503ee578d11ae1f1b3e8d0ceec499f25bcb4aa4baa97e064a957a78", func := "carrefour/carrefourlaw7.TopicLong", spec := "topicLong", inPlace := ["internal/bytealg.CountString", "internal/bytealg.IndexByteString", "internal/bytealg.IndexString"], named := ["internal/bytealg.MaxLen"], apart := false, narrowed := true }
def TopicLongUptoSaid : Prop := topicLongUptoRow.holds Try.pinned (OpenSpec.upto topicLongSpec)

/-- 'carrefourlaw7.TopicWords', WHERE WHAT IT READS IS OF BULK AT MOST 1048576: true; the input reads as it did. -/
def topicWordsUptoRow : OpenClaim := { program := "ytidedmmfmifgjaa", sum := "c3d471cb3503ee578d11ae1f1b3e8d0ceec499f25bcb4aa4baa97e064a957a78", func := "carrefour/carrefourlaw7.TopicWords", spec := "topicWords", inPlace := ["internal/bytealg.CountString", "internal/bytealg.IndexByteString", "internal/bytealg.IndexString"], named := ["internal/bytealg.MaxLen"], apart := false, narrowed := true }
def TopicWordsUptoSaid : Prop := topicWordsUptoRow.holds Try.pinned (OpenSpec.upto topicWordsSpec)

end Rows
end Go.Proofs.Ytidedmmfmifgjaa
