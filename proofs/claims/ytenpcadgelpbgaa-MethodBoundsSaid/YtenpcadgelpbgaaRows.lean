/-
  NARROWER THAN 'FOR EVERY INPUT', by the rows' own cells (each row's printed sentence says how): MethodAsks: loops · MethodBack: loops.
  DERIVED. THE GIVEN ROWS OF THIS SEAT. 5 by the template 'for every input the law returns true; each argument reads behind the call as it read before'; 0 by the template 'total and deterministic' (their statements: YtenpcadgelpbgaaTotals.lean).
  GIVEN WITH THE SEED: the statements are not yours to turn. If you find one false, say at which input.
  Laid BY PROGRAM, IN A SANDBOX (cutbox-rows.mjs): the forced cells as the released guide's own fill.sh prints them over the translation f7584aa3ce90e79b… (all of the seat's roots in one cut). By AI agents, Wed Nov 11 2026. No macro, syntax, notation, axiom, sorry.
-/
import Derived.Test.YtenpcadgelpbgaaChecked
import GoSem.Claim
import GoSem.ClaimJoined
import GoSem.ClaimMapViews
import Derived.JoinedTies
import Derived.KernelRfl
namespace Go.Proofs.Ytenpcadgelpbgaa
/- THE CELL 'sum', in the pinned program and in every row, IS THE sha256 OF THE DUMP (.gsa) THAT YtenpcadgelpbgaaProg.lean LOADS. Nothing in Lean hashes anything: it is a label: what it is worth is what the hold of that sum in a sandbox is worth. -/
noncomputable def Try.pinned : Pinned := { name := "ytenpcadgelpbgaa", sum := "f7584aa3ce90e79b93e2b92ea1cd9a5a6f14201ed519ac106b97ba2375e639f4", checked := Try.checked }
namespace Rows
def none {H : Type} : Left H := { results := [], args := [] }

/-- 'carrefourlaw5.MethodAsks': WHATEVER THE INPUT: true; the input reads as it did. -/
def methodAsksSpec : ChangeSpec := { name := "methodAsks", fn := fun _ => fun
  | [d1, d2, d3, d4] => { results := [.lit (.bool true)], args := [d1, d2, d3, d4] }
  | _ => none }
def methodAsksRow : OpenClaim := { program := "ytenpcadgelpbgaa", sum := "f7584aa3ce90e79b93e2b92ea1cd9a5a6f14201ed519ac106b97ba2375e639f4", func := "carrefour/carrefourlaw5.MethodAsks", spec := "methodAsks", inPlace := ["internal/bytealg.IndexByteString"], recurses := true, loops := true, plainKeys := false, apart := false }
def MethodAsksSaid : Prop := methodAsksRow.holds Try.pinned (OpenSpec.ofChange methodAsksSpec)

/-- ITS FALSE NEIGHBOUR: 'it returns false'. Refute it at one input. -/
def methodAsksWrong : ChangeSpec := { name := "methodAsks", fn := fun _ => fun
  | [d1, d2, d3, d4] => { results := [.lit (.bool false)], args := [d1, d2, d3, d4] }
  | _ => none }
def MethodAsksWrongFalsely : Prop := methodAsksRow.holds Try.pinned (OpenSpec.ofChange methodAsksWrong)

/-- 'carrefourlaw5.MethodBack': WHATEVER THE INPUT: true; the input reads as it did. -/
def methodBackSpec : ChangeSpec := { name := "methodBack", fn := fun _ => fun
  | [d1, d2, d3] => { results := [.lit (.bool true)], args := [d1, d2, d3] }
  | _ => none }
def methodBackRow : OpenClaim := { program := "ytenpcadgelpbgaa", sum := "f7584aa3ce90e79b93e2b92ea1cd9a5a6f14201ed519ac106b97ba2375e639f4", func := "carrefour/carrefourlaw5.MethodBack", spec := "methodBack", inPlace := ["internal/bytealg.IndexByteString"], recurses := true, loops := true, plainKeys := false, apart := false }
def MethodBackSaid : Prop := methodBackRow.holds Try.pinned (OpenSpec.ofChange methodBackSpec)

/-- ITS FALSE NEIGHBOUR: 'it returns false'. Refute it at one input. -/
def methodBackWrong : ChangeSpec := { name := "methodBack", fn := fun _ => fun
  | [d1, d2, d3] => { results := [.lit (.bool false)], args := [d1, d2, d3] }
  | _ => none }
def MethodBackWrongFalsely : Prop := methodBackRow.holds Try.pinned (OpenSpec.ofChange methodBackWrong)

/-- 'carrefourlaw5.MethodParts': WHATEVER THE INPUT: true; the input reads as it did. -/
def methodPartsSpec : ChangeSpec := { name := "methodParts", fn := fun _ => fun
  | [d1, d2] => { results := [.lit (.bool true)], args := [d1, d2] }
  | _ => none }
def methodPartsRow : OpenClaim := { program := "ytenpcadgelpbgaa", sum := "f7584aa3ce90e79b93e2b92ea1cd9a5a6f14201ed519ac106b97ba2375e639f4", func := "carrefour/carrefourlaw5.MethodParts", spec := "methodParts", inPlace := ["internal/bytealg.IndexByteString"], recurses := true, plainKeys := false, apart := false }
def MethodPartsSaid : Prop := methodPartsRow.holds Try.pinned (OpenSpec.ofChange methodPartsSpec)

/-- ITS FALSE NEIGHBOUR: 'it returns false'. Refute it at one input. -/
def methodPartsWrong : ChangeSpec := { name := "methodParts", fn := fun _ => fun
  | [d1, d2] => { results := [.lit (.bool false)], args := [d1, d2] }
  | _ => none }
def MethodPartsWrongFalsely : Prop := methodPartsRow.holds Try.pinned (OpenSpec.ofChange methodPartsWrong)

/-- 'carrefourlaw5.MethodBounds': WHATEVER THE INPUT: true; the input reads as it did. -/
def methodBoundsSpec : ChangeSpec := { name := "methodBounds", fn := fun _ => fun
  | [d1, d2] => { results := [.lit (.bool true)], args := [d1, d2] }
  | _ => none }
def methodBoundsRow : OpenClaim := { program := "ytenpcadgelpbgaa", sum := "f7584aa3ce90e79b93e2b92ea1cd9a5a6f14201ed519ac106b97ba2375e639f4", func := "carrefour/carrefourlaw5.MethodBounds", spec := "methodBounds", inPlace := ["internal/bytealg.IndexByteString"], recurses := true, plainKeys := false, apart := false }
def MethodBoundsSaid : Prop := methodBoundsRow.holds Try.pinned (OpenSpec.ofChange methodBoundsSpec)

/-- ITS FALSE NEIGHBOUR: 'it returns false'. Refute it at one input. -/
def methodBoundsWrong : ChangeSpec := { name := "methodBounds", fn := fun _ => fun
  | [d1, d2] => { results := [.lit (.bool false)], args := [d1, d2] }
  | _ => none }
def MethodBoundsWrongFalsely : Prop := methodBoundsRow.holds Try.pinned (OpenSpec.ofChange methodBoundsWrong)

/-- 'carrefourlaw5.MethodFlags': WHATEVER THE INPUT: true; the input reads as it did. -/
def methodFlagsSpec : ChangeSpec := { name := "methodFlags", fn := fun _ => fun
  | [d1, d2] => { results := [.lit (.bool true)], args := [d1, d2] }
  | _ => none }
def methodFlagsRow : OpenClaim := { program := "ytenpcadgelpbgaa", sum := "f7584aa3ce90e79b93e2b92ea1cd9a5a6f14201ed519ac106b97ba2375e639f4", func := "carrefour/carrefourlaw5.MethodFlags", spec := "methodFlags", inPlace := ["internal/bytealg.IndexByteString"], recurses := true, plainKeys := false, apart := false }
def MethodFlagsSaid : Prop := methodFlagsRow.holds Try.pinned (OpenSpec.ofChange methodFlagsSpec)

/-- ITS FALSE NEIGHBOUR: 'it returns false'. Refute it at one input. -/
def methodFlagsWrong : ChangeSpec := { name := "methodFlags", fn := fun _ => fun
  | [d1, d2] => { results := [.lit (.bool false)], args := [d1, d2] }
  | _ => none }
def MethodFlagsWrongFalsely : Prop := methodFlagsRow.holds Try.pinned (OpenSpec.ofChange methodFlagsWrong)

/- THE SECOND FORM. 'bulk': how many values and letters a reading holds, each counted each time it is reached (what is shared counts as often as it is met; a slice's spare places count too). A statement '..UptoSaid' is the law's where the arguments, and the package variables that the reading takes, are together of bulk at most 1048576: NARROWER than '..Said'. Prove '..Said' where nothing that the law and all that it calls make is longer than what came in: it says more and counts as full. Else prove '..UptoSaid'. A law counts once. -/
mutual
def uptoBulk {H : Type} : DataW H → Nat
  | .lit (.string bytes) => bytes.length + 1
  | .lit _ => 1
  | .nil => 1
  | .ptr d => uptoBulk d + 1
  | .slice elems spare => uptoBulkAll elems + uptoBulkAll spare + 1
  | .agg parts => uptoBulkAll parts + 1
  | .iface _ d => uptoBulk d + 1
  | .map entries => uptoBulkEntries entries + 1
  | .held _ => 1
def uptoBulkAll {H : Type} : List (DataW H) → Nat
  | [] => 0
  | d :: r => uptoBulk d + uptoBulkAll r
def uptoBulkEntries {H : Type} : List (Lit × DataW H) → Nat
  | [] => 0
  | x :: r => uptoBulkEntry x + uptoBulkEntries r
def uptoBulkEntry {H : Type} : Lit × DataW H → Nat
  | (.string bytes, d) => bytes.length + uptoBulk d + 1
  | (_, d) => uptoBulk d + 1
 end
def uptoSmall : (H : Type) → List (DataW H) → Bool := fun _ ds => decide (uptoBulkAll ds ≤ 1048576)
def OpenSpec.upto (s : _root_.Go.ChangeSpec) : _root_.Go.OpenSpec := { _root_.Go.OpenSpec.ofChange s with cond := some uptoSmall }

/-- 'carrefourlaw5.MethodAsks', WHERE WHAT IT READS IS OF BULK AT MOST 1048576: true; the input reads as it did. -/
def methodAsksUptoRow : OpenClaim := { program := "ytenpcadgelpbgaa", sum := "f7584aa3ce90e79b93e2b92ea1cd9a5a6f14201ed519ac106b97ba2375e639f4", func := "carrefour/carrefourlaw5.MethodAsks", spec := "methodAsks", inPlace := ["internal/bytealg.IndexByteString"], recurses := true, loops := true, plainKeys := false, apart := false, narrowed := true }
def MethodAsksUptoSaid : Prop := methodAsksUptoRow.holds Try.pinned (OpenSpec.upto methodAsksSpec)

/-- 'carrefourlaw5.MethodBack', WHERE WHAT IT READS IS OF BULK AT MOST 1048576: true; the input reads as it did. -/
def methodBackUptoRow : OpenClaim := { program := "ytenpcadgelpbgaa", sum := "f7584aa3ce90e79b93e2b92ea1cd9a5a6f14201ed519ac106b97ba2375e639f4", func := "carrefour/carrefourlaw5.MethodBack", spec := "methodBack", inPlace := ["internal/bytealg.IndexByteString"], recurses := true, loops := true, plainKeys := false, apart := false, narrowed := true }
def MethodBackUptoSaid : Prop := methodBackUptoRow.holds Try.pinned (OpenSpec.upto methodBackSpec)

/-- 'carrefourlaw5.MethodParts', WHERE WHAT IT READS IS OF BULK AT MOST 1048576: true; the input reads as it did. -/
def methodPartsUptoRow : OpenClaim := { program := "ytenpcadgelpbgaa", sum := "f7584aa3ce90e79b93e2b92ea1cd9a5a6f14201ed519ac106b97ba2375e639f4", func := "carrefour/carrefourlaw5.MethodParts", spec := "methodParts", inPlace := ["internal/bytealg.IndexByteString"], recurses := true, plainKeys := false, apart := false, narrowed := true }
def MethodPartsUptoSaid : Prop := methodPartsUptoRow.holds Try.pinned (OpenSpec.upto methodPartsSpec)

/-- 'carrefourlaw5.MethodBounds', WHERE WHAT IT READS IS OF BULK AT MOST 1048576: true; the input reads as it did. -/
def methodBoundsUptoRow : OpenClaim := { program := "ytenpcadgelpbgaa", sum := "f7584aa3ce90e79b93e2b92ea1cd9a5a6f14201ed519ac106b97ba2375e639f4", func := "carrefour/carrefourlaw5.MethodBounds", spec := "methodBounds", inPlace := ["internal/bytealg.IndexByteString"], recurses := true, plainKeys := false, apart := false, narrowed := true }
def MethodBoundsUptoSaid : Prop := methodBoundsUptoRow.holds Try.pinned (OpenSpec.upto methodBoundsSpec)

/-- 'carrefourlaw5.MethodFlags', WHERE WHAT IT READS IS OF BULK AT MOST 1048576: true; the input reads as it did. -/
def methodFlagsUptoRow : OpenClaim := { program := "ytenpcadgelpbgaa", sum := "f7584aa3ce90e79b93e2b92ea1cd9a5a6f14201ed519ac106b97ba2375e639f4", func := "carrefour/carrefourlaw5.MethodFlags", spec := "methodFlags", inPlace := ["internal/bytealg.IndexByteString"], recurses := true, plainKeys := false, apart := false, narrowed := true }
def MethodFlagsUptoSaid : Prop := methodFlagsUptoRow.holds Try.pinned (OpenSpec.upto methodFlagsSpec)

end Rows
end Go.Proofs.Ytenpcadgelpbgaa
