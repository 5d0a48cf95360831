/-
  NARROWER THAN 'FOR EVERY INPUT', by the rows' own cells (each row's printed sentence says how): ContentCuts: loops · ContentBack: loops.
  DERIVED. THE GIVEN ROWS OF THIS SEAT. 3 by the template 'for every input the law returns true; each argument reads behind the call as it read before'; 0 by the template 'total and deterministic' (their statements: YtjnnpgmgjdhfjaaTotals.lean).
  GIVEN WITH THE SEED: the statements are not yours to turn. If you find one false, say at which input.
  Laid BY PROGRAM, IN A SANDBOX (cutbox-rows.mjs): the forced cells as the released guide's own fill.sh prints them over the translation 85ba3f5844890da1… (all of the seat's roots in one cut). By AI agents, Wed Nov 11 2026. No macro, syntax, notation, axiom, sorry.
-/
import Derived.Test.YtjnnpgmgjdhfjaaChecked
import GoSem.Claim
import GoSem.ClaimJoined
import GoSem.ClaimMapViews
import Derived.JoinedTies
import Derived.KernelRfl
namespace Go.Proofs.Ytjnnpgmgjdhfjaa
/- THE CELL 'sum', in the pinned program and in every row, IS THE sha256 OF THE DUMP (.gsa) THAT YtjnnpgmgjdhfjaaProg.lean LOADS. Nothing in Lean hashes anything: it is a label: what it is worth is what the hold of that sum in a sandbox is worth. -/
noncomputable def Try.pinned : Pinned := { name := "ytjnnpgmgjdhfjaa", sum := "85ba3f5844890da19b8b325c529b0f1a199eb693b262fa5a2a9f1f2f830bfcfd", checked := Try.checked }
namespace Rows
def none {H : Type} : Left H := { results := [], args := [] }

/-- 'carrefourlaw6.ContentCuts': WHATEVER THE INPUT: true; the input reads as it did. -/
def contentCutsSpec : ChangeSpec := { name := "contentCuts", fn := fun _ => fun
  | [d1, d2, d3, d4, d5] => { results := [.lit (.bool true)], args := [d1, d2, d3, d4, d5] }
  | _ => none }
def contentCutsRow : OpenClaim := { program := "ytjnnpgmgjdhfjaa", sum := "85ba3f5844890da19b8b325c529b0f1a199eb693b262fa5a2a9f1f2f830bfcfd", func := "carrefour/carrefourlaw6.ContentCuts", spec := "contentCuts", inPlace := ["internal/bytealg.IndexByteString"], unfollowed := true, recurses := true, loops := true, plainKeys := false, apart := false }
def ContentCutsSaid : Prop := contentCutsRow.holds Try.pinned (OpenSpec.ofChange contentCutsSpec)

/-- ITS FALSE NEIGHBOUR: 'it returns false'. Refute it at one input. -/
def contentCutsWrong : ChangeSpec := { name := "contentCuts", fn := fun _ => fun
  | [d1, d2, d3, d4, d5] => { results := [.lit (.bool false)], args := [d1, d2, d3, d4, d5] }
  | _ => none }
def ContentCutsWrongFalsely : Prop := contentCutsRow.holds Try.pinned (OpenSpec.ofChange contentCutsWrong)

/-- 'carrefourlaw6.ContentBack': WHATEVER THE INPUT: true; the input reads as it did. -/
def contentBackSpec : ChangeSpec := { name := "contentBack", fn := fun _ => fun
  | [d1, d2, d3, d4, d5] => { results := [.lit (.bool true)], args := [d1, d2, d3, d4, d5] }
  | _ => none }
def contentBackRow : OpenClaim := { program := "ytjnnpgmgjdhfjaa", sum := "85ba3f5844890da19b8b325c529b0f1a199eb693b262fa5a2a9f1f2f830bfcfd", func := "carrefour/carrefourlaw6.ContentBack", spec := "contentBack", inPlace := ["internal/bytealg.IndexByteString"], unfollowed := true, recurses := true, loops := true, plainKeys := false, apart := false }
def ContentBackSaid : Prop := contentBackRow.holds Try.pinned (OpenSpec.ofChange contentBackSpec)

/-- ITS FALSE NEIGHBOUR: 'it returns false'. Refute it at one input. -/
def contentBackWrong : ChangeSpec := { name := "contentBack", fn := fun _ => fun
  | [d1, d2, d3, d4, d5] => { results := [.lit (.bool false)], args := [d1, d2, d3, d4, d5] }
  | _ => none }
def ContentBackWrongFalsely : Prop := contentBackRow.holds Try.pinned (OpenSpec.ofChange contentBackWrong)

/-- 'carrefourlaw6.ContentSizes': WHATEVER THE INPUT: true; the input reads as it did. -/
def contentSizesSpec : ChangeSpec := { name := "contentSizes", fn := fun _ => fun
  | [d1, d2] => { results := [.lit (.bool true)], args := [d1, d2] }
  | _ => none }
def contentSizesRow : OpenClaim := { program := "ytjnnpgmgjdhfjaa", sum := "85ba3f5844890da19b8b325c529b0f1a199eb693b262fa5a2a9f1f2f830bfcfd", func := "carrefour/carrefourlaw6.ContentSizes", spec := "contentSizes", inPlace := ["internal/bytealg.IndexByteString"], unfollowed := true, recurses := true, plainKeys := false, apart := false }
def ContentSizesSaid : Prop := contentSizesRow.holds Try.pinned (OpenSpec.ofChange contentSizesSpec)

/-- ITS FALSE NEIGHBOUR: 'it returns false'. Refute it at one input. -/
def contentSizesWrong : ChangeSpec := { name := "contentSizes", fn := fun _ => fun
  | [d1, d2] => { results := [.lit (.bool false)], args := [d1, d2] }
  | _ => none }
def ContentSizesWrongFalsely : Prop := contentSizesRow.holds Try.pinned (OpenSpec.ofChange contentSizesWrong)

/- THE SECOND FORM. 'bulk': how many values and letters a reading holds, each counted each time it is reached (what is shared counts as often as it is met; a slice's spare places count too). A statement '..UptoSaid' is the law's where the arguments, and the package variables that the reading takes, are together of bulk at most 1048576: NARROWER than '..Said'. Prove '..Said' where nothing that the law and all that it calls make is longer than what came in: it says more and counts as full. Else prove '..UptoSaid'. A law counts once. -/
mutual
def uptoBulk {H : Type} : DataW H → Nat
  | .lit (.string bytes) => bytes.length + 1
  | .lit _ => 1
  | .nil => 1
  | .ptr d => uptoBulk d + 1
  | .slice elems spare => uptoBulkAll elems + uptoBulkAll spare + 1
  | .agg parts => uptoBulkAll parts + 1
  | .iface _ d => uptoBulk d + 1
  | .map entries => uptoBulkEntries entries + 1
  | .held _ => 1
def uptoBulkAll {H : Type} : List (DataW H) → Nat
  | [] => 0
  | d :: r => uptoBulk d + uptoBulkAll r
def uptoBulkEntries {H : Type} : List (Lit × DataW H) → Nat
  | [] => 0
  | x :: r => uptoBulkEntry x + uptoBulkEntries r
def uptoBulkEntry {H : Type} : Lit × DataW H → Nat
  | (.string bytes, d) => bytes.length + uptoBulk d + 1
  | (_, d) => uptoBulk d + 1
 end
def uptoSmall : (H : Type) → List (DataW H) → Bool := fun _ ds => decide (uptoBulkAll ds ≤ 1048576)
def OpenSpec.upto (s : _root_.Go.ChangeSpec) : _root_.Go.OpenSpec := { _root_.Go.OpenSpec.ofChange s with cond := some uptoSmall }

/-- 'carrefourlaw6.ContentCuts', WHERE WHAT IT READS IS OF BULK AT MOST 1048576: true; the input reads as it did. -/
def contentCutsUptoRow : OpenClaim := { program := "ytjnnpgmgjdhfjaa", sum := "85ba3f5844890da19b8b325c529b0f1a199eb693b262fa5a2a9f1f2f830bfcfd", func := "carrefour/carrefourlaw6.ContentCuts", spec := "contentCuts", inPlace := ["internal/bytealg.IndexByteString"], unfollowed := true, recurses := true, loops := true, plainKeys := false, apart := false, narrowed := true }
def ContentCutsUptoSaid : Prop := contentCutsUptoRow.holds Try.pinned (OpenSpec.upto contentCutsSpec)

/-- 'carrefourlaw6.ContentBack', WHERE WHAT IT READS IS OF BULK AT MOST 1048576: true; the input reads as it did. -/
def contentBackUptoRow : OpenClaim := { program := "ytjnnpgmgjdhfjaa", sum := "85ba3f5844890da19b8b325c529b0f1a199eb693b262fa5a2a9f1f2f830bfcfd", func := "carrefour/carrefourlaw6.ContentBack", spec := "contentBack", inPlace := ["internal/bytealg.IndexByteString"], unfollowed := true, recurses := true, loops := true, plainKeys := false, apart := false, narrowed := true }
def ContentBackUptoSaid : Prop := contentBackUptoRow.holds Try.pinned (OpenSpec.upto contentBackSpec)

/-- 'carrefourlaw6.ContentSizes', WHERE WHAT IT READS IS OF BULK AT MOST 1048576: true; the input reads as it did. -/
def contentSizesUptoRow : OpenClaim := { program := "ytjnnpgmgjdhfjaa", sum := "85ba3f5844890da19b8b325c529b0f1a199eb693b262fa5a2a9f1f2f830bfcfd", func := "carrefour/carrefourlaw6.ContentSizes", spec := "contentSizes", inPlace := ["internal/bytealg.IndexByteString"], unfollowed := true, recurses := true, plainKeys := false, apart := false, narrowed := true }
def ContentSizesUptoSaid : Prop := contentSizesUptoRow.holds Try.pinned (OpenSpec.upto contentSizesSpec)

end Rows
end Go.Proofs.Ytjnnpgmgjdhfjaa
