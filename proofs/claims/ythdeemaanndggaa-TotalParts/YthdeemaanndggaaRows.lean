/-
  No cell of these rows narrows 'for every input' (looked for: loops, veiled, ifaces, maps, wideKeys, modest, calm, conditions, laid).
  DERIVED. THE GIVEN ROWS OF THIS SEAT. 3 by the template 'for every input the law returns true; each argument reads behind the call as it read before'; 0 by the template 'total and deterministic' (their statements: YthdeemaanndggaaTotals.lean).
  GIVEN WITH THE SEED: the statements are not yours to turn. If you find one false, say at which input.
  Laid BY PROGRAM, IN A SANDBOX (cutbox-rows.mjs): the forced cells as the released guide's own fill.sh prints them over the translation 0e21642faf8acca7… (all of the seat's roots in one cut). By AI agents, Wed Nov 11 2026. No macro, syntax, notation, axiom, sorry.
-/
import Derived.Test.YthdeemaanndggaaChecked
import GoSem.Claim
import GoSem.ClaimJoined
import GoSem.ClaimMapViews
import Derived.JoinedTies
import Derived.KernelRfl
namespace Go.Proofs.Ythdeemaanndggaa
/- THE CELL 'sum', in the pinned program and in every row, IS THE sha256 OF THE DUMP (.gsa) THAT YthdeemaanndggaaProg.lean LOADS. Nothing in Lean hashes anything: it is a label: what it is worth is what the hold of that sum in a sandbox is worth. -/
noncomputable def Try.pinned : Pinned := { name := "ythdeemaanndggaa", sum := "0e21642faf8acca780dbc9c24348887646aa6975145892e912706266e3b728fd", checked := Try.checked }
namespace Rows
def none {H : Type} : Left H := { results := [], args := [] }

/-- 'windroselaw13.TotalOf': WHATEVER THE INPUT: true; the input reads as it did. -/
def totalOfSpec : ChangeSpec := { name := "totalOf", fn := fun _ => fun
  | [d1, d2] => { results := [.lit (.bool true)], args := [d1, d2] }
  | _ => none }
def totalOfRow : OpenClaim := { program := "ythdeemaanndggaa", sum := "0e21642faf8acca780dbc9c24348887646aa6975145892e912706266e3b728fd", func := "windrose/windroselaw13.TotalOf", spec := "totalOf", unfollowed := true, recurses := true, apart := false }
def TotalOfSaid : Prop := totalOfRow.holds Try.pinned (OpenSpec.ofChange totalOfSpec)

/-- ITS FALSE NEIGHBOUR: 'it returns false'. Refute it at one input. -/
def totalOfWrong : ChangeSpec := { name := "totalOf", fn := fun _ => fun
  | [d1, d2] => { results := [.lit (.bool false)], args := [d1, d2] }
  | _ => none }
def TotalOfWrongFalsely : Prop := totalOfRow.holds Try.pinned (OpenSpec.ofChange totalOfWrong)

/-- 'windroselaw13.TotalFolds': WHATEVER THE INPUT: true; the input reads as it did. -/
def totalFoldsSpec : ChangeSpec := { name := "totalFolds", fn := fun _ => fun
  | [d1, d2, d3] => { results := [.lit (.bool true)], args := [d1, d2, d3] }
  | _ => none }
def totalFoldsRow : OpenClaim := { program := "ythdeemaanndggaa", sum := "0e21642faf8acca780dbc9c24348887646aa6975145892e912706266e3b728fd", func := "windrose/windroselaw13.TotalFolds", spec := "totalFolds", unfollowed := true, recurses := true, apart := false }
def TotalFoldsSaid : Prop := totalFoldsRow.holds Try.pinned (OpenSpec.ofChange totalFoldsSpec)

/-- ITS FALSE NEIGHBOUR: 'it returns false'. Refute it at one input. -/
def totalFoldsWrong : ChangeSpec := { name := "totalFolds", fn := fun _ => fun
  | [d1, d2, d3] => { results := [.lit (.bool false)], args := [d1, d2, d3] }
  | _ => none }
def TotalFoldsWrongFalsely : Prop := totalFoldsRow.holds Try.pinned (OpenSpec.ofChange totalFoldsWrong)

/-- 'windroselaw13.TotalParts': WHATEVER THE INPUT: true; the input reads as it did. -/
def totalPartsSpec : ChangeSpec := { name := "totalParts", fn := fun _ => fun
  | [d1, d2, d3] => { results := [.lit (.bool true)], args := [d1, d2, d3] }
  | _ => none }
def totalPartsRow : OpenClaim := { program := "ythdeemaanndggaa", sum := "0e21642faf8acca780dbc9c24348887646aa6975145892e912706266e3b728fd", func := "windrose/windroselaw13.TotalParts", spec := "totalParts", unfollowed := true, recurses := true, apart := false }
def TotalPartsSaid : Prop := totalPartsRow.holds Try.pinned (OpenSpec.ofChange totalPartsSpec)

/-- ITS FALSE NEIGHBOUR: 'it returns false'. Refute it at one input. -/
def totalPartsWrong : ChangeSpec := { name := "totalParts", fn := fun _ => fun
  | [d1, d2, d3] => { results := [.lit (.bool false)], args := [d1, d2, d3] }
  | _ => none }
def TotalPartsWrongFalsely : Prop := totalPartsRow.holds Try.pinned (OpenSpec.ofChange totalPartsWrong)

/- THE SECOND FORM. 'bulk': how many values and letters a reading holds, each counted each time it is reached (what is shared counts as often as it is met; a slice's spare places count too). A statement '..UptoSaid' is the law's where the arguments, and the package variables that the reading takes, are together of bulk at most 1048576: NARROWER than '..Said'. Prove '..Said' where nothing that the law and all that it calls make is longer than what came in: it says more and counts as full. Else prove '..UptoSaid'. A law counts once. -/
mutual
def uptoBulk {H : Type} : DataW H → Nat
  | .lit (.string bytes) => bytes.length + 1
  | .lit _ => 1
  | .nil => 1
  | .ptr d => uptoBulk d + 1
  | .slice elems spare => uptoBulkAll elems + uptoBulkAll spare + 1
  | .agg parts => uptoBulkAll parts + 1
  | .iface _ d => uptoBulk d + 1
  | .map entries => uptoBulkEntries entries + 1
  | .held _ => 1
def uptoBulkAll {H : Type} : List (DataW H) → Nat
  | [] => 0
  | d :: r => uptoBulk d + uptoBulkAll r
def uptoBulkEntries {H : Type} : List (Lit × DataW H) → Nat
  | [] => 0
  | x :: r => uptoBulkEntry x + uptoBulkEntries r
def uptoBulkEntry {H : Type} : Lit × DataW H → Nat
  | (.string bytes, d) => bytes.length + uptoBulk d + 1
  | (_, d) => uptoBulk d + 1
 end
def uptoSmall : (H : Type) → List (DataW H) → Bool := fun _ ds => decide (uptoBulkAll ds ≤ 1048576)
def OpenSpec.upto (s : _root_.Go.ChangeSpec) : _root_.Go.OpenSpec := { _root_.Go.OpenSpec.ofChange s with cond := some uptoSmall }

/-- 'windroselaw13.TotalOf', WHERE WHAT IT READS IS OF BULK AT MOST 1048576: true; the input reads as it did. -/
def totalOfUptoRow : OpenClaim := { program := "ythdeemaanndggaa", sum := "0e21642faf8acca780dbc9c24348887646aa6975145892e912706266e3b728fd", func := "windrose/windroselaw13.TotalOf", spec := "totalOf", unfollowed := true, recurses := true, apart := false, narrowed := true }
def TotalOfUptoSaid : Prop := totalOfUptoRow.holds Try.pinned (OpenSpec.upto totalOfSpec)

/-- 'windroselaw13.TotalFolds', WHERE WHAT IT READS IS OF BULK AT MOST 1048576: true; the input reads as it did. -/
def totalFoldsUptoRow : OpenClaim := { program := "ythdeemaanndggaa", sum := "0e21642faf8acca780dbc9c24348887646aa6975145892e912706266e3b728fd", func := "windrose/windroselaw13.TotalFolds", spec := "totalFolds", unfollowed := true, recurses := true, apart := false, narrowed := true }
def TotalFoldsUptoSaid : Prop := totalFoldsUptoRow.holds Try.pinned (OpenSpec.upto totalFoldsSpec)

/-- 'windroselaw13.TotalParts', WHERE WHAT IT READS IS OF BULK AT MOST 1048576: true; the input reads as it did. -/
def totalPartsUptoRow : OpenClaim := { program := "ythdeemaanndggaa", sum := "0e21642faf8acca780dbc9c24348887646aa6975145892e912706266e3b728fd", func := "windrose/windroselaw13.TotalParts", spec := "totalParts", unfollowed := true, recurses := true, apart := false, narrowed := true }
def TotalPartsUptoSaid : Prop := totalPartsUptoRow.holds Try.pinned (OpenSpec.upto totalPartsSpec)

end Rows
end Go.Proofs.Ythdeemaanndggaa
