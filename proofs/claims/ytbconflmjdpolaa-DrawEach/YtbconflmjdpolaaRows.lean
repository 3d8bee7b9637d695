/-
  No cell of these rows narrows 'for every input' (looked for: loops, veiled, ifaces, maps, wideKeys, modest, calm, conditions, laid).
  DERIVED. THE GIVEN ROWS OF THIS SEAT. 4 by the template 'for every input the law returns true; each argument reads behind the call as it read before'; 0 by the template 'total and deterministic' (their statements: YtbconflmjdpolaaTotals.lean).
  GIVEN WITH THE SEED: the statements are not yours to turn. If you find one false, say at which input.
  Laid BY PROGRAM, IN A SANDBOX (cutbox-rows.mjs): the forced cells as the released guide's own fill.sh prints them over the translation 754d602ba4e8b600… (all of the seat's roots in one cut). By AI agents, Wed Nov 11 2026. No macro, syntax, notation, axiom, sorry.
-/
import Derived.Test.YtbconflmjdpolaaChecked
import GoSem.Claim
import GoSem.ClaimJoined
import GoSem.ClaimMapViews
import Derived.JoinedTies
import Derived.KernelRfl
namespace Go.Proofs.Ytbconflmjdpolaa
/- THE CELL 'sum', in the pinned program and in every row, IS THE sha256 OF THE DUMP (.gsa) THAT YtbconflmjdpolaaProg.lean LOADS. Nothing in Lean hashes anything: it is a label: what it is worth is what the hold of that sum in a sandbox is worth. -/
noncomputable def Try.pinned : Pinned := { name := "ytbconflmjdpolaa", sum := "754d602ba4e8b60058614287b23edb10a8bc56abc5ff5d5b79609c33000376f5", checked := Try.checked }
namespace Rows
def none {H : Type} : Left H := { results := [], args := [] }

/-- 'windroselaw05.DrawOrders': WHATEVER THE INPUT: true; the input reads as it did. -/
def drawOrdersSpec : ChangeSpec := { name := "drawOrders", fn := fun _ => fun
  | [d1, d2] => { results := [.lit (.bool true)], args := [d1, d2] }
  | _ => none }
def drawOrdersRow : OpenClaim := { program := "ytbconflmjdpolaa", sum := "754d602ba4e8b60058614287b23edb10a8bc56abc5ff5d5b79609c33000376f5", func := "windrose/windroselaw05.DrawOrders", spec := "drawOrders", unfollowed := true, recurses := true, apart := false }
def DrawOrdersSaid : Prop := drawOrdersRow.holds Try.pinned (OpenSpec.ofChange drawOrdersSpec)

/-- ITS FALSE NEIGHBOUR: 'it returns false'. Refute it at one input. -/
def drawOrdersWrong : ChangeSpec := { name := "drawOrders", fn := fun _ => fun
  | [d1, d2] => { results := [.lit (.bool false)], args := [d1, d2] }
  | _ => none }
def DrawOrdersWrongFalsely : Prop := drawOrdersRow.holds Try.pinned (OpenSpec.ofChange drawOrdersWrong)

/-- 'windroselaw05.DrawCosts': WHATEVER THE INPUT: true; the input reads as it did. -/
def drawCostsSpec : ChangeSpec := { name := "drawCosts", fn := fun _ => fun
  | [d1, d2, d3] => { results := [.lit (.bool true)], args := [d1, d2, d3] }
  | _ => none }
def drawCostsRow : OpenClaim := { program := "ytbconflmjdpolaa", sum := "754d602ba4e8b60058614287b23edb10a8bc56abc5ff5d5b79609c33000376f5", func := "windrose/windroselaw05.DrawCosts", spec := "drawCosts", unfollowed := true, recurses := true, apart := false }
def DrawCostsSaid : Prop := drawCostsRow.holds Try.pinned (OpenSpec.ofChange drawCostsSpec)

/-- ITS FALSE NEIGHBOUR: 'it returns false'. Refute it at one input. -/
def drawCostsWrong : ChangeSpec := { name := "drawCosts", fn := fun _ => fun
  | [d1, d2, d3] => { results := [.lit (.bool false)], args := [d1, d2, d3] }
  | _ => none }
def DrawCostsWrongFalsely : Prop := drawCostsRow.holds Try.pinned (OpenSpec.ofChange drawCostsWrong)

/-- 'windroselaw05.DrawMoves': WHATEVER THE INPUT: true; the input reads as it did. -/
def drawMovesSpec : ChangeSpec := { name := "drawMoves", fn := fun _ => fun
  | [d1, d2, d3] => { results := [.lit (.bool true)], args := [d1, d2, d3] }
  | _ => none }
def drawMovesRow : OpenClaim := { program := "ytbconflmjdpolaa", sum := "754d602ba4e8b60058614287b23edb10a8bc56abc5ff5d5b79609c33000376f5", func := "windrose/windroselaw05.DrawMoves", spec := "drawMoves", unfollowed := true, recurses := true, apart := false }
def DrawMovesSaid : Prop := drawMovesRow.holds Try.pinned (OpenSpec.ofChange drawMovesSpec)

/-- ITS FALSE NEIGHBOUR: 'it returns false'. Refute it at one input. -/
def drawMovesWrong : ChangeSpec := { name := "drawMoves", fn := fun _ => fun
  | [d1, d2, d3] => { results := [.lit (.bool false)], args := [d1, d2, d3] }
  | _ => none }
def DrawMovesWrongFalsely : Prop := drawMovesRow.holds Try.pinned (OpenSpec.ofChange drawMovesWrong)

/-- 'windroselaw05.DrawEach': WHATEVER THE INPUT: true; the input reads as it did. -/
def drawEachSpec : ChangeSpec := { name := "drawEach", fn := fun _ => fun
  | [d1, d2] => { results := [.lit (.bool true)], args := [d1, d2] }
  | _ => none }
def drawEachRow : OpenClaim := { program := "ytbconflmjdpolaa", sum := "754d602ba4e8b60058614287b23edb10a8bc56abc5ff5d5b79609c33000376f5", func := "windrose/windroselaw05.DrawEach", spec := "drawEach", unfollowed := true, recurses := true, apart := false }
def DrawEachSaid : Prop := drawEachRow.holds Try.pinned (OpenSpec.ofChange drawEachSpec)

/-- ITS FALSE NEIGHBOUR: 'it returns false'. Refute it at one input. -/
def drawEachWrong : ChangeSpec := { name := "drawEach", fn := fun _ => fun
  | [d1, d2] => { results := [.lit (.bool false)], args := [d1, d2] }
  | _ => none }
def DrawEachWrongFalsely : Prop := drawEachRow.holds Try.pinned (OpenSpec.ofChange drawEachWrong)

/- THE SECOND FORM. 'bulk': how many values and letters a reading holds, each counted each time it is reached (what is shared counts as often as it is met; a slice's spare places count too). A statement '..UptoSaid' is the law's where the arguments, and the package variables that the reading takes, are together of bulk at most 1048576: NARROWER than '..Said'. Prove '..Said' where nothing that the law and all that it calls make is longer than what came in: it says more and counts as full. Else prove '..UptoSaid'. A law counts once. -/
mutual
def uptoBulk {H : Type} : DataW H → Nat
  | .lit (.string bytes) => bytes.length + 1
  | .lit _ => 1
  | .nil => 1
  | .ptr d => uptoBulk d + 1
  | .slice elems spare => uptoBulkAll elems + uptoBulkAll spare + 1
  | .agg parts => uptoBulkAll parts + 1
  | .iface _ d => uptoBulk d + 1
  | .map entries => uptoBulkEntries entries + 1
  | .held _ => 1
def uptoBulkAll {H : Type} : List (DataW H) → Nat
  | [] => 0
  | d :: r => uptoBulk d + uptoBulkAll r
def uptoBulkEntries {H : Type} : List (Lit × DataW H) → Nat
  | [] => 0
  | x :: r => uptoBulkEntry x + uptoBulkEntries r
def uptoBulkEntry {H : Type} : Lit × DataW H → Nat
  | (.string bytes, d) => bytes.length + uptoBulk d + 1
  | (_, d) => uptoBulk d + 1
 end
def uptoSmall : (H : Type) → List (DataW H) → Bool := fun _ ds => decide (uptoBulkAll ds ≤ 1048576)
def OpenSpec.upto (s : _root_.Go.ChangeSpec) : _root_.Go.OpenSpec := { _root_.Go.OpenSpec.ofChange s with cond := some uptoSmall }

/-- 'windroselaw05.DrawOrders', WHERE WHAT IT READS IS OF BULK AT MOST 1048576: true; the input reads as it did. -/
def drawOrdersUptoRow : OpenClaim := { program := "ytbconflmjdpolaa", sum := "754d602ba4e8b60058614287b23edb10a8bc56abc5ff5d5b79609c33000376f5", func := "windrose/windroselaw05.DrawOrders", spec := "drawOrders", unfollowed := true, recurses := true, apart := false, narrowed := true }
def DrawOrdersUptoSaid : Prop := drawOrdersUptoRow.holds Try.pinned (OpenSpec.upto drawOrdersSpec)

/-- 'windroselaw05.DrawCosts', WHERE WHAT IT READS IS OF BULK AT MOST 1048576: true; the input reads as it did. -/
def drawCostsUptoRow : OpenClaim := { program := "ytbconflmjdpolaa", sum := "754d602ba4e8b60058614287b23edb10a8bc56abc5ff5d5b79609c33000376f5", func := "windrose/windroselaw05.DrawCosts", spec := "drawCosts", unfollowed := true, recurses := true, apart := false, narrowed := true }
def DrawCostsUptoSaid : Prop := drawCostsUptoRow.holds Try.pinned (OpenSpec.upto drawCostsSpec)

/-- 'windroselaw05.DrawMoves', WHERE WHAT IT READS IS OF BULK AT MOST 1048576: true; the input reads as it did. -/
def drawMovesUptoRow : OpenClaim := { program := "ytbconflmjdpolaa", sum := "754d602ba4e8b60058614287b23edb10a8bc56abc5ff5d5b79609c33000376f5", func := "windrose/windroselaw05.DrawMoves", spec := "drawMoves", unfollowed := true, recurses := true, apart := false, narrowed := true }
def DrawMovesUptoSaid : Prop := drawMovesUptoRow.holds Try.pinned (OpenSpec.upto drawMovesSpec)

/-- 'windroselaw05.DrawEach', WHERE WHAT IT READS IS OF BULK AT MOST 1048576: true; the input reads as it did. -/
def drawEachUptoRow : OpenClaim := { program := "ytbconflmjdpolaa", sum := "754d602ba4e8b60058614287b23edb10a8bc56abc5ff5d5b79609c33000376f5", func := "windrose/windroselaw05.DrawEach", spec := "drawEach", unfollowed := true, recurses := true, apart := false, narrowed := true }
def DrawEachUptoSaid : Prop := drawEachUptoRow.holds Try.pinned (OpenSpec.upto drawEachSpec)

end Rows
end Go.Proofs.Ytbconflmjdpolaa
