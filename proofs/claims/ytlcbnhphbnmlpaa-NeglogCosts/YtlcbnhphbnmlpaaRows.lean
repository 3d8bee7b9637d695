/-
  No cell of these rows narrows 'for every input' (looked for: loops, veiled, ifaces, maps, wideKeys, modest, calm, conditions, laid).
  DERIVED. THE GIVEN ROWS OF THIS SEAT. 4 by the template 'for every input the law returns true; each argument reads behind the call as it read before'; 0 by the template 'total and deterministic' (their statements: YtlcbnhphbnmlpaaTotals.lean).
  GIVEN WITH THE SEED: the statements are not yours to turn. If you find one false, say at which input.
  Laid BY PROGRAM, IN A SANDBOX (cutbox-rows.mjs): the forced cells as the released guide's own fill.sh prints them over the translation a2bbccfbb8ce7e4b… (all of the seat's roots in one cut). By AI agents, Wed Nov 11 2026. No macro, syntax, notation, axiom, sorry.
-/
import Derived.Test.YtlcbnhphbnmlpaaChecked
import GoSem.Claim
import GoSem.ClaimJoined
import GoSem.ClaimMapViews
import Derived.JoinedTies
import Derived.KernelRfl
namespace Go.Proofs.Ytlcbnhphbnmlpaa
/- THE CELL 'sum', in the pinned program and in every row, IS THE sha256 OF THE DUMP (.gsa) THAT YtlcbnhphbnmlpaaProg.lean LOADS. Nothing in Lean hashes anything: it is a label: what it is worth is what the hold of that sum in a sandbox is worth. -/
noncomputable def Try.pinned : Pinned := { name := "ytlcbnhphbnmlpaa", sum := "a2bbccfbb8ce7e4bc737b73f1b8741b2e7253089dc258537c7178c69ce80a0d1", checked := Try.checked }
namespace Rows
def none {H : Type} : Left H := { results := [], args := [] }

/-- 'windroselaw04.NeglogCosts': WHATEVER THE INPUT: true; the input reads as it did. -/
def neglogCostsSpec : ChangeSpec := { name := "neglogCosts", fn := fun _ => fun
  | [d] => { results := [.lit (.bool true)], args := [d] }
  | _ => none }
def neglogCostsRow : OpenClaim := { program := "ytlcbnhphbnmlpaa", sum := "a2bbccfbb8ce7e4bc737b73f1b8741b2e7253089dc258537c7178c69ce80a0d1", func := "windrose/windroselaw04.NeglogCosts", spec := "neglogCosts", recurses := true, apart := false }
def NeglogCostsSaid : Prop := neglogCostsRow.holds Try.pinned (OpenSpec.ofChange neglogCostsSpec)

/-- ITS FALSE NEIGHBOUR: 'it returns false'. Refute it at one input. -/
def neglogCostsWrong : ChangeSpec := { name := "neglogCosts", fn := fun _ => fun
  | [d] => { results := [.lit (.bool false)], args := [d] }
  | _ => none }
def NeglogCostsWrongFalsely : Prop := neglogCostsRow.holds Try.pinned (OpenSpec.ofChange neglogCostsWrong)

/-- 'windroselaw04.NeglogFalls': WHATEVER THE INPUT: true; the input reads as it did. -/
def neglogFallsSpec : ChangeSpec := { name := "neglogFalls", fn := fun _ => fun
  | [d1, d2] => { results := [.lit (.bool true)], args := [d1, d2] }
  | _ => none }
def neglogFallsRow : OpenClaim := { program := "ytlcbnhphbnmlpaa", sum := "a2bbccfbb8ce7e4bc737b73f1b8741b2e7253089dc258537c7178c69ce80a0d1", func := "windrose/windroselaw04.NeglogFalls", spec := "neglogFalls", apart := false }
def NeglogFallsSaid : Prop := neglogFallsRow.holds Try.pinned (OpenSpec.ofChange neglogFallsSpec)

/-- ITS FALSE NEIGHBOUR: 'it returns false'. Refute it at one input. -/
def neglogFallsWrong : ChangeSpec := { name := "neglogFalls", fn := fun _ => fun
  | [d1, d2] => { results := [.lit (.bool false)], args := [d1, d2] }
  | _ => none }
def NeglogFallsWrongFalsely : Prop := neglogFallsRow.holds Try.pinned (OpenSpec.ofChange neglogFallsWrong)

/-- 'windroselaw04.NeglogBetter': WHATEVER THE INPUT: true; the input reads as it did. -/
def neglogBetterSpec : ChangeSpec := { name := "neglogBetter", fn := fun _ => fun
  | [d1, d2, d3] => { results := [.lit (.bool true)], args := [d1, d2, d3] }
  | _ => none }
def neglogBetterRow : OpenClaim := { program := "ytlcbnhphbnmlpaa", sum := "a2bbccfbb8ce7e4bc737b73f1b8741b2e7253089dc258537c7178c69ce80a0d1", func := "windrose/windroselaw04.NeglogBetter", spec := "neglogBetter", apart := false }
def NeglogBetterSaid : Prop := neglogBetterRow.holds Try.pinned (OpenSpec.ofChange neglogBetterSpec)

/-- ITS FALSE NEIGHBOUR: 'it returns false'. Refute it at one input. -/
def neglogBetterWrong : ChangeSpec := { name := "neglogBetter", fn := fun _ => fun
  | [d1, d2, d3] => { results := [.lit (.bool false)], args := [d1, d2, d3] }
  | _ => none }
def NeglogBetterWrongFalsely : Prop := neglogBetterRow.holds Try.pinned (OpenSpec.ofChange neglogBetterWrong)

/-- 'windroselaw04.NeglogFloors': WHATEVER THE INPUT: true; the input reads as it did. -/
def neglogFloorsSpec : ChangeSpec := { name := "neglogFloors", fn := fun _ => fun
  | [d] => { results := [.lit (.bool true)], args := [d] }
  | _ => none }
def neglogFloorsRow : OpenClaim := { program := "ytlcbnhphbnmlpaa", sum := "a2bbccfbb8ce7e4bc737b73f1b8741b2e7253089dc258537c7178c69ce80a0d1", func := "windrose/windroselaw04.NeglogFloors", spec := "neglogFloors", recurses := true, apart := false }
def NeglogFloorsSaid : Prop := neglogFloorsRow.holds Try.pinned (OpenSpec.ofChange neglogFloorsSpec)

/-- ITS FALSE NEIGHBOUR: 'it returns false'. Refute it at one input. -/
def neglogFloorsWrong : ChangeSpec := { name := "neglogFloors", fn := fun _ => fun
  | [d] => { results := [.lit (.bool false)], args := [d] }
  | _ => none }
def NeglogFloorsWrongFalsely : Prop := neglogFloorsRow.holds Try.pinned (OpenSpec.ofChange neglogFloorsWrong)

/- THE SECOND FORM. 'bulk': how many values and letters a reading holds, each counted each time it is reached (what is shared counts as often as it is met; a slice's spare places count too). A statement '..UptoSaid' is the law's where the arguments, and the package variables that the reading takes, are together of bulk at most 1048576: NARROWER than '..Said'. Prove '..Said' where nothing that the law and all that it calls make is longer than what came in: it says more and counts as full. Else prove '..UptoSaid'. A law counts once. -/
mutual
def uptoBulk {H : Type} : DataW H → Nat
  | .lit (.string bytes) => bytes.length + 1
  | .lit _ => 1
  | .nil => 1
  | .ptr d => uptoBulk d + 1
  | .slice elems spare => uptoBulkAll elems + uptoBulkAll spare + 1
  | .agg parts => uptoBulkAll parts + 1
  | .iface _ d => uptoBulk d + 1
  | .map entries => uptoBulkEntries entries + 1
  | .held _ => 1
def uptoBulkAll {H : Type} : List (DataW H) → Nat
  | [] => 0
  | d :: r => uptoBulk d + uptoBulkAll r
def uptoBulkEntries {H : Type} : List (Lit × DataW H) → Nat
  | [] => 0
  | x :: r => uptoBulkEntry x + uptoBulkEntries r
def uptoBulkEntry {H : Type} : Lit × DataW H → Nat
  | (.string bytes, d) => bytes.length + uptoBulk d + 1
  | (_, d) => uptoBulk d + 1
 end
def uptoSmall : (H : Type) → List (DataW H) → Bool := fun _ ds => decide (uptoBulkAll ds ≤ 1048576)
def OpenSpec.upto (s : _root_.Go.ChangeSpec) : _root_.Go.OpenSpec := { _root_.Go.OpenSpec.ofChange s with cond := some uptoSmall }

/-- 'windroselaw04.NeglogCosts', WHERE WHAT IT READS IS OF BULK AT MOST 1048576: true; the input reads as it did. -/
def neglogCostsUptoRow : OpenClaim := { program := "ytlcbnhphbnmlpaa", sum := "a2bbccfbb8ce7e4bc737b73f1b8741b2e7253089dc258537c7178c69ce80a0d1", func := "windrose/windroselaw04.NeglogCosts", spec := "neglogCosts", recurses := true, apart := false, narrowed := true }
def NeglogCostsUptoSaid : Prop := neglogCostsUptoRow.holds Try.pinned (OpenSpec.upto neglogCostsSpec)

/-- 'windroselaw04.NeglogFalls', WHERE WHAT IT READS IS OF BULK AT MOST 1048576: true; the input reads as it did. -/
def neglogFallsUptoRow : OpenClaim := { program := "ytlcbnhphbnmlpaa", sum := "a2bbccfbb8ce7e4bc737b73f1b8741b2e7253089dc258537c7178c69ce80a0d1", func := "windrose/windroselaw04.NeglogFalls", spec := "neglogFalls", apart := false, narrowed := true }
def NeglogFallsUptoSaid : Prop := neglogFallsUptoRow.holds Try.pinned (OpenSpec.upto neglogFallsSpec)

/-- 'windroselaw04.NeglogBetter', WHERE WHAT IT READS IS OF BULK AT MOST 1048576: true; the input reads as it did. -/
def neglogBetterUptoRow : OpenClaim := { program := "ytlcbnhphbnmlpaa", sum := "a2bbccfbb8ce7e4bc737b73f1b8741b2e7253089dc258537c7178c69ce80a0d1", func := "windrose/windroselaw04.NeglogBetter", spec := "neglogBetter", apart := false, narrowed := true }
def NeglogBetterUptoSaid : Prop := neglogBetterUptoRow.holds Try.pinned (OpenSpec.upto neglogBetterSpec)

/-- 'windroselaw04.NeglogFloors', WHERE WHAT IT READS IS OF BULK AT MOST 1048576: true; the input reads as it did. -/
def neglogFloorsUptoRow : OpenClaim := { program := "ytlcbnhphbnmlpaa", sum := "a2bbccfbb8ce7e4bc737b73f1b8741b2e7253089dc258537c7178c69ce80a0d1", func := "windrose/windroselaw04.NeglogFloors", spec := "neglogFloors", recurses := true, apart := false, narrowed := true }
def NeglogFloorsUptoSaid : Prop := neglogFloorsUptoRow.holds Try.pinned (OpenSpec.upto neglogFloorsSpec)

end Rows
end Go.Proofs.Ytlcbnhphbnmlpaa
