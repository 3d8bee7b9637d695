/-
  No cell of these rows narrows 'for every input' (looked for: loops, veiled, ifaces, maps, wideKeys, modest, calm, conditions, laid).
  DERIVED. THE GIVEN ROWS OF THIS SEAT. 4 by the template 'for every input the law returns true; each argument reads behind the call as it read before'; 0 by the template 'total and deterministic' (their statements: YtppajhjfnlhmaaaTotals.lean).
  GIVEN WITH THE SEED: the statements are not yours to turn. If you find one false, say at which input.
  Laid BY PROGRAM, IN A SANDBOX (cutbox-rows.mjs): the forced cells as the released guide's own fill.sh prints them over the translation f9a5805b91e6bbe2… (all of the seat's roots in one cut). By AI agents, Wed Nov 11 2026. No macro, syntax, notation, axiom, sorry.
-/
import Derived.Test.YtppajhjfnlhmaaaChecked
import GoSem.Claim
import GoSem.ClaimJoined
import GoSem.ClaimMapViews
import Derived.JoinedTies
import Derived.KernelRfl
namespace Go.Proofs.Ytppajhjfnlhmaaa
/- THE CELL 'sum', in the pinned program and in every row, IS THE sha256 OF THE DUMP (.gsa) THAT YtppajhjfnlhmaaaProg.lean LOADS. Nothing in Lean hashes anything: it is a label: what it is worth is what the hold of that sum in a sandbox is worth. -/
noncomputable def Try.pinned : Pinned := { name := "ytppajhjfnlhmaaa", sum := "f9a5805b91e6bbe21e6b9d4148698704ee77e1358d453e106f73861dc72cbb8b", checked := Try.checked }
namespace Rows
def none {H : Type} : Left H := { results := [], args := [] }

/-- 'windroselaw12.SamplesPuts': WHATEVER THE INPUT: true; the input reads as it did. -/
def samplesPutsSpec : ChangeSpec := { name := "samplesPuts", fn := fun _ => fun
  | [d1, d2] => { results := [.lit (.bool true)], args := [d1, d2] }
  | _ => none }
def samplesPutsRow : OpenClaim := { program := "ytppajhjfnlhmaaa", sum := "f9a5805b91e6bbe21e6b9d4148698704ee77e1358d453e106f73861dc72cbb8b", func := "windrose/windroselaw12.SamplesPuts", spec := "samplesPuts", apart := false }
def SamplesPutsSaid : Prop := samplesPutsRow.holds Try.pinned (OpenSpec.ofChange samplesPutsSpec)

/-- ITS FALSE NEIGHBOUR: 'it returns false'. Refute it at one input. -/
def samplesPutsWrong : ChangeSpec := { name := "samplesPuts", fn := fun _ => fun
  | [d1, d2] => { results := [.lit (.bool false)], args := [d1, d2] }
  | _ => none }
def SamplesPutsWrongFalsely : Prop := samplesPutsRow.holds Try.pinned (OpenSpec.ofChange samplesPutsWrong)

/-- 'windroselaw12.SamplesReads': WHATEVER THE INPUT: true; the input reads as it did. -/
def samplesReadsSpec : ChangeSpec := { name := "samplesReads", fn := fun _ => fun
  | [d1, d2, d3] => { results := [.lit (.bool true)], args := [d1, d2, d3] }
  | _ => none }
def samplesReadsRow : OpenClaim := { program := "ytppajhjfnlhmaaa", sum := "f9a5805b91e6bbe21e6b9d4148698704ee77e1358d453e106f73861dc72cbb8b", func := "windrose/windroselaw12.SamplesReads", spec := "samplesReads", apart := false }
def SamplesReadsSaid : Prop := samplesReadsRow.holds Try.pinned (OpenSpec.ofChange samplesReadsSpec)

/-- ITS FALSE NEIGHBOUR: 'it returns false'. Refute it at one input. -/
def samplesReadsWrong : ChangeSpec := { name := "samplesReads", fn := fun _ => fun
  | [d1, d2, d3] => { results := [.lit (.bool false)], args := [d1, d2, d3] }
  | _ => none }
def SamplesReadsWrongFalsely : Prop := samplesReadsRow.holds Try.pinned (OpenSpec.ofChange samplesReadsWrong)

/-- 'windroselaw12.SamplesMerge': WHATEVER THE INPUT: true; the input reads as it did. -/
def samplesMergeSpec : ChangeSpec := { name := "samplesMerge", fn := fun _ => fun
  | [d1, d2] => { results := [.lit (.bool true)], args := [d1, d2] }
  | _ => none }
def samplesMergeRow : OpenClaim := { program := "ytppajhjfnlhmaaa", sum := "f9a5805b91e6bbe21e6b9d4148698704ee77e1358d453e106f73861dc72cbb8b", func := "windrose/windroselaw12.SamplesMerge", spec := "samplesMerge", apart := false }
def SamplesMergeSaid : Prop := samplesMergeRow.holds Try.pinned (OpenSpec.ofChange samplesMergeSpec)

/-- ITS FALSE NEIGHBOUR: 'it returns false'. Refute it at one input. -/
def samplesMergeWrong : ChangeSpec := { name := "samplesMerge", fn := fun _ => fun
  | [d1, d2] => { results := [.lit (.bool false)], args := [d1, d2] }
  | _ => none }
def SamplesMergeWrongFalsely : Prop := samplesMergeRow.holds Try.pinned (OpenSpec.ofChange samplesMergeWrong)

/-- 'windroselaw12.SamplesOrders': WHATEVER THE INPUT: true; the input reads as it did. -/
def samplesOrdersSpec : ChangeSpec := { name := "samplesOrders", fn := fun _ => fun
  | [d1, d2] => { results := [.lit (.bool true)], args := [d1, d2] }
  | _ => none }
def samplesOrdersRow : OpenClaim := { program := "ytppajhjfnlhmaaa", sum := "f9a5805b91e6bbe21e6b9d4148698704ee77e1358d453e106f73861dc72cbb8b", func := "windrose/windroselaw12.SamplesOrders", spec := "samplesOrders", apart := false }
def SamplesOrdersSaid : Prop := samplesOrdersRow.holds Try.pinned (OpenSpec.ofChange samplesOrdersSpec)

/-- ITS FALSE NEIGHBOUR: 'it returns false'. Refute it at one input. -/
def samplesOrdersWrong : ChangeSpec := { name := "samplesOrders", fn := fun _ => fun
  | [d1, d2] => { results := [.lit (.bool false)], args := [d1, d2] }
  | _ => none }
def SamplesOrdersWrongFalsely : Prop := samplesOrdersRow.holds Try.pinned (OpenSpec.ofChange samplesOrdersWrong)

/- THE SECOND FORM. 'bulk': how many values and letters a reading holds, each counted each time it is reached (what is shared counts as often as it is met; a slice's spare places count too). A statement '..UptoSaid' is the law's where the arguments, and the package variables that the reading takes, are together of bulk at most 1048576: NARROWER than '..Said'. Prove '..Said' where nothing that the law and all that it calls make is longer than what came in: it says more and counts as full. Else prove '..UptoSaid'. A law counts once. -/
mutual
def uptoBulk {H : Type} : DataW H → Nat
  | .lit (.string bytes) => bytes.length + 1
  | .lit _ => 1
  | .nil => 1
  | .ptr d => uptoBulk d + 1
  | .slice elems spare => uptoBulkAll elems + uptoBulkAll spare + 1
  | .agg parts => uptoBulkAll parts + 1
  | .iface _ d => uptoBulk d + 1
  | .map entries => uptoBulkEntries entries + 1
  | .held _ => 1
def uptoBulkAll {H : Type} : List (DataW H) → Nat
  | [] => 0
  | d :: r => uptoBulk d + uptoBulkAll r
def uptoBulkEntries {H : Type} : List (Lit × DataW H) → Nat
  | [] => 0
  | x :: r => uptoBulkEntry x + uptoBulkEntries r
def uptoBulkEntry {H : Type} : Lit × DataW H → Nat
  | (.string bytes, d) => bytes.length + uptoBulk d + 1
  | (_, d) => uptoBulk d + 1
 end
def uptoSmall : (H : Type) → List (DataW H) → Bool := fun _ ds => decide (uptoBulkAll ds ≤ 1048576)
def OpenSpec.upto (s : _root_.Go.ChangeSpec) : _root_.Go.OpenSpec := { _root_.Go.OpenSpec.ofChange s with cond := some uptoSmall }

/-- 'windroselaw12.SamplesPuts', WHERE WHAT IT READS IS OF BULK AT MOST 1048576: true; the input reads as it did. -/
def samplesPutsUptoRow : OpenClaim := { program := "ytppajhjfnlhmaaa", sum := "f9a5805b91e6bbe21e6b9d4148698704ee77e1358d453e106f73861dc72cbb8b", func := "windrose/windroselaw12.SamplesPuts", spec := "samplesPuts", apart := false, narrowed := true }
def SamplesPutsUptoSaid : Prop := samplesPutsUptoRow.holds Try.pinned (OpenSpec.upto samplesPutsSpec)

/-- 'windroselaw12.SamplesReads', WHERE WHAT IT READS IS OF BULK AT MOST 1048576: true; the input reads as it did. -/
def samplesReadsUptoRow : OpenClaim := { program := "ytppajhjfnlhmaaa", sum := "f9a5805b91e6bbe21e6b9d4148698704ee77e1358d453e106f73861dc72cbb8b", func := "windrose/windroselaw12.SamplesReads", spec := "samplesReads", apart := false, narrowed := true }
def SamplesReadsUptoSaid : Prop := samplesReadsUptoRow.holds Try.pinned (OpenSpec.upto samplesReadsSpec)

/-- 'windroselaw12.SamplesMerge', WHERE WHAT IT READS IS OF BULK AT MOST 1048576: true; the input reads as it did. -/
def samplesMergeUptoRow : OpenClaim := { program := "ytppajhjfnlhmaaa", sum := "f9a5805b91e6bbe21e6b9d4148698704ee77e1358d453e106f73861dc72cbb8b", func := "windrose/windroselaw12.SamplesMerge", spec := "samplesMerge", apart := false, narrowed := true }
def SamplesMergeUptoSaid : Prop := samplesMergeUptoRow.holds Try.pinned (OpenSpec.upto samplesMergeSpec)

/-- 'windroselaw12.SamplesOrders', WHERE WHAT IT READS IS OF BULK AT MOST 1048576: true; the input reads as it did. -/
def samplesOrdersUptoRow : OpenClaim := { program := "ytppajhjfnlhmaaa", sum := "f9a5805b91e6bbe21e6b9d4148698704ee77e1358d453e106f73861dc72cbb8b", func := "windrose/windroselaw12.SamplesOrders", spec := "samplesOrders", apart := false, narrowed := true }
def SamplesOrdersUptoSaid : Prop := samplesOrdersUptoRow.holds Try.pinned (OpenSpec.upto samplesOrdersSpec)

end Rows
end Go.Proofs.Ytppajhjfnlhmaaa
