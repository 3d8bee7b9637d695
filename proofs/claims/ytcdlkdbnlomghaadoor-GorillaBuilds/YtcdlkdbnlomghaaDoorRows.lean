/-
  NARROWER THAN 'FOR EVERY INPUT', by the rows' own cells (each row's printed sentence says how): GorillaBuilds: laid · GorillaReads: laid · GorillaAppends: laid · GorillaDatas: laid · GorillaCursors: laid · GorillaEven: laid.
  DERIVED. THE GIVEN ROWS OF THIS SEAT. 6 by the template 'for every input the law returns true; each argument reads behind the call as it read before'; 0 by the template 'total and deterministic' (their statements: YtcdlkdbnlomghaaDoorTotals.lean).
  GIVEN WITH THE SEED: the statements are not yours to turn. If you find one false, say at which input.
  Laid BY PROGRAM, IN A SANDBOX (cutbox-rows.mjs): the forced cells as the released guide's own fill.sh prints them over the translation 2cbf2d4db5ef150b… (all of the seat's roots in one cut). By AI agents, Wed Nov 11 2026. No macro, syntax, notation, axiom, sorry.
-/
import Derived.Test.YtcdlkdbnlomghaaDoorChecked
import GoSem.Claim
import GoSem.ClaimJoined
import GoSem.ClaimMapViews
import Derived.JoinedTies
import Derived.KernelRfl
namespace Go.Proofs.YtcdlkdbnlomghaaDoor
/- THE CELL 'sum', in the pinned program and in every row, IS THE sha256 OF THE DUMP (.gsa) THAT YtcdlkdbnlomghaaDoorProg.lean LOADS. Nothing in Lean hashes anything: it is a label: what it is worth is what the hold of that sum in a sandbox is worth. -/
noncomputable def Tryd.pinned : Pinned := { name := "ytcdlkdbnlomghaadoor", sum := "2cbf2d4db5ef150b79c7d13b9fb218ac9d7128aa440bbcb3a67069b257e097ea", checked := Tryd.checked }
namespace Rows
def none {H : Type} : Left H := { results := [], args := [] }

/- WHAT THE LISTED PACKAGE-LEVEL VARIABLES READ AS WHEN THE CALL BEGINS. Each datum BY PROGRAM (the guide's laid-datum.mjs) off the statement by which the dump's own 'gosem.cut.vars' lays the variable. In a bare row this is a premise. The card (YtcdlkdbnlomghaaDoorCards.lean) ties it to the program's text. -/
def laid_windrose_bits_shapes {H : Type} : DataW H := .agg [.agg [.lit (.int .u64 0), .lit (.int .i64 1), .lit (.int .i64 0)], .agg [.lit (.int .u64 2), .lit (.int .i64 2), .lit (.int .i64 7)], .agg [.lit (.int .u64 6), .lit (.int .i64 3), .lit (.int .i64 12)], .agg [.lit (.int .u64 14), .lit (.int .i64 4), .lit (.int .i64 20)], .agg [.lit (.int .u64 15), .lit (.int .i64 4), .lit (.int .i64 64)]]

/-- 'windroselaw18.GorillaBuilds': WHATEVER THE INPUT: true; the input reads as it did. -/
def gorillaBuildsSpec : ChangeSpec := { name := "gorillaBuilds", fn := fun _ => fun
  | [d] => { results := [.lit (.bool true)], args := [d] }
  | _ => none }
def gorillaBuildsRow : OpenClaim := { program := "ytcdlkdbnlomghaadoor", sum := "2cbf2d4db5ef150b79c7d13b9fb218ac9d7128aa440bbcb3a67069b257e097ea", func := "windrose/windroselaw18.GorillaBuilds", spec := "gorillaBuilds", named := ["windrose/bits.shapes"], apart := false, laid := [("windrose/bits.shapes", laid_windrose_bits_shapes)] }
def GorillaBuildsSaid : Prop := gorillaBuildsRow.holds Tryd.pinned (OpenSpec.ofChange gorillaBuildsSpec)

/-- ITS FALSE NEIGHBOUR: 'it returns false'. Refute it at one input. -/
def gorillaBuildsWrong : ChangeSpec := { name := "gorillaBuilds", fn := fun _ => fun
  | [d] => { results := [.lit (.bool false)], args := [d] }
  | _ => none }
def GorillaBuildsWrongFalsely : Prop := gorillaBuildsRow.holds Tryd.pinned (OpenSpec.ofChange gorillaBuildsWrong)

/-- 'windroselaw18.GorillaReads': WHATEVER THE INPUT: true; the input reads as it did. -/
def gorillaReadsSpec : ChangeSpec := { name := "gorillaReads", fn := fun _ => fun
  | [d1, d2, d3] => { results := [.lit (.bool true)], args := [d1, d2, d3] }
  | _ => none }
def gorillaReadsRow : OpenClaim := { program := "ytcdlkdbnlomghaadoor", sum := "2cbf2d4db5ef150b79c7d13b9fb218ac9d7128aa440bbcb3a67069b257e097ea", func := "windrose/windroselaw18.GorillaReads", spec := "gorillaReads", named := ["windrose/bits.shapes"], apart := false, laid := [("windrose/bits.shapes", laid_windrose_bits_shapes)] }
def GorillaReadsSaid : Prop := gorillaReadsRow.holds Tryd.pinned (OpenSpec.ofChange gorillaReadsSpec)

/-- ITS FALSE NEIGHBOUR: 'it returns false'. Refute it at one input. -/
def gorillaReadsWrong : ChangeSpec := { name := "gorillaReads", fn := fun _ => fun
  | [d1, d2, d3] => { results := [.lit (.bool false)], args := [d1, d2, d3] }
  | _ => none }
def GorillaReadsWrongFalsely : Prop := gorillaReadsRow.holds Tryd.pinned (OpenSpec.ofChange gorillaReadsWrong)

/-- 'windroselaw18.GorillaAppends': WHATEVER THE INPUT: true; the input reads as it did. -/
def gorillaAppendsSpec : ChangeSpec := { name := "gorillaAppends", fn := fun _ => fun
  | [d1, d2] => { results := [.lit (.bool true)], args := [d1, d2] }
  | _ => none }
def gorillaAppendsRow : OpenClaim := { program := "ytcdlkdbnlomghaadoor", sum := "2cbf2d4db5ef150b79c7d13b9fb218ac9d7128aa440bbcb3a67069b257e097ea", func := "windrose/windroselaw18.GorillaAppends", spec := "gorillaAppends", named := ["windrose/bits.shapes"], apart := false, laid := [("windrose/bits.shapes", laid_windrose_bits_shapes)] }
def GorillaAppendsSaid : Prop := gorillaAppendsRow.holds Tryd.pinned (OpenSpec.ofChange gorillaAppendsSpec)

/-- ITS FALSE NEIGHBOUR: 'it returns false'. Refute it at one input. -/
def gorillaAppendsWrong : ChangeSpec := { name := "gorillaAppends", fn := fun _ => fun
  | [d1, d2] => { results := [.lit (.bool false)], args := [d1, d2] }
  | _ => none }
def GorillaAppendsWrongFalsely : Prop := gorillaAppendsRow.holds Tryd.pinned (OpenSpec.ofChange gorillaAppendsWrong)

/-- 'windroselaw18.GorillaDatas': WHATEVER THE INPUT: true; the input reads as it did. -/
def gorillaDatasSpec : ChangeSpec := { name := "gorillaDatas", fn := fun _ => fun
  | [d1, d2] => { results := [.lit (.bool true)], args := [d1, d2] }
  | _ => none }
def gorillaDatasRow : OpenClaim := { program := "ytcdlkdbnlomghaadoor", sum := "2cbf2d4db5ef150b79c7d13b9fb218ac9d7128aa440bbcb3a67069b257e097ea", func := "windrose/windroselaw18.GorillaDatas", spec := "gorillaDatas", named := ["windrose/bits.shapes"], apart := false, laid := [("windrose/bits.shapes", laid_windrose_bits_shapes)] }
def GorillaDatasSaid : Prop := gorillaDatasRow.holds Tryd.pinned (OpenSpec.ofChange gorillaDatasSpec)

/-- ITS FALSE NEIGHBOUR: 'it returns false'. Refute it at one input. -/
def gorillaDatasWrong : ChangeSpec := { name := "gorillaDatas", fn := fun _ => fun
  | [d1, d2] => { results := [.lit (.bool false)], args := [d1, d2] }
  | _ => none }
def GorillaDatasWrongFalsely : Prop := gorillaDatasRow.holds Tryd.pinned (OpenSpec.ofChange gorillaDatasWrong)

/-- 'windroselaw18.GorillaCursors': WHATEVER THE INPUT: true; the input reads as it did. -/
def gorillaCursorsSpec : ChangeSpec := { name := "gorillaCursors", fn := fun _ => fun
  | [d1, d2] => { results := [.lit (.bool true)], args := [d1, d2] }
  | _ => none }
def gorillaCursorsRow : OpenClaim := { program := "ytcdlkdbnlomghaadoor", sum := "2cbf2d4db5ef150b79c7d13b9fb218ac9d7128aa440bbcb3a67069b257e097ea", func := "windrose/windroselaw18.GorillaCursors", spec := "gorillaCursors", named := ["windrose/bits.shapes"], apart := false, laid := [("windrose/bits.shapes", laid_windrose_bits_shapes)] }
def GorillaCursorsSaid : Prop := gorillaCursorsRow.holds Tryd.pinned (OpenSpec.ofChange gorillaCursorsSpec)

/-- ITS FALSE NEIGHBOUR: 'it returns false'. Refute it at one input. -/
def gorillaCursorsWrong : ChangeSpec := { name := "gorillaCursors", fn := fun _ => fun
  | [d1, d2] => { results := [.lit (.bool false)], args := [d1, d2] }
  | _ => none }
def GorillaCursorsWrongFalsely : Prop := gorillaCursorsRow.holds Tryd.pinned (OpenSpec.ofChange gorillaCursorsWrong)

/-- 'windroselaw18.GorillaEven': WHATEVER THE INPUT: true; the input reads as it did. -/
def gorillaEvenSpec : ChangeSpec := { name := "gorillaEven", fn := fun _ => fun
  | [d1, d2] => { results := [.lit (.bool true)], args := [d1, d2] }
  | _ => none }
def gorillaEvenRow : OpenClaim := { program := "ytcdlkdbnlomghaadoor", sum := "2cbf2d4db5ef150b79c7d13b9fb218ac9d7128aa440bbcb3a67069b257e097ea", func := "windrose/windroselaw18.GorillaEven", spec := "gorillaEven", named := ["windrose/bits.shapes"], apart := false, laid := [("windrose/bits.shapes", laid_windrose_bits_shapes)] }
def GorillaEvenSaid : Prop := gorillaEvenRow.holds Tryd.pinned (OpenSpec.ofChange gorillaEvenSpec)

/-- ITS FALSE NEIGHBOUR: 'it returns false'. Refute it at one input. -/
def gorillaEvenWrong : ChangeSpec := { name := "gorillaEven", fn := fun _ => fun
  | [d1, d2] => { results := [.lit (.bool false)], args := [d1, d2] }
  | _ => none }
def GorillaEvenWrongFalsely : Prop := gorillaEvenRow.holds Tryd.pinned (OpenSpec.ofChange gorillaEvenWrong)

/- THE SECOND FORM. 'bulk': how many values and letters a reading holds, each counted each time it is reached (what is shared counts as often as it is met; a slice's spare places count too). A statement '..UptoSaid' is the law's where the arguments, and the package variables that the reading takes, are together of bulk at most 1048576: NARROWER than '..Said'. Prove '..Said' where nothing that the law and all that it calls make is longer than what came in: it says more and counts as full. Else prove '..UptoSaid'. A law counts once. -/
mutual
def uptoBulk {H : Type} : DataW H → Nat
  | .lit (.string bytes) => bytes.length + 1
  | .lit _ => 1
  | .nil => 1
  | .ptr d => uptoBulk d + 1
  | .slice elems spare => uptoBulkAll elems + uptoBulkAll spare + 1
  | .agg parts => uptoBulkAll parts + 1
  | .iface _ d => uptoBulk d + 1
  | .map entries => uptoBulkEntries entries + 1
  | .held _ => 1
def uptoBulkAll {H : Type} : List (DataW H) → Nat
  | [] => 0
  | d :: r => uptoBulk d + uptoBulkAll r
def uptoBulkEntries {H : Type} : List (Lit × DataW H) → Nat
  | [] => 0
  | x :: r => uptoBulkEntry x + uptoBulkEntries r
def uptoBulkEntry {H : Type} : Lit × DataW H → Nat
  | (.string bytes, d) => bytes.length + uptoBulk d + 1
  | (_, d) => uptoBulk d + 1
 end
def uptoSmall : (H : Type) → List (DataW H) → Bool := fun _ ds => decide (uptoBulkAll ds ≤ 1048576)
def OpenSpec.upto (s : _root_.Go.ChangeSpec) : _root_.Go.OpenSpec := { _root_.Go.OpenSpec.ofChange s with cond := some uptoSmall }

/-- 'windroselaw18.GorillaBuilds', WHERE WHAT IT READS IS OF BULK AT MOST 1048576: true; the input reads as it did. -/
def gorillaBuildsUptoRow : OpenClaim := { program := "ytcdlkdbnlomghaadoor", sum := "2cbf2d4db5ef150b79c7d13b9fb218ac9d7128aa440bbcb3a67069b257e097ea", func := "windrose/windroselaw18.GorillaBuilds", spec := "gorillaBuilds", named := ["windrose/bits.shapes"], apart := false, laid := [("windrose/bits.shapes", laid_windrose_bits_shapes)], narrowed := true }
def GorillaBuildsUptoSaid : Prop := gorillaBuildsUptoRow.holds Tryd.pinned (OpenSpec.upto gorillaBuildsSpec)

/-- 'windroselaw18.GorillaReads', WHERE WHAT IT READS IS OF BULK AT MOST 1048576: true; the input reads as it did. -/
def gorillaReadsUptoRow : OpenClaim := { program := "ytcdlkdbnlomghaadoor", sum := "2cbf2d4db5ef150b79c7d13b9fb218ac9d7128aa440bbcb3a67069b257e097ea", func := "windrose/windroselaw18.GorillaReads", spec := "gorillaReads", named := ["windrose/bits.shapes"], apart := false, laid := [("windrose/bits.shapes", laid_windrose_bits_shapes)], narrowed := true }
def GorillaReadsUptoSaid : Prop := gorillaReadsUptoRow.holds Tryd.pinned (OpenSpec.upto gorillaReadsSpec)

/-- 'windroselaw18.GorillaAppends', WHERE WHAT IT READS IS OF BULK AT MOST 1048576: true; the input reads as it did. -/
def gorillaAppendsUptoRow : OpenClaim := { program := "ytcdlkdbnlomghaadoor", sum := "2cbf2d4db5ef150b79c7d13b9fb218ac9d7128aa440bbcb3a67069b257e097ea", func := "windrose/windroselaw18.GorillaAppends", spec := "gorillaAppends", named := ["windrose/bits.shapes"], apart := false, laid := [("windrose/bits.shapes", laid_windrose_bits_shapes)], narrowed := true }
def GorillaAppendsUptoSaid : Prop := gorillaAppendsUptoRow.holds Tryd.pinned (OpenSpec.upto gorillaAppendsSpec)

/-- 'windroselaw18.GorillaDatas', WHERE WHAT IT READS IS OF BULK AT MOST 1048576: true; the input reads as it did. -/
def gorillaDatasUptoRow : OpenClaim := { program := "ytcdlkdbnlomghaadoor", sum := "2cbf2d4db5ef150b79c7d13b9fb218ac9d7128aa440bbcb3a67069b257e097ea", func := "windrose/windroselaw18.GorillaDatas", spec := "gorillaDatas", named := ["windrose/bits.shapes"], apart := false, laid := [("windrose/bits.shapes", laid_windrose_bits_shapes)], narrowed := true }
def GorillaDatasUptoSaid : Prop := gorillaDatasUptoRow.holds Tryd.pinned (OpenSpec.upto gorillaDatasSpec)

/-- 'windroselaw18.GorillaCursors', WHERE WHAT IT READS IS OF BULK AT MOST 1048576: true; the input reads as it did. -/
def gorillaCursorsUptoRow : OpenClaim := { program := "ytcdlkdbnlomghaadoor", sum := "2cbf2d4db5ef150b79c7d13b9fb218ac9d7128aa440bbcb3a67069b257e097ea", func := "windrose/windroselaw18.GorillaCursors", spec := "gorillaCursors", named := ["windrose/bits.shapes"], apart := false, laid := [("windrose/bits.shapes", laid_windrose_bits_shapes)], narrowed := true }
def GorillaCursorsUptoSaid : Prop := gorillaCursorsUptoRow.holds Tryd.pinned (OpenSpec.upto gorillaCursorsSpec)

/-- 'windroselaw18.GorillaEven', WHERE WHAT IT READS IS OF BULK AT MOST 1048576: true; the input reads as it did. -/
def gorillaEvenUptoRow : OpenClaim := { program := "ytcdlkdbnlomghaadoor", sum := "2cbf2d4db5ef150b79c7d13b9fb218ac9d7128aa440bbcb3a67069b257e097ea", func := "windrose/windroselaw18.GorillaEven", spec := "gorillaEven", named := ["windrose/bits.shapes"], apart := false, laid := [("windrose/bits.shapes", laid_windrose_bits_shapes)], narrowed := true }
def GorillaEvenUptoSaid : Prop := gorillaEvenUptoRow.holds Tryd.pinned (OpenSpec.upto gorillaEvenSpec)

end Rows
end Go.Proofs.YtcdlkdbnlomghaaDoor
