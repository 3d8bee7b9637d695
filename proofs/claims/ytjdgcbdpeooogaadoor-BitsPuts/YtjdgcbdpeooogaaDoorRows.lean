/-
  NARROWER THAN 'FOR EVERY INPUT', by the rows' own cells (each row's printed sentence says how): BitsPuts: laid · BitsReads: laid · BitsRows: laid · BitsFull: laid · BitsNobody: laid.
  DERIVED. THE GIVEN ROWS OF THIS SEAT. 5 by the template 'for every input the law returns true; each argument reads behind the call as it read before'; 0 by the template 'total and deterministic' (their statements: YtjdgcbdpeooogaaDoorTotals.lean).
  GIVEN WITH THE SEED: the statements are not yours to turn. If you find one false, say at which input.
  Laid BY PROGRAM, IN A SANDBOX (cutbox-rows.mjs): the forced cells as the released guide's own fill.sh prints them over the translation 05c8240b071e584e… (all of the seat's roots in one cut). By AI agents, Wed Nov 11 2026. No macro, syntax, notation, axiom, sorry.
-/
import Derived.Test.YtjdgcbdpeooogaaDoorChecked
import GoSem.Claim
import GoSem.ClaimJoined
import GoSem.ClaimMapViews
import Derived.JoinedTies
import Derived.KernelRfl
namespace Go.Proofs.YtjdgcbdpeooogaaDoor
/- THE CELL 'sum', in the pinned program and in every row, IS THE sha256 OF THE DUMP (.gsa) THAT YtjdgcbdpeooogaaDoorProg.lean LOADS. Nothing in Lean hashes anything: it is a label: what it is worth is what the hold of that sum in a sandbox is worth. -/
noncomputable def Tryd.pinned : Pinned := { name := "ytjdgcbdpeooogaadoor", sum := "05c8240b071e584e2feeb43ebdec37715a7793f4e9579629e340c303ceda487d", checked := Tryd.checked }
namespace Rows
def none {H : Type} : Left H := { results := [], args := [] }

/- WHAT THE LISTED PACKAGE-LEVEL VARIABLES READ AS WHEN THE CALL BEGINS. Each datum BY PROGRAM (the guide's laid-datum.mjs) off the statement by which the dump's own 'gosem.cut.vars' lays the variable. In a bare row this is a premise. The card (YtjdgcbdpeooogaaDoorCards.lean) ties it to the program's text. -/
def laid_windrose_bits_shapes {H : Type} : DataW H := .agg [.agg [.lit (.int .u64 0), .lit (.int .i64 1), .lit (.int .i64 0)], .agg [.lit (.int .u64 2), .lit (.int .i64 2), .lit (.int .i64 7)], .agg [.lit (.int .u64 6), .lit (.int .i64 3), .lit (.int .i64 12)], .agg [.lit (.int .u64 14), .lit (.int .i64 4), .lit (.int .i64 20)], .agg [.lit (.int .u64 15), .lit (.int .i64 4), .lit (.int .i64 64)]]

/-- 'windroselaw17.BitsPuts': WHATEVER THE INPUT: true; the input reads as it did. -/
def bitsPutsSpec : ChangeSpec := { name := "bitsPuts", fn := fun _ => fun
  | [d1, d2, d3] => { results := [.lit (.bool true)], args := [d1, d2, d3] }
  | _ => none }
def bitsPutsRow : OpenClaim := { program := "ytjdgcbdpeooogaadoor", sum := "05c8240b071e584e2feeb43ebdec37715a7793f4e9579629e340c303ceda487d", func := "windrose/windroselaw17.BitsPuts", spec := "bitsPuts", named := ["windrose/bits.shapes"], apart := false, laid := [("windrose/bits.shapes", laid_windrose_bits_shapes)] }
def BitsPutsSaid : Prop := bitsPutsRow.holds Tryd.pinned (OpenSpec.ofChange bitsPutsSpec)

/-- ITS FALSE NEIGHBOUR: 'it returns false'. Refute it at one input. -/
def bitsPutsWrong : ChangeSpec := { name := "bitsPuts", fn := fun _ => fun
  | [d1, d2, d3] => { results := [.lit (.bool false)], args := [d1, d2, d3] }
  | _ => none }
def BitsPutsWrongFalsely : Prop := bitsPutsRow.holds Tryd.pinned (OpenSpec.ofChange bitsPutsWrong)

/-- 'windroselaw17.BitsReads': WHATEVER THE INPUT: true; the input reads as it did. -/
def bitsReadsSpec : ChangeSpec := { name := "bitsReads", fn := fun _ => fun
  | [d1, d2] => { results := [.lit (.bool true)], args := [d1, d2] }
  | _ => none }
def bitsReadsRow : OpenClaim := { program := "ytjdgcbdpeooogaadoor", sum := "05c8240b071e584e2feeb43ebdec37715a7793f4e9579629e340c303ceda487d", func := "windrose/windroselaw17.BitsReads", spec := "bitsReads", named := ["windrose/bits.shapes"], apart := false, laid := [("windrose/bits.shapes", laid_windrose_bits_shapes)] }
def BitsReadsSaid : Prop := bitsReadsRow.holds Tryd.pinned (OpenSpec.ofChange bitsReadsSpec)

/-- ITS FALSE NEIGHBOUR: 'it returns false'. Refute it at one input. -/
def bitsReadsWrong : ChangeSpec := { name := "bitsReads", fn := fun _ => fun
  | [d1, d2] => { results := [.lit (.bool false)], args := [d1, d2] }
  | _ => none }
def BitsReadsWrongFalsely : Prop := bitsReadsRow.holds Tryd.pinned (OpenSpec.ofChange bitsReadsWrong)

/-- 'windroselaw17.BitsRows': WHATEVER THE INPUT: true; the input reads as it did. -/
def bitsRowsSpec : ChangeSpec := { name := "bitsRows", fn := fun _ => fun
  | [d] => { results := [.lit (.bool true)], args := [d] }
  | _ => none }
def bitsRowsRow : OpenClaim := { program := "ytjdgcbdpeooogaadoor", sum := "05c8240b071e584e2feeb43ebdec37715a7793f4e9579629e340c303ceda487d", func := "windrose/windroselaw17.BitsRows", spec := "bitsRows", named := ["windrose/bits.shapes"], apart := false, laid := [("windrose/bits.shapes", laid_windrose_bits_shapes)] }
def BitsRowsSaid : Prop := bitsRowsRow.holds Tryd.pinned (OpenSpec.ofChange bitsRowsSpec)

/-- ITS FALSE NEIGHBOUR: 'it returns false'. Refute it at one input. -/
def bitsRowsWrong : ChangeSpec := { name := "bitsRows", fn := fun _ => fun
  | [d] => { results := [.lit (.bool false)], args := [d] }
  | _ => none }
def BitsRowsWrongFalsely : Prop := bitsRowsRow.holds Tryd.pinned (OpenSpec.ofChange bitsRowsWrong)

/-- 'windroselaw17.BitsFull': WHATEVER THE INPUT: true; the input reads as it did. -/
def bitsFullSpec : ChangeSpec := { name := "bitsFull", fn := fun _ => fun
  | [d1, d2] => { results := [.lit (.bool true)], args := [d1, d2] }
  | _ => none }
def bitsFullRow : OpenClaim := { program := "ytjdgcbdpeooogaadoor", sum := "05c8240b071e584e2feeb43ebdec37715a7793f4e9579629e340c303ceda487d", func := "windrose/windroselaw17.BitsFull", spec := "bitsFull", named := ["windrose/bits.shapes"], apart := false, laid := [("windrose/bits.shapes", laid_windrose_bits_shapes)] }
def BitsFullSaid : Prop := bitsFullRow.holds Tryd.pinned (OpenSpec.ofChange bitsFullSpec)

/-- ITS FALSE NEIGHBOUR: 'it returns false'. Refute it at one input. -/
def bitsFullWrong : ChangeSpec := { name := "bitsFull", fn := fun _ => fun
  | [d1, d2] => { results := [.lit (.bool false)], args := [d1, d2] }
  | _ => none }
def BitsFullWrongFalsely : Prop := bitsFullRow.holds Tryd.pinned (OpenSpec.ofChange bitsFullWrong)

/-- 'windroselaw17.BitsNobody': WHATEVER THE INPUT: true; the input reads as it did. -/
def bitsNobodySpec : ChangeSpec := { name := "bitsNobody", fn := fun _ => fun
  | [d] => { results := [.lit (.bool true)], args := [d] }
  | _ => none }
def bitsNobodyRow : OpenClaim := { program := "ytjdgcbdpeooogaadoor", sum := "05c8240b071e584e2feeb43ebdec37715a7793f4e9579629e340c303ceda487d", func := "windrose/windroselaw17.BitsNobody", spec := "bitsNobody", named := ["windrose/bits.shapes"], apart := false, laid := [("windrose/bits.shapes", laid_windrose_bits_shapes)] }
def BitsNobodySaid : Prop := bitsNobodyRow.holds Tryd.pinned (OpenSpec.ofChange bitsNobodySpec)

/-- ITS FALSE NEIGHBOUR: 'it returns false'. Refute it at one input. -/
def bitsNobodyWrong : ChangeSpec := { name := "bitsNobody", fn := fun _ => fun
  | [d] => { results := [.lit (.bool false)], args := [d] }
  | _ => none }
def BitsNobodyWrongFalsely : Prop := bitsNobodyRow.holds Tryd.pinned (OpenSpec.ofChange bitsNobodyWrong)

/- THE SECOND FORM. 'bulk': how many values and letters a reading holds, each counted each time it is reached (what is shared counts as often as it is met; a slice's spare places count too). A statement '..UptoSaid' is the law's where the arguments, and the package variables that the reading takes, are together of bulk at most 1048576: NARROWER than '..Said'. Prove '..Said' where nothing that the law and all that it calls make is longer than what came in: it says more and counts as full. Else prove '..UptoSaid'. A law counts once. -/
mutual
def uptoBulk {H : Type} : DataW H → Nat
  | .lit (.string bytes) => bytes.length + 1
  | .lit _ => 1
  | .nil => 1
  | .ptr d => uptoBulk d + 1
  | .slice elems spare => uptoBulkAll elems + uptoBulkAll spare + 1
  | .agg parts => uptoBulkAll parts + 1
  | .iface _ d => uptoBulk d + 1
  | .map entries => uptoBulkEntries entries + 1
  | .held _ => 1
def uptoBulkAll {H : Type} : List (DataW H) → Nat
  | [] => 0
  | d :: r => uptoBulk d + uptoBulkAll r
def uptoBulkEntries {H : Type} : List (Lit × DataW H) → Nat
  | [] => 0
  | x :: r => uptoBulkEntry x + uptoBulkEntries r
def uptoBulkEntry {H : Type} : Lit × DataW H → Nat
  | (.string bytes, d) => bytes.length + uptoBulk d + 1
  | (_, d) => uptoBulk d + 1
 end
def uptoSmall : (H : Type) → List (DataW H) → Bool := fun _ ds => decide (uptoBulkAll ds ≤ 1048576)
def OpenSpec.upto (s : _root_.Go.ChangeSpec) : _root_.Go.OpenSpec := { _root_.Go.OpenSpec.ofChange s with cond := some uptoSmall }

/-- 'windroselaw17.BitsPuts', WHERE WHAT IT READS IS OF BULK AT MOST 1048576: true; the input reads as it did. -/
def bitsPutsUptoRow : OpenClaim := { program := "ytjdgcbdpeooogaadoor", sum := "05c8240b071e584e2feeb43ebdec37715a7793f4e9579629e340c303ceda487d", func := "windrose/windroselaw17.BitsPuts", spec := "bitsPuts", named := ["windrose/bits.shapes"], apart := false, laid := [("windrose/bits.shapes", laid_windrose_bits_shapes)], narrowed := true }
def BitsPutsUptoSaid : Prop := bitsPutsUptoRow.holds Tryd.pinned (OpenSpec.upto bitsPutsSpec)

/-- 'windroselaw17.BitsReads', WHERE WHAT IT READS IS OF BULK AT MOST 1048576: true; the input reads as it did. -/
def bitsReadsUptoRow : OpenClaim := { program := "ytjdgcbdpeooogaadoor", sum := "05c8240b071e584e2feeb43ebdec37715a7793f4e9579629e340c303ceda487d", func := "windrose/windroselaw17.BitsReads", spec := "bitsReads", named := ["windrose/bits.shapes"], apart := false, laid := [("windrose/bits.shapes", laid_windrose_bits_shapes)], narrowed := true }
def BitsReadsUptoSaid : Prop := bitsReadsUptoRow.holds Tryd.pinned (OpenSpec.upto bitsReadsSpec)

/-- 'windroselaw17.BitsRows', WHERE WHAT IT READS IS OF BULK AT MOST 1048576: true; the input reads as it did. -/
def bitsRowsUptoRow : OpenClaim := { program := "ytjdgcbdpeooogaadoor", sum := "05c8240b071e584e2feeb43ebdec37715a7793f4e9579629e340c303ceda487d", func := "windrose/windroselaw17.BitsRows", spec := "bitsRows", named := ["windrose/bits.shapes"], apart := false, laid := [("windrose/bits.shapes", laid_windrose_bits_shapes)], narrowed := true }
def BitsRowsUptoSaid : Prop := bitsRowsUptoRow.holds Tryd.pinned (OpenSpec.upto bitsRowsSpec)

/-- 'windroselaw17.BitsFull', WHERE WHAT IT READS IS OF BULK AT MOST 1048576: true; the input reads as it did. -/
def bitsFullUptoRow : OpenClaim := { program := "ytjdgcbdpeooogaadoor", sum := "05c8240b071e584e2feeb43ebdec37715a7793f4e9579629e340c303ceda487d", func := "windrose/windroselaw17.BitsFull", spec := "bitsFull", named := ["windrose/bits.shapes"], apart := false, laid := [("windrose/bits.shapes", laid_windrose_bits_shapes)], narrowed := true }
def BitsFullUptoSaid : Prop := bitsFullUptoRow.holds Tryd.pinned (OpenSpec.upto bitsFullSpec)

/-- 'windroselaw17.BitsNobody', WHERE WHAT IT READS IS OF BULK AT MOST 1048576: true; the input reads as it did. -/
def bitsNobodyUptoRow : OpenClaim := { program := "ytjdgcbdpeooogaadoor", sum := "05c8240b071e584e2feeb43ebdec37715a7793f4e9579629e340c303ceda487d", func := "windrose/windroselaw17.BitsNobody", spec := "bitsNobody", named := ["windrose/bits.shapes"], apart := false, laid := [("windrose/bits.shapes", laid_windrose_bits_shapes)], narrowed := true }
def BitsNobodyUptoSaid : Prop := bitsNobodyUptoRow.holds Tryd.pinned (OpenSpec.upto bitsNobodySpec)

end Rows
end Go.Proofs.YtjdgcbdpeooogaaDoor
