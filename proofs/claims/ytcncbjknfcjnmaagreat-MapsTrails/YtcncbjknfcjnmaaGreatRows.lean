/-
  No cell of these rows narrows 'for every input' (looked for: loops, veiled, ifaces, maps, wideKeys, modest, calm, conditions, laid).
  DERIVED. THE GIVEN ROWS OF THIS SEAT. 6 by the template 'for every input the law returns true; each argument reads behind the call as it read before'; 0 by the template 'total and deterministic' (their statements: YtcncbjknfcjnmaaGreatTotals.lean).
  GIVEN WITH THE SEED: the statements are not yours to turn. If you find one false, say at which input.
  Laid BY PROGRAM, IN A SANDBOX (cutbox-rows.mjs): the forced cells as the released guide's own fill.sh prints them over the translation 3694dfbf63dbf9a7… (all of the seat's roots in one cut). By AI agents, Wed Nov 11 2026. No macro, syntax, notation, axiom, sorry.
-/
import Derived.Test.YtcncbjknfcjnmaaGreatChecked
import GoSem.Claim
import GoSem.ClaimJoined
import GoSem.ClaimMapViews
import Derived.JoinedTies
import Derived.KernelRfl
namespace Go.Proofs.YtcncbjknfcjnmaaGreat
/- THE CELL 'sum', in the pinned program and in every row, IS THE sha256 OF THE DUMP (.gsa) THAT YtcncbjknfcjnmaaGreatProg.lean LOADS. Nothing in Lean hashes anything: it is a label: what it is worth is what the hold of that sum in a sandbox is worth. -/
noncomputable def Tryz.pinned : Pinned := { name := "ytcncbjknfcjnmaagreat", sum := "3694dfbf63dbf9a76bd95ac8676858cc504fe0fc213b8d495920e7bf8ab89d4c", checked := Tryz.checked }
namespace Rows
def none {H : Type} : Left H := { results := [], args := [] }

/-- 'windroselaw08.MapsNew': WHATEVER THE INPUT: true; the input reads as it did. -/
def mapsNewSpec : ChangeSpec := { name := "mapsNew", fn := fun _ => fun
  | [d1, d2, d3] => { results := [.lit (.bool true)], args := [d1, d2, d3] }
  | _ => none }
def mapsNewRow : OpenClaim := { program := "ytcncbjknfcjnmaagreat", sum := "3694dfbf63dbf9a76bd95ac8676858cc504fe0fc213b8d495920e7bf8ab89d4c", func := "windrose/windroselaw08.MapsNew", spec := "mapsNew", inPlace := ["slices.overlaps[windrose/api.Temp]", "slices.overlaps[windrose/api.Node]"], unfollowed := true, recurses := true, plainKeys := false, apart := false }
def MapsNewSaid : Prop := mapsNewRow.holds Tryz.pinned (OpenSpec.ofChange mapsNewSpec)

/-- ITS FALSE NEIGHBOUR: 'it returns false'. Refute it at one input. -/
def mapsNewWrong : ChangeSpec := { name := "mapsNew", fn := fun _ => fun
  | [d1, d2, d3] => { results := [.lit (.bool false)], args := [d1, d2, d3] }
  | _ => none }
def MapsNewWrongFalsely : Prop := mapsNewRow.holds Tryz.pinned (OpenSpec.ofChange mapsNewWrong)

/-- 'windroselaw08.MapsTurns': WHATEVER THE INPUT: true; the input reads as it did. -/
def mapsTurnsSpec : ChangeSpec := { name := "mapsTurns", fn := fun _ => fun
  | [d1, d2] => { results := [.lit (.bool true)], args := [d1, d2] }
  | _ => none }
def mapsTurnsRow : OpenClaim := { program := "ytcncbjknfcjnmaagreat", sum := "3694dfbf63dbf9a76bd95ac8676858cc504fe0fc213b8d495920e7bf8ab89d4c", func := "windrose/windroselaw08.MapsTurns", spec := "mapsTurns", inPlace := ["slices.overlaps[windrose/api.Temp]", "slices.overlaps[windrose/api.Node]"], unfollowed := true, recurses := true, plainKeys := false, apart := false }
def MapsTurnsSaid : Prop := mapsTurnsRow.holds Tryz.pinned (OpenSpec.ofChange mapsTurnsSpec)

/-- ITS FALSE NEIGHBOUR: 'it returns false'. Refute it at one input. -/
def mapsTurnsWrong : ChangeSpec := { name := "mapsTurns", fn := fun _ => fun
  | [d1, d2] => { results := [.lit (.bool false)], args := [d1, d2] }
  | _ => none }
def MapsTurnsWrongFalsely : Prop := mapsTurnsRow.holds Tryz.pinned (OpenSpec.ofChange mapsTurnsWrong)

/-- 'windroselaw08.MapsStands': WHATEVER THE INPUT: true; the input reads as it did. -/
def mapsStandsSpec : ChangeSpec := { name := "mapsStands", fn := fun _ => fun
  | [d1, d2] => { results := [.lit (.bool true)], args := [d1, d2] }
  | _ => none }
def mapsStandsRow : OpenClaim := { program := "ytcncbjknfcjnmaagreat", sum := "3694dfbf63dbf9a76bd95ac8676858cc504fe0fc213b8d495920e7bf8ab89d4c", func := "windrose/windroselaw08.MapsStands", spec := "mapsStands", inPlace := ["slices.overlaps[windrose/api.Temp]", "slices.overlaps[windrose/api.Node]"], unfollowed := true, recurses := true, plainKeys := false, apart := false }
def MapsStandsSaid : Prop := mapsStandsRow.holds Tryz.pinned (OpenSpec.ofChange mapsStandsSpec)

/-- ITS FALSE NEIGHBOUR: 'it returns false'. Refute it at one input. -/
def mapsStandsWrong : ChangeSpec := { name := "mapsStands", fn := fun _ => fun
  | [d1, d2] => { results := [.lit (.bool false)], args := [d1, d2] }
  | _ => none }
def MapsStandsWrongFalsely : Prop := mapsStandsRow.holds Tryz.pinned (OpenSpec.ofChange mapsStandsWrong)

/-- 'windroselaw08.MapsFolds': WHATEVER THE INPUT: true; the input reads as it did. -/
def mapsFoldsSpec : ChangeSpec := { name := "mapsFolds", fn := fun _ => fun
  | [d1, d2, d3] => { results := [.lit (.bool true)], args := [d1, d2, d3] }
  | _ => none }
def mapsFoldsRow : OpenClaim := { program := "ytcncbjknfcjnmaagreat", sum := "3694dfbf63dbf9a76bd95ac8676858cc504fe0fc213b8d495920e7bf8ab89d4c", func := "windrose/windroselaw08.MapsFolds", spec := "mapsFolds", inPlace := ["slices.overlaps[windrose/api.Temp]", "slices.overlaps[windrose/api.Node]"], unfollowed := true, recurses := true, plainKeys := false, apart := false }
def MapsFoldsSaid : Prop := mapsFoldsRow.holds Tryz.pinned (OpenSpec.ofChange mapsFoldsSpec)

/-- ITS FALSE NEIGHBOUR: 'it returns false'. Refute it at one input. -/
def mapsFoldsWrong : ChangeSpec := { name := "mapsFolds", fn := fun _ => fun
  | [d1, d2, d3] => { results := [.lit (.bool false)], args := [d1, d2, d3] }
  | _ => none }
def MapsFoldsWrongFalsely : Prop := mapsFoldsRow.holds Tryz.pinned (OpenSpec.ofChange mapsFoldsWrong)

/-- 'windroselaw08.MapsMoves': WHATEVER THE INPUT: true; the input reads as it did. -/
def mapsMovesSpec : ChangeSpec := { name := "mapsMoves", fn := fun _ => fun
  | [d1, d2] => { results := [.lit (.bool true)], args := [d1, d2] }
  | _ => none }
def mapsMovesRow : OpenClaim := { program := "ytcncbjknfcjnmaagreat", sum := "3694dfbf63dbf9a76bd95ac8676858cc504fe0fc213b8d495920e7bf8ab89d4c", func := "windrose/windroselaw08.MapsMoves", spec := "mapsMoves", inPlace := ["slices.overlaps[windrose/api.Temp]", "slices.overlaps[windrose/api.Node]"], unfollowed := true, recurses := true, plainKeys := false, apart := false }
def MapsMovesSaid : Prop := mapsMovesRow.holds Tryz.pinned (OpenSpec.ofChange mapsMovesSpec)

/-- ITS FALSE NEIGHBOUR: 'it returns false'. Refute it at one input. -/
def mapsMovesWrong : ChangeSpec := { name := "mapsMoves", fn := fun _ => fun
  | [d1, d2] => { results := [.lit (.bool false)], args := [d1, d2] }
  | _ => none }
def MapsMovesWrongFalsely : Prop := mapsMovesRow.holds Tryz.pinned (OpenSpec.ofChange mapsMovesWrong)

/-- 'windroselaw08.MapsTrails': WHATEVER THE INPUT: true; the input reads as it did. -/
def mapsTrailsSpec : ChangeSpec := { name := "mapsTrails", fn := fun _ => fun
  | [d1, d2] => { results := [.lit (.bool true)], args := [d1, d2] }
  | _ => none }
def mapsTrailsRow : OpenClaim := { program := "ytcncbjknfcjnmaagreat", sum := "3694dfbf63dbf9a76bd95ac8676858cc504fe0fc213b8d495920e7bf8ab89d4c", func := "windrose/windroselaw08.MapsTrails", spec := "mapsTrails", inPlace := ["slices.overlaps[windrose/api.Temp]", "slices.overlaps[windrose/api.Node]"], unfollowed := true, recurses := true, plainKeys := false, apart := false }
def MapsTrailsSaid : Prop := mapsTrailsRow.holds Tryz.pinned (OpenSpec.ofChange mapsTrailsSpec)

/-- ITS FALSE NEIGHBOUR: 'it returns false'. Refute it at one input. -/
def mapsTrailsWrong : ChangeSpec := { name := "mapsTrails", fn := fun _ => fun
  | [d1, d2] => { results := [.lit (.bool false)], args := [d1, d2] }
  | _ => none }
def MapsTrailsWrongFalsely : Prop := mapsTrailsRow.holds Tryz.pinned (OpenSpec.ofChange mapsTrailsWrong)

/- THE SECOND FORM. 'bulk': how many values and letters a reading holds, each counted each time it is reached (what is shared counts as often as it is met; a slice's spare places count too). A statement '..UptoSaid' is the law's where the arguments, and the package variables that the reading takes, are together of bulk at most 1048576: NARROWER than '..Said'. Prove '..Said' where nothing that the law and all that it calls make is longer than what came in: it says more and counts as full. Else prove '..UptoSaid'. A law counts once. -/
mutual
def uptoBulk {H : Type} : DataW H → Nat
  | .lit (.string bytes) => bytes.length + 1
  | .lit _ => 1
  | .nil => 1
  | .ptr d => uptoBulk d + 1
  | .slice elems spare => uptoBulkAll elems + uptoBulkAll spare + 1
  | .agg parts => uptoBulkAll parts + 1
  | .iface _ d => uptoBulk d + 1
  | .map entries => uptoBulkEntries entries + 1
  | .held _ => 1
def uptoBulkAll {H : Type} : List (DataW H) → Nat
  | [] => 0
  | d :: r => uptoBulk d + uptoBulkAll r
def uptoBulkEntries {H : Type} : List (Lit × DataW H) → Nat
  | [] => 0
  | x :: r => uptoBulkEntry x + uptoBulkEntries r
def uptoBulkEntry {H : Type} : Lit × DataW H → Nat
  | (.string bytes, d) => bytes.length + uptoBulk d + 1
  | (_, d) => uptoBulk d + 1
 end
def uptoSmall : (H : Type) → List (DataW H) → Bool := fun _ ds => decide (uptoBulkAll ds ≤ 1048576)
def OpenSpec.upto (s : _root_.Go.ChangeSpec) : _root_.Go.OpenSpec := { _root_.Go.OpenSpec.ofChange s with cond := some uptoSmall }

/-- 'windroselaw08.MapsNew', WHERE WHAT IT READS IS OF BULK AT MOST 1048576: true; the input reads as it did. -/
def mapsNewUptoRow : OpenClaim := { program := "ytcncbjknfcjnmaagreat", sum := "3694dfbf63dbf9a76bd95ac8676858cc504fe0fc213b8d495920e7bf8ab89d4c", func := "windrose/windroselaw08.MapsNew", spec := "mapsNew", inPlace := ["slices.overlaps[windrose/api.Temp]", "slices.overlaps[windrose/api.Node]"], unfollowed := true, recurses := true, plainKeys := false, apart := false, narrowed := true }
def MapsNewUptoSaid : Prop := mapsNewUptoRow.holds Tryz.pinned (OpenSpec.upto mapsNewSpec)

/-- 'windroselaw08.MapsTurns', WHERE WHAT IT READS IS OF BULK AT MOST 1048576: true; the input reads as it did. -/
def mapsTurnsUptoRow : OpenClaim := { program := "ytcncbjknfcjnmaagreat", sum := "3694dfbf63dbf9a76bd95ac8676858cc504fe0fc213b8d495920e7bf8ab89d4c", func := "windrose/windroselaw08.MapsTurns", spec := "mapsTurns", inPlace := ["slices.overlaps[windrose/api.Temp]", "slices.overlaps[windrose/api.Node]"], unfollowed := true, recurses := true, plainKeys := false, apart := false, narrowed := true }
def MapsTurnsUptoSaid : Prop := mapsTurnsUptoRow.holds Tryz.pinned (OpenSpec.upto mapsTurnsSpec)

/-- 'windroselaw08.MapsStands', WHERE WHAT IT READS IS OF BULK AT MOST 1048576: true; the input reads as it did. -/
def mapsStandsUptoRow : OpenClaim := { program := "ytcncbjknfcjnmaagreat", sum := "3694dfbf63dbf9a76bd95ac8676858cc504fe0fc213b8d495920e7bf8ab89d4c", func := "windrose/windroselaw08.MapsStands", spec := "mapsStands", inPlace := ["slices.overlaps[windrose/api.Temp]", "slices.overlaps[windrose/api.Node]"], unfollowed := true, recurses := true, plainKeys := false, apart := false, narrowed := true }
def MapsStandsUptoSaid : Prop := mapsStandsUptoRow.holds Tryz.pinned (OpenSpec.upto mapsStandsSpec)

/-- 'windroselaw08.MapsFolds', WHERE WHAT IT READS IS OF BULK AT MOST 1048576: true; the input reads as it did. -/
def mapsFoldsUptoRow : OpenClaim := { program := "ytcncbjknfcjnmaagreat", sum := "3694dfbf63dbf9a76bd95ac8676858cc504fe0fc213b8d495920e7bf8ab89d4c", func := "windrose/windroselaw08.MapsFolds", spec := "mapsFolds", inPlace := ["slices.overlaps[windrose/api.Temp]", "slices.overlaps[windrose/api.Node]"], unfollowed := true, recurses := true, plainKeys := false, apart := false, narrowed := true }
def MapsFoldsUptoSaid : Prop := mapsFoldsUptoRow.holds Tryz.pinned (OpenSpec.upto mapsFoldsSpec)

/-- 'windroselaw08.MapsMoves', WHERE WHAT IT READS IS OF BULK AT MOST 1048576: true; the input reads as it did. -/
def mapsMovesUptoRow : OpenClaim := { program := "ytcncbjknfcjnmaagreat", sum := "3694dfbf63dbf9a76bd95ac8676858cc504fe0fc213b8d495920e7bf8ab89d4c", func := "windrose/windroselaw08.MapsMoves", spec := "mapsMoves", inPlace := ["slices.overlaps[windrose/api.Temp]", "slices.overlaps[windrose/api.Node]"], unfollowed := true, recurses := true, plainKeys := false, apart := false, narrowed := true }
def MapsMovesUptoSaid : Prop := mapsMovesUptoRow.holds Tryz.pinned (OpenSpec.upto mapsMovesSpec)

/-- 'windroselaw08.MapsTrails', WHERE WHAT IT READS IS OF BULK AT MOST 1048576: true; the input reads as it did. -/
def mapsTrailsUptoRow : OpenClaim := { program := "ytcncbjknfcjnmaagreat", sum := "3694dfbf63dbf9a76bd95ac8676858cc504fe0fc213b8d495920e7bf8ab89d4c", func := "windrose/windroselaw08.MapsTrails", spec := "mapsTrails", inPlace := ["slices.overlaps[windrose/api.Temp]", "slices.overlaps[windrose/api.Node]"], unfollowed := true, recurses := true, plainKeys := false, apart := false, narrowed := true }
def MapsTrailsUptoSaid : Prop := mapsTrailsUptoRow.holds Tryz.pinned (OpenSpec.upto mapsTrailsSpec)

end Rows
end Go.Proofs.YtcncbjknfcjnmaaGreat
