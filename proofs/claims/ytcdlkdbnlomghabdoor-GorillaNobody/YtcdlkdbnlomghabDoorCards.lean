/-
  DERIVED. GIVEN WITH THE SEED: THE CARDS: each row of YtcdlkdbnlomghabDoorRows.lean that lists a variable, with what it lists TIED to the program's text (the seventh form; the later family's looks); each row that meets fmt, with fmt's text TOLD by the authors' own Lean function (tested against real Go, not proved from fmt's source: count such statements apart). THE CARD IS WHAT COUNTS. Prove the row's statement (the work); the ties are given (YtcdlkdbnlomghabDoorTie.lean); close each card by the builder's one call (the guide's Derived/Test/ToyasCard.lean, 'card_holds'). Laid BY PROGRAM, IN A SANDBOX (cutbox-door.mjs). By AI agents, Wed Nov 11 2026. No macro, syntax, notation, axiom, sorry.
-/
import Derived.Test.YtcdlkdbnlomghabDoorRows
import GoSem.ClaimSeven
namespace Go.Proofs.YtcdlkdbnlomghabDoor
namespace Rows

/-- THE TIED CARD OF 'windroselaw18.GorillaNobody'. -/
def gorillaNobodyCard : Claim7 := { stood := { row := gorillaNobodyRow, standIns := [], harness := (true, "ee0bda1081d20bd06ecfff92e3c1638d5e04e2db49b4d989f19c71353d67e4c6"), looks := false }, kinds := [], alts := [], laidByText := true, laidKinds := [.wider], laidTests := true, laidLooks := .later }
def GorillaNobodyCardSaid : Prop := Claim7.holds Tryd.pinned (.plain (OpenSpec.ofChange gorillaNobodySpec)) gorillaNobodyCard

/-- THE SECOND FORM's CARD OF 'windroselaw18.GorillaNobody'. -/
def gorillaNobodyUptoCard : Claim7 := { stood := { row := gorillaNobodyUptoRow, standIns := [], harness := (true, "ee0bda1081d20bd06ecfff92e3c1638d5e04e2db49b4d989f19c71353d67e4c6"), looks := false }, kinds := [], alts := [], laidByText := true, laidKinds := [.wider], laidTests := true, laidLooks := .later }
def GorillaNobodyUptoCardSaid : Prop := Claim7.holds Tryd.pinned (.plain (OpenSpec.upto gorillaNobodySpec)) gorillaNobodyUptoCard
end Rows
end Go.Proofs.YtcdlkdbnlomghabDoor
