/-
  DERIVED. GIVEN WITH THE SEED: THE CARDS: each row of YtcdlkdbnlomghaaDoorRows.lean that lists a variable, with what it lists TIED to the program's text (the seventh form; the later family's looks); each row that meets fmt, with fmt's text TOLD by the authors' own Lean function (tested against real Go, not proved from fmt's source: count such statements apart). THE CARD IS WHAT COUNTS. Prove the row's statement (the work); the ties are given (YtcdlkdbnlomghaaDoorTie.lean); close each card by the builder's one call (the guide's Derived/Test/ToyasCard.lean, 'card_holds'). Laid BY PROGRAM, IN A SANDBOX (cutbox-door.mjs). By AI agents, Wed Nov 11 2026. No macro, syntax, notation, axiom, sorry.
-/
import Derived.Test.YtcdlkdbnlomghaaDoorRows
import GoSem.ClaimSeven
namespace Go.Proofs.YtcdlkdbnlomghaaDoor
namespace Rows

/-- THE TIED CARD OF 'windroselaw18.GorillaBuilds'. -/
def gorillaBuildsCard : Claim7 := { stood := { row := gorillaBuildsRow, standIns := [], harness := (true, "fdb89c11451b28a54186389dff7eed7acabbe84c015eccf7a06e9a58a3e2d6b7"), looks := false }, kinds := [], alts := [], laidByText := true, laidKinds := [.wider], laidTests := true, laidLooks := .later }
def GorillaBuildsCardSaid : Prop := Claim7.holds Tryd.pinned (.plain (OpenSpec.ofChange gorillaBuildsSpec)) gorillaBuildsCard

/-- THE TIED CARD OF 'windroselaw18.GorillaReads'. -/
def gorillaReadsCard : Claim7 := { stood := { row := gorillaReadsRow, standIns := [], harness := (true, "fdb89c11451b28a54186389dff7eed7acabbe84c015eccf7a06e9a58a3e2d6b7"), looks := false }, kinds := [], alts := [], laidByText := true, laidKinds := [.wider], laidTests := true, laidLooks := .later }
def GorillaReadsCardSaid : Prop := Claim7.holds Tryd.pinned (.plain (OpenSpec.ofChange gorillaReadsSpec)) gorillaReadsCard

/-- THE TIED CARD OF 'windroselaw18.GorillaAppends'. -/
def gorillaAppendsCard : Claim7 := { stood := { row := gorillaAppendsRow, standIns := [], harness := (true, "fdb89c11451b28a54186389dff7eed7acabbe84c015eccf7a06e9a58a3e2d6b7"), looks := false }, kinds := [], alts := [], laidByText := true, laidKinds := [.wider], laidTests := true, laidLooks := .later }
def GorillaAppendsCardSaid : Prop := Claim7.holds Tryd.pinned (.plain (OpenSpec.ofChange gorillaAppendsSpec)) gorillaAppendsCard

/-- THE TIED CARD OF 'windroselaw18.GorillaDatas'. -/
def gorillaDatasCard : Claim7 := { stood := { row := gorillaDatasRow, standIns := [], harness := (true, "fdb89c11451b28a54186389dff7eed7acabbe84c015eccf7a06e9a58a3e2d6b7"), looks := false }, kinds := [], alts := [], laidByText := true, laidKinds := [.wider], laidTests := true, laidLooks := .later }
def GorillaDatasCardSaid : Prop := Claim7.holds Tryd.pinned (.plain (OpenSpec.ofChange gorillaDatasSpec)) gorillaDatasCard

/-- THE TIED CARD OF 'windroselaw18.GorillaCursors'. -/
def gorillaCursorsCard : Claim7 := { stood := { row := gorillaCursorsRow, standIns := [], harness := (true, "fdb89c11451b28a54186389dff7eed7acabbe84c015eccf7a06e9a58a3e2d6b7"), looks := false }, kinds := [], alts := [], laidByText := true, laidKinds := [.wider], laidTests := true, laidLooks := .later }
def GorillaCursorsCardSaid : Prop := Claim7.holds Tryd.pinned (.plain (OpenSpec.ofChange gorillaCursorsSpec)) gorillaCursorsCard

/-- THE TIED CARD OF 'windroselaw18.GorillaEven'. -/
def gorillaEvenCard : Claim7 := { stood := { row := gorillaEvenRow, standIns := [], harness := (true, "fdb89c11451b28a54186389dff7eed7acabbe84c015eccf7a06e9a58a3e2d6b7"), looks := false }, kinds := [], alts := [], laidByText := true, laidKinds := [.wider], laidTests := true, laidLooks := .later }
def GorillaEvenCardSaid : Prop := Claim7.holds Tryd.pinned (.plain (OpenSpec.ofChange gorillaEvenSpec)) gorillaEvenCard

/-- THE SECOND FORM's CARD OF 'windroselaw18.GorillaBuilds'. -/
def gorillaBuildsUptoCard : Claim7 := { stood := { row := gorillaBuildsUptoRow, standIns := [], harness := (true, "fdb89c11451b28a54186389dff7eed7acabbe84c015eccf7a06e9a58a3e2d6b7"), looks := false }, kinds := [], alts := [], laidByText := true, laidKinds := [.wider], laidTests := true, laidLooks := .later }
def GorillaBuildsUptoCardSaid : Prop := Claim7.holds Tryd.pinned (.plain (OpenSpec.upto gorillaBuildsSpec)) gorillaBuildsUptoCard

/-- THE SECOND FORM's CARD OF 'windroselaw18.GorillaReads'. -/
def gorillaReadsUptoCard : Claim7 := { stood := { row := gorillaReadsUptoRow, standIns := [], harness := (true, "fdb89c11451b28a54186389dff7eed7acabbe84c015eccf7a06e9a58a3e2d6b7"), looks := false }, kinds := [], alts := [], laidByText := true, laidKinds := [.wider], laidTests := true, laidLooks := .later }
def GorillaReadsUptoCardSaid : Prop := Claim7.holds Tryd.pinned (.plain (OpenSpec.upto gorillaReadsSpec)) gorillaReadsUptoCard

/-- THE SECOND FORM's CARD OF 'windroselaw18.GorillaAppends'. -/
def gorillaAppendsUptoCard : Claim7 := { stood := { row := gorillaAppendsUptoRow, standIns := [], harness := (true, "fdb89c11451b28a54186389dff7eed7acabbe84c015eccf7a06e9a58a3e2d6b7"), looks := false }, kinds := [], alts := [], laidByText := true, laidKinds := [.wider], laidTests := true, laidLooks := .later }
def GorillaAppendsUptoCardSaid : Prop := Claim7.holds Tryd.pinned (.plain (OpenSpec.upto gorillaAppendsSpec)) gorillaAppendsUptoCard

/-- THE SECOND FORM's CARD OF 'windroselaw18.GorillaDatas'. -/
def gorillaDatasUptoCard : Claim7 := { stood := { row := gorillaDatasUptoRow, standIns := [], harness := (true, "fdb89c11451b28a54186389dff7eed7acabbe84c015eccf7a06e9a58a3e2d6b7"), looks := false }, kinds := [], alts := [], laidByText := true, laidKinds := [.wider], laidTests := true, laidLooks := .later }
def GorillaDatasUptoCardSaid : Prop := Claim7.holds Tryd.pinned (.plain (OpenSpec.upto gorillaDatasSpec)) gorillaDatasUptoCard

/-- THE SECOND FORM's CARD OF 'windroselaw18.GorillaCursors'. -/
def gorillaCursorsUptoCard : Claim7 := { stood := { row := gorillaCursorsUptoRow, standIns := [], harness := (true, "fdb89c11451b28a54186389dff7eed7acabbe84c015eccf7a06e9a58a3e2d6b7"), looks := false }, kinds := [], alts := [], laidByText := true, laidKinds := [.wider], laidTests := true, laidLooks := .later }
def GorillaCursorsUptoCardSaid : Prop := Claim7.holds Tryd.pinned (.plain (OpenSpec.upto gorillaCursorsSpec)) gorillaCursorsUptoCard

/-- THE SECOND FORM's CARD OF 'windroselaw18.GorillaEven'. -/
def gorillaEvenUptoCard : Claim7 := { stood := { row := gorillaEvenUptoRow, standIns := [], harness := (true, "fdb89c11451b28a54186389dff7eed7acabbe84c015eccf7a06e9a58a3e2d6b7"), looks := false }, kinds := [], alts := [], laidByText := true, laidKinds := [.wider], laidTests := true, laidLooks := .later }
def GorillaEvenUptoCardSaid : Prop := Claim7.holds Tryd.pinned (.plain (OpenSpec.upto gorillaEvenSpec)) gorillaEvenUptoCard
end Rows
end Go.Proofs.YtcdlkdbnlomghaaDoor
