/-
  DERIVED. GIVEN WITH THE SEED: THE CARDS: each row of YteginjdgapjadaaDoorRows.lean that lists a variable, with what it lists TIED to the program's text (the seventh form; the later family's looks); each row that meets fmt, with fmt's text TOLD by the authors' own Lean function (tested against real Go, not proved from fmt's source: count such statements apart). THE CARD IS WHAT COUNTS. Prove the row's statement (the work); the ties are given (YteginjdgapjadaaDoorTie.lean); close each card by the builder's one call (the guide's Derived/Test/ToyasCard.lean, 'card_holds'). Laid BY PROGRAM, IN A SANDBOX (cutbox-door.mjs). By AI agents, Wed Nov 11 2026. No macro, syntax, notation, axiom, sorry.
-/
import Derived.Test.YteginjdgapjadaaDoorRows
import GoSem.ClaimSeven
namespace Go.Proofs.YteginjdgapjadaaDoor
namespace Rows

/-- THE TIED CARD OF 'gatefoldlaw05.ReadReads'. -/
def readReadsCard : Claim7 := { stood := { row := readReadsRow, standIns := [], harness := (true, "b78d35213db5c7e67a1976e2e44fce6666cac61fbc9dafa67c32aade4d12fcd6"), looks := true }, kinds := [], alts := [], laidByText := true, laidKinds := [.data, .pinned], laidTests := true, laidLooks := .later }
def ReadReadsCardSaid : Prop := Claim7.holds Tryd.pinned (.plain (OpenSpec.ofChange readReadsSpec)) readReadsCard

/-- THE TIED CARD OF 'gatefoldlaw05.ReadSame'. -/
def readSameCard : Claim7 := { stood := { row := readSameRow, standIns := [], harness := (true, "b78d35213db5c7e67a1976e2e44fce6666cac61fbc9dafa67c32aade4d12fcd6"), looks := true }, kinds := [], alts := [], laidByText := true, laidKinds := [.data, .pinned], laidTests := true, laidLooks := .later }
def ReadSameCardSaid : Prop := Claim7.holds Tryd.pinned (.plain (OpenSpec.ofChange readSameSpec)) readSameCard

/-- THE TIED CARD OF 'gatefoldlaw05.ReadRows'. -/
def readRowsCard : Claim7 := { stood := { row := readRowsRow, standIns := [], harness := (true, "b78d35213db5c7e67a1976e2e44fce6666cac61fbc9dafa67c32aade4d12fcd6"), looks := true }, kinds := [], alts := [], laidByText := true, laidKinds := [.data, .pinned], laidTests := true, laidLooks := .later }
def ReadRowsCardSaid : Prop := Claim7.holds Tryd.pinned (.plain (OpenSpec.ofChange readRowsSpec)) readRowsCard

/-- THE TIED CARD OF 'gatefoldlaw05.ReadParted'. -/
def readPartedCard : Claim7 := { stood := { row := readPartedRow, standIns := [], harness := (true, "b78d35213db5c7e67a1976e2e44fce6666cac61fbc9dafa67c32aade4d12fcd6"), looks := true }, kinds := [], alts := [], laidByText := true, laidKinds := [.data, .pinned], laidTests := true, laidLooks := .later }
def ReadPartedCardSaid : Prop := Claim7.holds Tryd.pinned (.plain (OpenSpec.ofChange readPartedSpec)) readPartedCard

/-- THE SECOND FORM's CARD OF 'gatefoldlaw05.ReadReads'. -/
def readReadsUptoCard : Claim7 := { stood := { row := readReadsUptoRow, standIns := [], harness := (true, "b78d35213db5c7e67a1976e2e44fce6666cac61fbc9dafa67c32aade4d12fcd6"), looks := true }, kinds := [], alts := [], laidByText := true, laidKinds := [.data, .pinned], laidTests := true, laidLooks := .later }
def ReadReadsUptoCardSaid : Prop := Claim7.holds Tryd.pinned (.plain (OpenSpec.upto readReadsSpec)) readReadsUptoCard

/-- THE SECOND FORM's CARD OF 'gatefoldlaw05.ReadSame'. -/
def readSameUptoCard : Claim7 := { stood := { row := readSameUptoRow, standIns := [], harness := (true, "b78d35213db5c7e67a1976e2e44fce6666cac61fbc9dafa67c32aade4d12fcd6"), looks := true }, kinds := [], alts := [], laidByText := true, laidKinds := [.data, .pinned], laidTests := true, laidLooks := .later }
def ReadSameUptoCardSaid : Prop := Claim7.holds Tryd.pinned (.plain (OpenSpec.upto readSameSpec)) readSameUptoCard

/-- THE SECOND FORM's CARD OF 'gatefoldlaw05.ReadRows'. -/
def readRowsUptoCard : Claim7 := { stood := { row := readRowsUptoRow, standIns := [], harness := (true, "b78d35213db5c7e67a1976e2e44fce6666cac61fbc9dafa67c32aade4d12fcd6"), looks := true }, kinds := [], alts := [], laidByText := true, laidKinds := [.data, .pinned], laidTests := true, laidLooks := .later }
def ReadRowsUptoCardSaid : Prop := Claim7.holds Tryd.pinned (.plain (OpenSpec.upto readRowsSpec)) readRowsUptoCard

/-- THE SECOND FORM's CARD OF 'gatefoldlaw05.ReadParted'. -/
def readPartedUptoCard : Claim7 := { stood := { row := readPartedUptoRow, standIns := [], harness := (true, "b78d35213db5c7e67a1976e2e44fce6666cac61fbc9dafa67c32aade4d12fcd6"), looks := true }, kinds := [], alts := [], laidByText := true, laidKinds := [.data, .pinned], laidTests := true, laidLooks := .later }
def ReadPartedUptoCardSaid : Prop := Claim7.holds Tryd.pinned (.plain (OpenSpec.upto readPartedSpec)) readPartedUptoCard
end Rows
end Go.Proofs.YteginjdgapjadaaDoor
