/-
  DERIVED. GIVEN WITH THE SEED: THE CARDS: each row of YtildplbdhnodjaaDoorRows.lean that lists a variable, with what it lists TIED to the program's text (the seventh form; the later family's looks); each row that meets fmt, with fmt's text TOLD by the authors' own Lean function (tested against real Go, not proved from fmt's source: count such statements apart). THE CARD IS WHAT COUNTS. Prove the row's statement (the work); the ties are given (YtildplbdhnodjaaDoorTie.lean); close each card by the builder's one call (the guide's Derived/Test/ToyasCard.lean, 'card_holds'). Laid BY PROGRAM, IN A SANDBOX (cutbox-door.mjs). By AI agents, Wed Nov 11 2026. No macro, syntax, notation, axiom, sorry.
-/
import Derived.Test.YtildplbdhnodjaaDoorRows
import GoSem.ClaimSeven
namespace Go.Proofs.YtildplbdhnodjaaDoor
namespace Rows

/-- THE TIED CARD OF 'gatefoldlaw06.ValidRead'. -/
def validReadCard : Claim7 := { stood := { row := validReadRow, standIns := [], harness := (true, "9ccb9222e0cb95b765991bed1463e9d815021de7507952576d681f05e51bbc25"), looks := true }, kinds := [], alts := [], laidByText := true, laidKinds := [.data, .pinned], laidTests := true, laidLooks := .later }
def ValidReadCardSaid : Prop := Claim7.holds Tryd.pinned (.plain (OpenSpec.ofChange validReadSpec)) validReadCard

/-- THE SECOND FORM's CARD OF 'gatefoldlaw06.ValidRead'. -/
def validReadUptoCard : Claim7 := { stood := { row := validReadUptoRow, standIns := [], harness := (true, "9ccb9222e0cb95b765991bed1463e9d815021de7507952576d681f05e51bbc25"), looks := true }, kinds := [], alts := [], laidByText := true, laidKinds := [.data, .pinned], laidTests := true, laidLooks := .later }
def ValidReadUptoCardSaid : Prop := Claim7.holds Tryd.pinned (.plain (OpenSpec.upto validReadSpec)) validReadUptoCard
end Rows
end Go.Proofs.YtildplbdhnodjaaDoor
