/-
  DERIVED. GIVEN WITH THE SEED: THE CARDS: each row of YtechccoongilcaaDoorRows.lean that lists a variable, with what it lists TIED to the program's text (the seventh form; the later family's looks); each row that meets fmt, with fmt's text TOLD by the authors' own Lean function (tested against real Go, not proved from fmt's source: count such statements apart). THE CARD IS WHAT COUNTS. Prove the row's statement (the work); the ties are given (YtechccoongilcaaDoorTie.lean); close each card by the builder's one call (the guide's Derived/Test/ToyasCard.lean, 'card_holds'). Laid BY PROGRAM, IN A SANDBOX (cutbox-door.mjs). By AI agents, Wed Nov 11 2026. No macro, syntax, notation, axiom, sorry.
-/
import Derived.Test.YtechccoongilcaaDoorRows
import GoSem.ClaimSeven
namespace Go.Proofs.YtechccoongilcaaDoor
namespace Rows

/-- THE TIED CARD OF 'gatefoldlaw07.CanonOf'. -/
def canonOfCard : Claim7 := { stood := { row := canonOfRow, standIns := [], harness := (true, "daa7e623a92d8e955c1fc5529aa9f15dec71320f02e9ebf76af351595bf63e3c"), looks := true }, kinds := [], alts := [], laidByText := true, laidKinds := [.data, .data, .data, .data, .pinned], laidTests := true, laidLooks := .later }
def CanonOfCardSaid : Prop := Claim7.holds Tryd.pinned (.plain (OpenSpec.ofChange canonOfSpec)) canonOfCard

/-- THE TIED CARD OF 'gatefoldlaw07.CanonOnce'. -/
def canonOnceCard : Claim7 := { stood := { row := canonOnceRow, standIns := [], harness := (true, "daa7e623a92d8e955c1fc5529aa9f15dec71320f02e9ebf76af351595bf63e3c"), looks := true }, kinds := [], alts := [], laidByText := true, laidKinds := [.data, .data, .data, .data, .pinned], laidTests := true, laidLooks := .later }
def CanonOnceCardSaid : Prop := Claim7.holds Tryd.pinned (.plain (OpenSpec.ofChange canonOnceSpec)) canonOnceCard

/-- THE SECOND FORM's CARD OF 'gatefoldlaw07.CanonOf'. -/
def canonOfUptoCard : Claim7 := { stood := { row := canonOfUptoRow, standIns := [], harness := (true, "daa7e623a92d8e955c1fc5529aa9f15dec71320f02e9ebf76af351595bf63e3c"), looks := true }, kinds := [], alts := [], laidByText := true, laidKinds := [.data, .data, .data, .data, .pinned], laidTests := true, laidLooks := .later }
def CanonOfUptoCardSaid : Prop := Claim7.holds Tryd.pinned (.plain (OpenSpec.upto canonOfSpec)) canonOfUptoCard

/-- THE SECOND FORM's CARD OF 'gatefoldlaw07.CanonOnce'. -/
def canonOnceUptoCard : Claim7 := { stood := { row := canonOnceUptoRow, standIns := [], harness := (true, "daa7e623a92d8e955c1fc5529aa9f15dec71320f02e9ebf76af351595bf63e3c"), looks := true }, kinds := [], alts := [], laidByText := true, laidKinds := [.data, .data, .data, .data, .pinned], laidTests := true, laidLooks := .later }
def CanonOnceUptoCardSaid : Prop := Claim7.holds Tryd.pinned (.plain (OpenSpec.upto canonOnceSpec)) canonOnceUptoCard
end Rows
end Go.Proofs.YtechccoongilcaaDoor
