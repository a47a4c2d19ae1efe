/-
  NARROWER THAN 'FOR EVERY INPUT', by the rows' own cells (each row's printed sentence says how): ReadReads: laid · ReadSame: laid · ReadRows: laid · ReadParted: laid.
  DERIVED. THE GIVEN ROWS OF THIS SEAT. 4 by the template 'for every input the law returns true; each argument reads behind the call as it read before'; 0 by the template 'total and deterministic' (their statements: YteginjdgapjadaaDoorTotals.lean).
  GIVEN WITH THE SEED: the statements are not yours to turn. If you find one false, say at which input.
  Laid BY PROGRAM, IN A SANDBOX (cutbox-rows.mjs): the forced cells as the released guide's own fill.sh prints them over the translation 279d30f5b0f035e1… (all of the seat's roots in one cut). By AI agents, Wed Nov 11 2026. No macro, syntax, notation, axiom, sorry.
-/
import Derived.Test.YteginjdgapjadaaDoorChecked
import GoSem.PinnedTables
import GoSem.Claim
import GoSem.ClaimJoined
import GoSem.ClaimMapViews
import Derived.JoinedTies
import Derived.KernelRfl
namespace Go.Proofs.YteginjdgapjadaaDoor
/- THE CELL 'sum', in the pinned program and in every row, IS THE sha256 OF THE DUMP (.gsa) THAT YteginjdgapjadaaDoorProg.lean LOADS. Nothing in Lean hashes anything: it is a label: what it is worth is what the hold of that sum in a sandbox is worth. -/
noncomputable def Tryd.pinned : Pinned := { name := "yteginjdgapjadaadoor", sum := "279d30f5b0f035e1887404c6d91b962fedf7e375a97c3c7329ea1f5b3379564d", checked := Tryd.checked }
namespace Rows
def none {H : Type} : Left H := { results := [], args := [] }

/- WHAT THE LISTED PACKAGE-LEVEL VARIABLES READ AS WHEN THE CALL BEGINS. Each datum BY PROGRAM (the guide's laid-datum.mjs) off the statement by which the dump's own 'gosem.cut.vars' lays the variable. In a bare row this is a premise. The card (YteginjdgapjadaaDoorCards.lean) ties it to the program's text. -/
def laid_unicode_utf8_acceptRanges {H : Type} : DataW H := .agg [.agg [.lit (.int .u8 128), .lit (.int .u8 191)], .agg [.lit (.int .u8 160), .lit (.int .u8 191)], .agg [.lit (.int .u8 128), .lit (.int .u8 159)], .agg [.lit (.int .u8 144), .lit (.int .u8 191)], .agg [.lit (.int .u8 128), .lit (.int .u8 143)], .agg [.lit (.int .u8 0), .lit (.int .u8 0)], .agg [.lit (.int .u8 0), .lit (.int .u8 0)], .agg [.lit (.int .u8 0), .lit (.int .u8 0)], .agg [.lit (.int .u8 0), .lit (.int .u8 0)], .agg [.lit (.int .u8 0), .lit (.int .u8 0)], .agg [.lit (.int .u8 0), .lit (.int .u8 0)], .agg [.lit (.int .u8 0), .lit (.int .u8 0)], .agg [.lit (.int .u8 0), .lit (.int .u8 0)], .agg [.lit (.int .u8 0), .lit (.int .u8 0)], .agg [.lit (.int .u8 0), .lit (.int .u8 0)], .agg [.lit (.int .u8 0), .lit (.int .u8 0)]]
/-- One of Go's own tables, pinned by name: the form's constant. -/
def laid_unicode_utf8_first : DataW Unit := Go.Pinned.utf8First

/-- 'gatefoldlaw05.ReadReads': WHATEVER THE INPUT: true; the input reads as it did. -/
def readReadsSpec : ChangeSpec := { name := "readReads", fn := fun _ => fun
  | [d] => { results := [.lit (.bool true)], args := [d] }
  | _ => none }
def readReadsRow : OpenClaim := { program := "yteginjdgapjadaadoor", sum := "279d30f5b0f035e1887404c6d91b962fedf7e375a97c3c7329ea1f5b3379564d", func := "gatefold/gatefoldlaw05.ReadReads", spec := "readReads", unfollowed := true, recurses := true, named := ["unicode/utf8.first", "unicode/utf8.acceptRanges"], apart := false, laid := [("unicode/utf8.acceptRanges", laid_unicode_utf8_acceptRanges), ("unicode/utf8.first", laid_unicode_utf8_first)] }
def ReadReadsSaid : Prop := readReadsRow.holds Tryd.pinned (OpenSpec.ofChange readReadsSpec)

/-- ITS FALSE NEIGHBOUR: 'it returns false'. Refute it at one input. -/
def readReadsWrong : ChangeSpec := { name := "readReads", fn := fun _ => fun
  | [d] => { results := [.lit (.bool false)], args := [d] }
  | _ => none }
def ReadReadsWrongFalsely : Prop := readReadsRow.holds Tryd.pinned (OpenSpec.ofChange readReadsWrong)

/-- 'gatefoldlaw05.ReadSame': WHATEVER THE INPUT: true; the input reads as it did. -/
def readSameSpec : ChangeSpec := { name := "readSame", fn := fun _ => fun
  | [d1, d2] => { results := [.lit (.bool true)], args := [d1, d2] }
  | _ => none }
def readSameRow : OpenClaim := { program := "yteginjdgapjadaadoor", sum := "279d30f5b0f035e1887404c6d91b962fedf7e375a97c3c7329ea1f5b3379564d", func := "gatefold/gatefoldlaw05.ReadSame", spec := "readSame", unfollowed := true, recurses := true, named := ["unicode/utf8.first", "unicode/utf8.acceptRanges"], apart := false, laid := [("unicode/utf8.acceptRanges", laid_unicode_utf8_acceptRanges), ("unicode/utf8.first", laid_unicode_utf8_first)] }
def ReadSameSaid : Prop := readSameRow.holds Tryd.pinned (OpenSpec.ofChange readSameSpec)

/-- ITS FALSE NEIGHBOUR: 'it returns false'. Refute it at one input. -/
def readSameWrong : ChangeSpec := { name := "readSame", fn := fun _ => fun
  | [d1, d2] => { results := [.lit (.bool false)], args := [d1, d2] }
  | _ => none }
def ReadSameWrongFalsely : Prop := readSameRow.holds Tryd.pinned (OpenSpec.ofChange readSameWrong)

/-- 'gatefoldlaw05.ReadRows': WHATEVER THE INPUT: true; the input reads as it did. -/
def readRowsSpec : ChangeSpec := { name := "readRows", fn := fun _ => fun
  | [d] => { results := [.lit (.bool true)], args := [d] }
  | _ => none }
def readRowsRow : OpenClaim := { program := "yteginjdgapjadaadoor", sum := "279d30f5b0f035e1887404c6d91b962fedf7e375a97c3c7329ea1f5b3379564d", func := "gatefold/gatefoldlaw05.ReadRows", spec := "readRows", unfollowed := true, recurses := true, named := ["unicode/utf8.first", "unicode/utf8.acceptRanges"], apart := false, laid := [("unicode/utf8.acceptRanges", laid_unicode_utf8_acceptRanges), ("unicode/utf8.first", laid_unicode_utf8_first)] }
def ReadRowsSaid : Prop := readRowsRow.holds Tryd.pinned (OpenSpec.ofChange readRowsSpec)

/-- ITS FALSE NEIGHBOUR: 'it returns false'. Refute it at one input. -/
def readRowsWrong : ChangeSpec := { name := "readRows", fn := fun _ => fun
  | [d] => { results := [.lit (.bool false)], args := [d] }
  | _ => none }
def ReadRowsWrongFalsely : Prop := readRowsRow.holds Tryd.pinned (OpenSpec.ofChange readRowsWrong)

/-- 'gatefoldlaw05.ReadParted': WHATEVER THE INPUT: true; the input reads as it did. -/
def readPartedSpec : ChangeSpec := { name := "readParted", fn := fun _ => fun
  | [d1, d2] => { results := [.lit (.bool true)], args := [d1, d2] }
  | _ => none }
def readPartedRow : OpenClaim := { program := "yteginjdgapjadaadoor", sum := "279d30f5b0f035e1887404c6d91b962fedf7e375a97c3c7329ea1f5b3379564d", func := "gatefold/gatefoldlaw05.ReadParted", spec := "readParted", unfollowed := true, recurses := true, named := ["unicode/utf8.first", "unicode/utf8.acceptRanges"], apart := false, laid := [("unicode/utf8.acceptRanges", laid_unicode_utf8_acceptRanges), ("unicode/utf8.first", laid_unicode_utf8_first)] }
def ReadPartedSaid : Prop := readPartedRow.holds Tryd.pinned (OpenSpec.ofChange readPartedSpec)

/-- ITS FALSE NEIGHBOUR: 'it returns false'. Refute it at one input. -/
def readPartedWrong : ChangeSpec := { name := "readParted", fn := fun _ => fun
  | [d1, d2] => { results := [.lit (.bool false)], args := [d1, d2] }
  | _ => none }
def ReadPartedWrongFalsely : Prop := readPartedRow.holds Tryd.pinned (OpenSpec.ofChange readPartedWrong)

/- THE SECOND FORM. 'bulk': how many values and letters a reading holds, each counted each time it is reached (what is shared counts as often as it is met; a slice's spare places count too). A statement '..UptoSaid' is the law's where the arguments, and the package variables that the reading takes, are together of bulk at most 1048576: NARROWER than '..Said'. Prove '..Said' where nothing that the law and all that it calls make is longer than what came in: it says more and counts as full. Else prove '..UptoSaid'. A law counts once. -/
mutual
def uptoBulk {H : Type} : DataW H → Nat
  | .lit (.string bytes) => bytes.length + 1
  | .lit _ => 1
  | .nil => 1
  | .ptr d => uptoBulk d + 1
  | .slice elems spare => uptoBulkAll elems + uptoBulkAll spare + 1
  | .agg parts => uptoBulkAll parts + 1
  | .iface _ d => uptoBulk d + 1
  | .map entries => uptoBulkEntries entries + 1
  | .held _ => 1
def uptoBulkAll {H : Type} : List (DataW H) → Nat
  | [] => 0
  | d :: r => uptoBulk d + uptoBulkAll r
def uptoBulkEntries {H : Type} : List (Lit × DataW H) → Nat
  | [] => 0
  | x :: r => uptoBulkEntry x + uptoBulkEntries r
def uptoBulkEntry {H : Type} : Lit × DataW H → Nat
  | (.string bytes, d) => bytes.length + uptoBulk d + 1
  | (_, d) => uptoBulk d + 1
 end
def uptoSmall : (H : Type) → List (DataW H) → Bool := fun _ ds => decide (uptoBulkAll ds ≤ 1048576)
def OpenSpec.upto (s : _root_.Go.ChangeSpec) : _root_.Go.OpenSpec := { _root_.Go.OpenSpec.ofChange s with cond := some uptoSmall }

/-- 'gatefoldlaw05.ReadReads', WHERE WHAT IT READS IS OF BULK AT MOST 1048576: true; the input reads as it did. -/
def readReadsUptoRow : OpenClaim := { program := "yteginjdgapjadaadoor", sum := "279d30f5b0f035e1887404c6d91b962fedf7e375a97c3c7329ea1f5b3379564d", func := "gatefold/gatefoldlaw05.ReadReads", spec := "readReads", unfollowed := true, recurses := true, named := ["unicode/utf8.first", "unicode/utf8.acceptRanges"], apart := false, laid := [("unicode/utf8.acceptRanges", laid_unicode_utf8_acceptRanges), ("unicode/utf8.first", laid_unicode_utf8_first)], narrowed := true }
def ReadReadsUptoSaid : Prop := readReadsUptoRow.holds Tryd.pinned (OpenSpec.upto readReadsSpec)

/-- 'gatefoldlaw05.ReadSame', WHERE WHAT IT READS IS OF BULK AT MOST 1048576: true; the input reads as it did. -/
def readSameUptoRow : OpenClaim := { program := "yteginjdgapjadaadoor", sum := "279d30f5b0f035e1887404c6d91b962fedf7e375a97c3c7329ea1f5b3379564d", func := "gatefold/gatefoldlaw05.ReadSame", spec := "readSame", unfollowed := true, recurses := true, named := ["unicode/utf8.first", "unicode/utf8.acceptRanges"], apart := false, laid := [("unicode/utf8.acceptRanges", laid_unicode_utf8_acceptRanges), ("unicode/utf8.first", laid_unicode_utf8_first)], narrowed := true }
def ReadSameUptoSaid : Prop := readSameUptoRow.holds Tryd.pinned (OpenSpec.upto readSameSpec)

/-- 'gatefoldlaw05.ReadRows', WHERE WHAT IT READS IS OF BULK AT MOST 1048576: true; the input reads as it did. -/
def readRowsUptoRow : OpenClaim := { program := "yteginjdgapjadaadoor", sum := "279d30f5b0f035e1887404c6d91b962fedf7e375a97c3c7329ea1f5b3379564d", func := "gatefold/gatefoldlaw05.ReadRows", spec := "readRows", unfollowed := true, recurses := true, named := ["unicode/utf8.first", "unicode/utf8.acceptRanges"], apart := false, laid := [("unicode/utf8.acceptRanges", laid_unicode_utf8_acceptRanges), ("unicode/utf8.first", laid_unicode_utf8_first)], narrowed := true }
def ReadRowsUptoSaid : Prop := readRowsUptoRow.holds Tryd.pinned (OpenSpec.upto readRowsSpec)

/-- 'gatefoldlaw05.ReadParted', WHERE WHAT IT READS IS OF BULK AT MOST 1048576: true; the input reads as it did. -/
def readPartedUptoRow : OpenClaim := { program := "yteginjdgapjadaadoor", sum := "279d30f5b0f035e1887404c6d91b962fedf7e375a97c3c7329ea1f5b3379564d", func := "gatefold/gatefoldlaw05.ReadParted", spec := "readParted", unfollowed := true, recurses := true, named := ["unicode/utf8.first", "unicode/utf8.acceptRanges"], apart := false, laid := [("unicode/utf8.acceptRanges", laid_unicode_utf8_acceptRanges), ("unicode/utf8.first", laid_unicode_utf8_first)], narrowed := true }
def ReadPartedUptoSaid : Prop := readPartedUptoRow.holds Tryd.pinned (OpenSpec.upto readPartedSpec)

end Rows
end Go.Proofs.YteginjdgapjadaaDoor
