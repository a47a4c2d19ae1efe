/-
  No cell of these rows narrows 'for every input' (looked for: loops, veiled, ifaces, maps, wideKeys, modest, calm, conditions, laid).
  DERIVED. THE GIVEN ROWS OF THIS SEAT. 3 by the template 'for every input the law returns true; each argument reads behind the call as it read before'; 0 by the template 'total and deterministic' (their statements: YtakdopblggkfnaaTotals.lean).
  GIVEN WITH THE SEED: the statements are not yours to turn. If you find one false, say at which input.
  Laid BY PROGRAM, IN A SANDBOX (cutbox-rows.mjs): the forced cells as the released guide's own fill.sh prints them over the translation c4e0194c6ce31e43… (all of the seat's roots in one cut). By AI agents, Wed Nov 11 2026. No macro, syntax, notation, axiom, sorry.
-/
import Derived.Test.YtakdopblggkfnaaChecked
import GoSem.Claim
import GoSem.ClaimJoined
import GoSem.ClaimMapViews
import Derived.JoinedTies
import Derived.KernelRfl
namespace Go.Proofs.Ytakdopblggkfnaa
/- THE CELL 'sum', in the pinned program and in every row, IS THE sha256 OF THE DUMP (.gsa) THAT YtakdopblggkfnaaProg.lean LOADS. Nothing in Lean hashes anything: it is a label: what it is worth is what the hold of that sum in a sandbox is worth. -/
noncomputable def Try.pinned : Pinned := { name := "ytakdopblggkfnaa", sum := "c4e0194c6ce31e43e93a05d11f52ffd36cad8c19f4512f7fefee00ff3c275b70", checked := Try.checked }
namespace Rows
def none {H : Type} : Left H := { results := [], args := [] }

/-- 'gatefoldlaw09.WordsLines': WHATEVER THE INPUT: true; the input reads as it did. -/
def wordsLinesSpec : ChangeSpec := { name := "wordsLines", fn := fun _ => fun
  | [d1, d2, d3, d4, d5] => { results := [.lit (.bool true)], args := [d1, d2, d3, d4, d5] }
  | _ => none }
def wordsLinesRow : OpenClaim := { program := "ytakdopblggkfnaa", sum := "c4e0194c6ce31e43e93a05d11f52ffd36cad8c19f4512f7fefee00ff3c275b70", func := "gatefold/gatefoldlaw09.WordsLines", spec := "wordsLines", unfollowed := true, recurses := true, apart := false }
def WordsLinesSaid : Prop := wordsLinesRow.holds Try.pinned (OpenSpec.ofChange wordsLinesSpec)

/-- ITS FALSE NEIGHBOUR: 'it returns false'. Refute it at one input. -/
def wordsLinesWrong : ChangeSpec := { name := "wordsLines", fn := fun _ => fun
  | [d1, d2, d3, d4, d5] => { results := [.lit (.bool false)], args := [d1, d2, d3, d4, d5] }
  | _ => none }
def WordsLinesWrongFalsely : Prop := wordsLinesRow.holds Try.pinned (OpenSpec.ofChange wordsLinesWrong)

/-- 'gatefoldlaw09.WordsParted': WHATEVER THE INPUT: true; the input reads as it did. -/
def wordsPartedSpec : ChangeSpec := { name := "wordsParted", fn := fun _ => fun
  | [d1, d2, d3] => { results := [.lit (.bool true)], args := [d1, d2, d3] }
  | _ => none }
def wordsPartedRow : OpenClaim := { program := "ytakdopblggkfnaa", sum := "c4e0194c6ce31e43e93a05d11f52ffd36cad8c19f4512f7fefee00ff3c275b70", func := "gatefold/gatefoldlaw09.WordsParted", spec := "wordsParted", unfollowed := true, recurses := true, apart := false }
def WordsPartedSaid : Prop := wordsPartedRow.holds Try.pinned (OpenSpec.ofChange wordsPartedSpec)

/-- ITS FALSE NEIGHBOUR: 'it returns false'. Refute it at one input. -/
def wordsPartedWrong : ChangeSpec := { name := "wordsParted", fn := fun _ => fun
  | [d1, d2, d3] => { results := [.lit (.bool false)], args := [d1, d2, d3] }
  | _ => none }
def WordsPartedWrongFalsely : Prop := wordsPartedRow.holds Try.pinned (OpenSpec.ofChange wordsPartedWrong)

/-- 'gatefoldlaw09.WordsFewest': WHATEVER THE INPUT: true; the input reads as it did. -/
def wordsFewestSpec : ChangeSpec := { name := "wordsFewest", fn := fun _ => fun
  | [d1, d2, d3, d4, d5] => { results := [.lit (.bool true)], args := [d1, d2, d3, d4, d5] }
  | _ => none }
def wordsFewestRow : OpenClaim := { program := "ytakdopblggkfnaa", sum := "c4e0194c6ce31e43e93a05d11f52ffd36cad8c19f4512f7fefee00ff3c275b70", func := "gatefold/gatefoldlaw09.WordsFewest", spec := "wordsFewest", unfollowed := true, recurses := true, apart := false }
def WordsFewestSaid : Prop := wordsFewestRow.holds Try.pinned (OpenSpec.ofChange wordsFewestSpec)

/-- ITS FALSE NEIGHBOUR: 'it returns false'. Refute it at one input. -/
def wordsFewestWrong : ChangeSpec := { name := "wordsFewest", fn := fun _ => fun
  | [d1, d2, d3, d4, d5] => { results := [.lit (.bool false)], args := [d1, d2, d3, d4, d5] }
  | _ => none }
def WordsFewestWrongFalsely : Prop := wordsFewestRow.holds Try.pinned (OpenSpec.ofChange wordsFewestWrong)

/- THE SECOND FORM. 'bulk': how many values and letters a reading holds, each counted each time it is reached (what is shared counts as often as it is met; a slice's spare places count too). A statement '..UptoSaid' is the law's where the arguments, and the package variables that the reading takes, are together of bulk at most 1048576: NARROWER than '..Said'. Prove '..Said' where nothing that the law and all that it calls make is longer than what came in: it says more and counts as full. Else prove '..UptoSaid'. A law counts once. -/
mutual
def uptoBulk {H : Type} : DataW H → Nat
  | .lit (.string bytes) => bytes.length + 1
  | .lit _ => 1
  | .nil => 1
  | .ptr d => uptoBulk d + 1
  | .slice elems spare => uptoBulkAll elems + uptoBulkAll spare + 1
  | .agg parts => uptoBulkAll parts + 1
  | .iface _ d => uptoBulk d + 1
  | .map entries => uptoBulkEntries entries + 1
  | .held _ => 1
def uptoBulkAll {H : Type} : List (DataW H) → Nat
  | [] => 0
  | d :: r => uptoBulk d + uptoBulkAll r
def uptoBulkEntries {H : Type} : List (Lit × DataW H) → Nat
  | [] => 0
  | x :: r => uptoBulkEntry x + uptoBulkEntries r
def uptoBulkEntry {H : Type} : Lit × DataW H → Nat
  | (.string bytes, d) => bytes.length + uptoBulk d + 1
  | (_, d) => uptoBulk d + 1
 end
def uptoSmall : (H : Type) → List (DataW H) → Bool := fun _ ds => decide (uptoBulkAll ds ≤ 1048576)
def OpenSpec.upto (s : _root_.Go.ChangeSpec) : _root_.Go.OpenSpec := { _root_.Go.OpenSpec.ofChange s with cond := some uptoSmall }

/-- 'gatefoldlaw09.WordsLines', WHERE WHAT IT READS IS OF BULK AT MOST 1048576: true; the input reads as it did. -/
def wordsLinesUptoRow : OpenClaim := { program := "ytakdopblggkfnaa", sum := "c4e0194c6ce31e43e93a05d11f52ffd36cad8c19f4512f7fefee00ff3c275b70", func := "gatefold/gatefoldlaw09.WordsLines", spec := "wordsLines", unfollowed := true, recurses := true, apart := false, narrowed := true }
def WordsLinesUptoSaid : Prop := wordsLinesUptoRow.holds Try.pinned (OpenSpec.upto wordsLinesSpec)

/-- 'gatefoldlaw09.WordsParted', WHERE WHAT IT READS IS OF BULK AT MOST 1048576: true; the input reads as it did. -/
def wordsPartedUptoRow : OpenClaim := { program := "ytakdopblggkfnaa", sum := "c4e0194c6ce31e43e93a05d11f52ffd36cad8c19f4512f7fefee00ff3c275b70", func := "gatefold/gatefoldlaw09.WordsParted", spec := "wordsParted", unfollowed := true, recurses := true, apart := false, narrowed := true }
def WordsPartedUptoSaid : Prop := wordsPartedUptoRow.holds Try.pinned (OpenSpec.upto wordsPartedSpec)

/-- 'gatefoldlaw09.WordsFewest', WHERE WHAT IT READS IS OF BULK AT MOST 1048576: true; the input reads as it did. -/
def wordsFewestUptoRow : OpenClaim := { program := "ytakdopblggkfnaa", sum := "c4e0194c6ce31e43e93a05d11f52ffd36cad8c19f4512f7fefee00ff3c275b70", func := "gatefold/gatefoldlaw09.WordsFewest", spec := "wordsFewest", unfollowed := true, recurses := true, apart := false, narrowed := true }
def WordsFewestUptoSaid : Prop := wordsFewestUptoRow.holds Try.pinned (OpenSpec.upto wordsFewestSpec)

end Rows
end Go.Proofs.Ytakdopblggkfnaa
