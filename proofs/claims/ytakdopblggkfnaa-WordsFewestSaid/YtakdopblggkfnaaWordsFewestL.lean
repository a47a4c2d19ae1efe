import Derived.Test.YtakdopblggkfnaaWordsFewestW
import Derived.Test.YtakdopblggkfnaaWordsSays
/- The walk of the law WordsFewest, for the program's package words. -/
namespace Go.Proofs.Ytakdopblggkfnaa
open Go.RowKit
theorem wordsfewest_law (A : Option Addr) (n c : Nat) (zs : List Int) (zs0 : ∀ z ∈ zs, (Lit.int .i64 z).wf = true) (sp : Int) (hsp : -9223372036854775808 ≤ sp ∧ sp ≤ 9223372036854775807) (wd : Int) (hwd : -9223372036854775808 ≤ wd ∧ wd ≤ 9223372036854775807)
    (more : Int) (hmore : -9223372036854775808 ≤ more ∧ more ≤ 9223372036854775807) (A4 : Option Addr) (n4 c4 : Nat) (es : List Int) (es0 : ∀ z ∈ es, (Lit.int .i64 z).wf = true) (w : World) (hz : Ints w A n zs) (hz4 : Ints w A4 n4 es) :
    Calls Try.prog 5 #[.slice A n c, .int .i64 sp, .int .i64 wd, .int .i64 more, .slice A4 n4 c4] w fun e w' => e = .returned (.bool true) ∧ Below w.heap.size w w' := wordsfewest_walk wordsSays A n c zs zs0 sp hsp wd hwd more hmore A4 n4 c4 es es0 w hz hz4
end Go.Proofs.Ytakdopblggkfnaa
