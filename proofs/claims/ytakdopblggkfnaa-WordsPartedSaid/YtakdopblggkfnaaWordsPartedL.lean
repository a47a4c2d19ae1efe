import Derived.Test.YtakdopblggkfnaaWordsPartedW
import Derived.Test.YtakdopblggkfnaaWordsSays
/- The walk of the law WordsParted, for the program's package words. -/
namespace Go.Proofs.Ytakdopblggkfnaa
open Go.RowKit
theorem wordsparted_law (A : Option Addr) (n c : Nat) (zs : List Int) (zs0 : ∀ z ∈ zs, (Lit.int .i64 z).wf = true) (sp : Int) (hsp : -9223372036854775808 ≤ sp ∧ sp ≤ 9223372036854775807) (wd : Int) (hwd : -9223372036854775808 ≤ wd ∧ wd ≤ 9223372036854775807)
    (w : World) (hz : Ints w A n zs) :
    Calls Try.prog 4 #[.slice A n c, .int .i64 sp, .int .i64 wd] w fun e w' => e = .returned (.bool true) ∧ Below w.heap.size w w' := wordsparted_walk wordsSays A n c zs zs0 sp hsp wd hwd w hz
end Go.Proofs.Ytakdopblggkfnaa
