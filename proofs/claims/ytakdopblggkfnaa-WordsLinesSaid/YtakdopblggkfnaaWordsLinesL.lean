import Derived.Test.YtakdopblggkfnaaWordsLinesW
import Derived.Test.YtakdopblggkfnaaWordsSays
/- The walk of the law WordsLines, for the program's package words. -/
namespace Go.Proofs.Ytakdopblggkfnaa
open Go.RowKit
theorem wordslines_law (A : Option Addr) (n c : Nat) (zs : List Int) (zs0 : ∀ z ∈ zs, (Lit.int .i64 z).wf = true) (sp : Int) (hsp : -9223372036854775808 ≤ sp ∧ sp ≤ 9223372036854775807) (wd : Int) (hwd : -9223372036854775808 ≤ wd ∧ wd ≤ 9223372036854775807)
    (a : Int) (ha : -9223372036854775808 ≤ a ∧ a ≤ 9223372036854775807) (b : Int) (hb : -9223372036854775808 ≤ b ∧ b ≤ 9223372036854775807) (w : World) (hz : Ints w A n zs) :
    Calls Try.prog 3 #[.slice A n c, .int .i64 sp, .int .i64 wd, .int .i64 a, .int .i64 b] w fun e w' => e = .returned (.bool true) ∧ Below w.heap.size w w' := wordslines_walk wordsSays A n c zs zs0 sp hsp wd hwd a ha b hb w hz
end Go.Proofs.Ytakdopblggkfnaa
