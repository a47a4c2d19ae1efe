import Derived.Test.YtghcahkdfpahbaaBandsTellW
import Derived.Test.YtghcahkdfpahbaaBandsSays
/- The walk of the law BandsTell, for the program's package bands. -/
namespace Go.Proofs.Ytghcahkdfpahbaa
open Go.RowKit
theorem bandstell_law (A : Option Addr) (n c : Nat) (l : List Fl) (y : Int) (hy : -9223372036854775808 ≤ y ∧ y ≤ 9223372036854775807) (high : Int) (hh : -9223372036854775808 ≤ high ∧ high ≤ 9223372036854775807)
    (a : Int) (ha : -9223372036854775808 ≤ a ∧ a ≤ 9223372036854775807) (b : Int) (hb : -9223372036854775808 ≤ b ∧ b ≤ 9223372036854775807) (sides : Int) (hsd : -9223372036854775808 ≤ sides ∧ sides ≤ 9223372036854775807) (w : World) (hz : Rows 7 encFl w A n l) :
    Calls Try.prog 3 #[.slice A n c, .int .i64 y, .int .i64 high, .agg #[.int .i64 a, .int .i64 b], .int .i64 sides] w fun e w' => e = .returned (.bool true) ∧ Below w.heap.size w w' := bandstell_walk bandsSays A n c l y hy high hh a ha b hb sides hsd w hz
end Go.Proofs.Ytghcahkdfpahbaa
