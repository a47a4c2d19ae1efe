import Derived.Test.YtipmdhfinlkceaaJW29
/- AtomsSumsL. -/
set_option linter.unusedVariables false
set_option linter.unusedSimpArgs false
namespace Go.Proofs.Ytipmdhfinlkceaa
open Go.RowKit
theorem atomssums_law (A : Option Addr) (n c : Nat) (l : List Am) (i : Int) (hi : -9223372036854775808 ≤ i ∧ i ≤ 9223372036854775807) (j : Int) (hj : -9223372036854775808 ≤ j ∧ j ≤ 9223372036854775807) (q : Int) (hq : -9223372036854775808 ≤ q ∧ q ≤ 9223372036854775807) (w : World) (h : Rows 8 encAm w A n l) :
    Calls Try.prog 4 #[.slice A n c, .int .i64 i, .int .i64 j, .int .i64 q] w fun e w' => e = .returned (.bool true) ∧ Below w.heap.size w w' := atomssums_all hi hj hq h
end Go.Proofs.Ytipmdhfinlkceaa
