import Derived.Test.YtikpbgkjghcidaaMarginStepsW
import Derived.Test.YtikpbgkjghcidaaMarginSays
/- The walk of the law MarginSteps, for the program's package margin. -/
namespace Go.Proofs.Ytikpbgkjghcidaa
open Go.RowKit
set_option linter.unusedVariables false
theorem marginsteps_law (y : Int) (hy : -9223372036854775808 ≤ y ∧ y ≤ 9223372036854775807) (m : Int) (hm : -9223372036854775808 ≤ m ∧ m ≤ 9223372036854775807) (A : Option Addr) (n c : Nat) (l : List Stp) (a : Int) (ha : -9223372036854775808 ≤ a ∧ a ≤ 9223372036854775807) (b : Int) (hb : -9223372036854775808 ≤ b ∧ b ≤ 9223372036854775807) (w : World) (hz : Rows 3 encSt w A n l) :
    Calls Try.prog 3 #[.agg #[.int .i64 y, .int .i64 m], .slice A n c, .int .i64 a, .int .i64 b] w fun e w' => e = .returned (.bool true) ∧ Below w.heap.size w w' := marginsteps_all marginSays hz
end Go.Proofs.Ytikpbgkjghcidaa
