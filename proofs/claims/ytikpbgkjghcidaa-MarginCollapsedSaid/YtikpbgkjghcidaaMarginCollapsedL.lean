import Derived.Test.YtikpbgkjghcidaaMarginCollapsedW
import Derived.Test.YtikpbgkjghcidaaMarginSays
/- The walk of the law MarginCollapsed, for the program's package margin. -/
namespace Go.Proofs.Ytikpbgkjghcidaa
open Go.RowKit
set_option linter.unusedVariables false
theorem margincollapsed_law (y : Int) (hy : -9223372036854775808 ≤ y ∧ y ≤ 9223372036854775807) (m : Int) (hm : -9223372036854775808 ≤ m ∧ m ≤ 9223372036854775807) (A : Option Addr) (n c : Nat) (zs : List Int) (hw : ∀ z ∈ zs, (Lit.int .i64 z).wf = true) (high : Int) (hh : -9223372036854775808 ≤ high ∧ high ≤ 9223372036854775807) (w : World) (hz : Ints w A n zs) :
    Calls Try.prog 4 #[.agg #[.int .i64 y, .int .i64 m], .slice A n c, .int .i64 high] w fun e w' => e = .returned (.bool true) ∧ Below w.heap.size w w' := margincollapsed_all marginSays hz
end Go.Proofs.Ytikpbgkjghcidaa
