import Derived.Test.YtdjnaejblgheoaaGreatJP41
import Derived.Test.YtdjnaejblgheoaaGreatJP40
/- The walk of the law FlowApart, for the program's package flow. -/
namespace Go.Proofs.YtdjnaejblgheoaaGreat
set_option linter.unusedVariables false
open Go.RowKit
theorem flowapart_law (A : Option Addr) (n c : Nat) (l : List Nd) (hc : n ≤ c ∧ c ≤ 9223372036854775807) (wd : Int) (hwd : -9223372036854775808 ≤ wd ∧ wd ≤ 9223372036854775807) (w : World) (hl : Sees w A n l) :
    Calls Tryz.prog 5 #[.slice A n c, .int .i64 wd] w fun e w' => e = .returned (.bool true) ∧ Below w.heap.size w w' := flowapart_all flowSays hl
end Go.Proofs.YtdjnaejblgheoaaGreat
