import Derived.Test.YtllloonfnbhoeaaJB02
import Derived.Test.YtllloonfnbhoeaaJA24
/- The walk of the law TreeOnce, for the program's package tree. -/
namespace Go.Proofs.Ytllloonfnbhoeaa
open Go.RowKit
theorem treeonce_law (A : Option Addr) (n c : Nat) (l : List Nd) (hc : n ≤ c ∧ c ≤ 9223372036854775807) (w : World) (hl : Sees w A n l) :
    Calls Try.prog 4 #[.slice A n c] w fun e w' => e = .returned (.bool true) ∧ Below w.heap.size w w' := treeonce_walk treeSays A n c l hc w hl
end Go.Proofs.Ytllloonfnbhoeaa
