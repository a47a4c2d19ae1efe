import Derived.Test.YtllloonfnbhoeaaJA25
import Derived.Test.YtllloonfnbhoeaaJA24
import Derived.Test.YtllloonfnbhoeaaJA26
/- The walk of the law TreeRooms, for the program's package tree. -/
namespace Go.Proofs.Ytllloonfnbhoeaa
open Go.RowKit
theorem treerooms_law (A : Option Addr) (n c : Nat) (l : List Nd) (hc : n ≤ c ∧ c ≤ 9223372036854775807) (W : Int) (hW : -9223372036854775808 ≤ W ∧ W ≤ 9223372036854775807) (w : World) (hl : Sees w A n l) :
    Calls Try.prog 5 #[.slice A n c, .int .i64 W] w fun e w' => e = .returned (.bool true) ∧ Below w.heap.size w w' := treerooms_walk treeSays A n c l hc W hW w hl
end Go.Proofs.Ytllloonfnbhoeaa
/- The walk of the law TreeTells, for the program's package tree. -/
namespace Go.Proofs.Ytllloonfnbhoeaa
open Go.RowKit
theorem treetells_law (A : Option Addr) (n c : Nat) (l : List Nd) (hc : n ≤ c ∧ c ≤ 9223372036854775807) (a : Int) (ha : -9223372036854775808 ≤ a ∧ a ≤ 9223372036854775807) (b : Int) (hb : -9223372036854775808 ≤ b ∧ b ≤ 9223372036854775807) (W : Int) (hW : -9223372036854775808 ≤ W ∧ W ≤ 9223372036854775807) (w : World) (hl : Sees w A n l) :
    Calls Try.prog 3 #[.slice A n c, .int .i64 a, .int .i64 b, .int .i64 W] w fun e w' => e = .returned (.bool true) ∧ Below w.heap.size w w' := treetells_walk treeSays A n c l hc a ha b hb W hW w hl
end Go.Proofs.Ytllloonfnbhoeaa
