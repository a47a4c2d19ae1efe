import Derived.Test.YtideikbijjheeaaPlaceSpotsW
import Derived.Test.YtideikbijjheeaaPlaceSays
/- The walk of the law PlaceSpots, for the program's package place. -/
namespace Go.Proofs.Ytideikbijjheeaa
open Go.RowKit
theorem placespots_law (A : Option Addr) (n c : Nat) (l : List Fl) (f : Fl) (y : Int) (hy : -9223372036854775808 ≤ y ∧ y ≤ 9223372036854775807) (a : Int) (ha : -9223372036854775808 ≤ a ∧ a ≤ 9223372036854775807) (b : Int) (hb : -9223372036854775808 ≤ b ∧ b ≤ 9223372036854775807) (w : World) (hz : Rows 7 encFl w A n l) :
    Calls Try.prog 3 #[.slice A n c, .agg #[.int .i64 f.node, .int .i64 f.side, .int .i64 f.anchor, .int .i64 f.x, .int .i64 f.y, .int .i64 f.w, .int .i64 f.h], .int .i64 y, .agg #[.int .i64 a, .int .i64 b]] w fun e w' => e = .returned (.bool true) ∧ Below w.heap.size w w' := placespots_walk placeSays A n c l f y hy a ha b hb w hz
end Go.Proofs.Ytideikbijjheeaa
