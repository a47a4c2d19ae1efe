import Derived.Test.YtdjnaejblgheoaaGreatJP03
/- The document's answers for package bands: the next height, the lowest float, the greatest top. (Written by program: tools/drafts/genbands3.py.) -/
namespace Go.Proofs.YtdjnaejblgheoaaGreat
open Go.RowKit
set_option linter.unusedVariables false
set_option linter.unusedSimpArgs false
theorem ret_pair {a b : Int} {x y : Bool} (h : (a, x) = (b, y)) : Ending.returned (.tuple #[.int .i64 a, .bool x]) = .returned (.tuple #[.int .i64 b, .bool y]) := by injection h with h1 h2; rw [h1, h2]
end Go.Proofs.YtdjnaejblgheoaaGreat
