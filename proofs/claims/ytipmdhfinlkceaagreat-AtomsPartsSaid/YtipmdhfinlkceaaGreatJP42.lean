import Derived.Test.YtipmdhfinlkceaaGreatJP41
/- AtomsPartsL. -/
set_option linter.unusedVariables false
set_option linter.unusedSimpArgs false
namespace Go.Proofs.YtipmdhfinlkceaaGreat
open Go.RowKit
theorem atomsparts_law (A : Option Addr) (n c : Nat) (l : List Nd) (hc : n ≤ c ∧ c ≤ 9223372036854775807) (wd : Int) (hwd : -9223372036854775808 ≤ wd ∧ wd ≤ 9223372036854775807) (nd : Int) (hnd : -9223372036854775808 ≤ nd ∧ nd ≤ 9223372036854775807) (ct : Int) (hct : -9223372036854775808 ≤ ct ∧ ct ≤ 9223372036854775807) (w : World) (hl : Sees w A n l) :
    Calls Tryz.prog 3 #[.slice A n c, .int .i64 wd, .int .i64 nd, .int .i64 ct] w fun e w' => e = .returned (.bool true) ∧ Below w.heap.size w w' := atomsparts_all hl
end Go.Proofs.YtipmdhfinlkceaaGreat
