import Derived.Test.YtamakeogaipdiaaJA34
/- The walk of the law KinNested, for the program's package kin. -/
namespace Go.Proofs.Ytamakeogaipdiaa
set_option linter.unusedVariables false
open Go.RowKit
theorem kinnested_law (A : Option Addr) (n c : Nat) (L : List Nd) (hc : n ≤ c ∧ c ≤ 9223372036854775807) (B : Option Addr) (m d : Nat) (of : List Int) (hof : ∀ z ∈ of, (Lit.int .i64 z).wf = true) (k : Int) (hk : -9223372036854775808 ≤ k ∧ k ≤ 9223372036854775807) (w : World) (hS : Sees w A n L) (hI : Ints w B m of) :
    Calls Try.prog 5 #[.slice A n c, .slice B m d, .int .i64 k] w fun e w' => e = .returned (.bool true) ∧ Below w.heap.size w w' := kinnested_all hS hI
end Go.Proofs.Ytamakeogaipdiaa
