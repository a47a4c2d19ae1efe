import Derived.Test.YtamakeogaipdiaaJB00
/- The walk of the law KinOnce, for the program's package kin. -/
namespace Go.Proofs.Ytamakeogaipdiaa
set_option linter.unusedVariables false
open Go.RowKit
theorem kinonce_law (A : Option Addr) (n c : Nat) (L : List Nd) (hc : n ≤ c ∧ c ≤ 9223372036854775807) (B : Option Addr) (m d : Nat) (of : List Int) (hof : ∀ z ∈ of, (Lit.int .i64 z).wf = true) (w : World) (hS : Sees w A n L) (hI : Ints w B m of) :
    Calls Try.prog 4 #[.slice A n c, .slice B m d] w fun e w' => e = .returned (.bool true) ∧ Below w.heap.size w w' := kinonce_all hS hI
end Go.Proofs.Ytamakeogaipdiaa
