import Derived.Handy
/- A quotient of a number below zero. Nothing of the program stands here. -/
namespace Go.Proofs.Ytkbpiekmphcdnaa
theorem tdiv_low {h high : Int} (h1 : h < 0) (h2 : 0 < high) : h ≤ h.tdiv high ∧ h.tdiv high ≤ 0 := by
  have e : h.tdiv high = -((-h) / high) := by
    rw [show h = -(-h) by omega, Int.neg_tdiv, Int.tdiv_eq_ediv_of_nonneg (by omega), Int.neg_neg]
  have k0 := Int.ediv_nonneg (show 0 ≤ -h by omega) (show 0 ≤ high by omega)
  have k1 := Int.ediv_le_self high (show 0 ≤ -h by omega)
  rw [e]; omega
end Go.Proofs.Ytkbpiekmphcdnaa
