import Derived.Test.YtnipifccalalhaaDoorRows
import Derived.Test.YtnipifccalalhaaDoorSlices
import Derived.ChangeMaps5
/- A string that comes in. -/
namespace Go.Proofs.YtnipifccalalhaaDoor
open Go.ChangeShapes Go.WideShapes Go.ChangeAt Go.RowKit
set_option linter.unusedVariables false
section
variable {H : Type} {enc : TypeId × Value → H} {W : World}
theorem open_str {base : Nat} {v : Value} {d : DataW H} {p : List MemPlace} (hv : Value.okWide Tryd.prog W .any base 9 v) (h : DataW.Trod enc Tryd.prog W 0 (fun _ => true) true 9 v d p) :
    ∃ s : ByteArray, v = .string s ∧ s.size ≤ 9223372036854775807 := by
  obtain ⟨s, h1, _, _, h4⟩ := Go.ChangeMaps.open_string Tryd.underlying9 hv h
  exact ⟨s, h1, by unfold maxLen at h4; exact h4⟩
end
end Go.Proofs.YtnipifccalalhaaDoor
