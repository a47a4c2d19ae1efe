import Derived.Handy
/- Spans as pairs of numbers: what each function of package span answers. Nothing of the program stands here. -/
namespace Go.Proofs.Ytideikbijjheeaa
set_option linter.unusedVariables false

def tidyS (s : Int × Int) : Int × Int := if s.2 ≤ s.1 then (0, 0) else s
def meetS (a b : Int × Int) : Int × Int := tidyS (max a.1 b.1, min a.2 b.2)
def lenS (s : Int × Int) : Int := if s.2 ≤ s.1 then 0 else s.2 - s.1

theorem tidyS_none {s : Int × Int} (h : s.2 ≤ s.1) : tidyS s = (0, 0) := if_pos h
theorem tidyS_some {s : Int × Int} (h : s.1 < s.2) : tidyS s = s := if_neg (by omega)
end Go.Proofs.Ytideikbijjheeaa
