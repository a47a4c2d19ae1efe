import Derived.Test.YtikpbgkjghcidaaMarginRunP
/- What package margin is asked to say, the program says. -/
namespace Go.Proofs.Ytikpbgkjghcidaa
open Go.RowKit
theorem marginSays : MarginSays where
  at_ := fun hy hm => at13_to hy hm
  enter := fun hv hy hm ha hd => enter13_top hv hy hm ha hd
  leave := fun hv hy hm ha hd => leave13_top hv hy hm ha hd
  clear := fun hv hy hm ha => clear13_top hv hy hm ha
  put := fun ha hd => put13_top ha hd
  run := fun hv hz hy hm hn hn2 h => run13_top hv hz hy hm hn hn2 h
end Go.Proofs.Ytikpbgkjghcidaa
