import Derived.Test.YtdjnaejblgheoaaGreatJP10
/- The document's answers for package place: Spot. (Written by program: tools/drafts/genspot11.py.) -/
namespace Go.Proofs.YtdjnaejblgheoaaGreat
open Go.RowKit
set_option linter.unusedVariables false
set_option linter.unusedSimpArgs false
end Go.Proofs.YtdjnaejblgheoaaGreat
