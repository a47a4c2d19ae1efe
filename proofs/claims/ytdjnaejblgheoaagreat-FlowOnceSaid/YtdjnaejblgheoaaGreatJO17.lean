import Derived.Test.YtdjnaejblgheoaaGreatJO08
/- The document's answers for package valid: one node's numbers. (Written by program: tools/drafts/genone.py.) -/
namespace Go.Proofs.YtdjnaejblgheoaaGreat
open Go.RowKit
set_option linter.unusedVariables false
set_option linter.unusedSimpArgs false
end Go.Proofs.YtdjnaejblgheoaaGreat
