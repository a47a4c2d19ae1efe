import Derived.Test.YtdjnaejblgheoaaGreatJP20
/- The document's answer for package flow: one node, and all within it. (Written by program: tools/drafts/genflow14.py.) -/
namespace Go.Proofs.YtdjnaejblgheoaaGreat
open Go.RowKit
set_option linter.unusedVariables false
set_option linter.unusedSimpArgs false
end Go.Proofs.YtdjnaejblgheoaaGreat
