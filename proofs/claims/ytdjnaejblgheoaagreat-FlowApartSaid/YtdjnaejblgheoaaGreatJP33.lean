import Derived.Test.YtdjnaejblgheoaaGreatJP25
import Derived.Test.YtdjnaejblgheoaaGreatJP00
import Derived.Test.YtdjnaejblgheoaaGreatJP01
import Derived.BigQuiet
/- The document's answers for package valid: Count. (Written by program: tools/drafts/genrefcnt2.py.) -/
namespace Go.Proofs.YtdjnaejblgheoaaGreat
open Go.RowKit
set_option linter.unusedVariables false
set_option linter.unusedSimpArgs false
end Go.Proofs.YtdjnaejblgheoaaGreat
