import Derived.Test.YtdjnaejblgheoaaGreatJO25
import Derived.Test.YtdjnaejblgheoaaGreatJO00
import Derived.Test.YtdjnaejblgheoaaGreatJO01
import Derived.BigQuiet
/- The document's answers for package valid: Count. (Written by program: tools/drafts/genrefcnt2.py.) -/
namespace Go.Proofs.YtdjnaejblgheoaaGreat
open Go.RowKit
set_option linter.unusedVariables false
set_option linter.unusedSimpArgs false
end Go.Proofs.YtdjnaejblgheoaaGreat
