/- The contract of clause.Resolve. -/
import Derived.Test.YtcmdongdjacgbaaClProg3
namespace Go.Proofs.Ytcmdongdjacgbaa
open Go Go.RowKit Go.Lib Go.Sort
set_option linter.unusedVariables false
set_option linter.unusedSimpArgs false

end Go.Proofs.Ytcmdongdjacgbaa
