/- The contracts of clause.isCount, isLit, Check, Make. -/
import Derived.Test.YtcmdongdjacgbaaClMem
import Derived.Test.YtcmdongdjacgbaaValuesRef
namespace Go.Proofs.Ytcmdongdjacgbaa
open Go Go.RowKit
set_option linter.unusedVariables false
set_option linter.unusedSimpArgs false

end Go.Proofs.Ytcmdongdjacgbaa
