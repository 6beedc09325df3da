/- The contracts of clause.isCount, isLit, Check, Make. -/
import Derived.Test.YtcefphdabomlpaaClMem
import Derived.Test.YtcefphdabomlpaaValuesRef
namespace Go.Proofs.Ytcefphdabomlpaa
open Go Go.RowKit
set_option linter.unusedVariables false
set_option linter.unusedSimpArgs false

end Go.Proofs.Ytcefphdabomlpaa
