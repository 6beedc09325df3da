/- The contracts of the package order: hasRightLiterals. -/
import Derived.Test.YtbppdifghkkooaaDoorOrderProg3
import Derived.Test.YtbppdifghkkooaaDoorHeadTail
import Derived.Test.YtbppdifghkkooaaDoorOrderRef5
namespace Go.Proofs.YtbppdifghkkooaaDoor
open Go.RowKit
set_option linter.unusedVariables false
set_option linter.unusedSimpArgs false

end Go.Proofs.YtbppdifghkkooaaDoor
