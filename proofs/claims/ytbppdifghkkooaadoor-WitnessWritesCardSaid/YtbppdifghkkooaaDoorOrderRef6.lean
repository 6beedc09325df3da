/- The reference of layer 3: Check. -/
import Derived.Test.YtbppdifghkkooaaDoorOrderRef5
import Derived.Test.YtbppdifghkkooaaDoorOrderTm
namespace Go.Proofs.YtbppdifghkkooaaDoor
open Go.RowKit
set_option linter.unusedVariables false
set_option linter.unusedSimpArgs false