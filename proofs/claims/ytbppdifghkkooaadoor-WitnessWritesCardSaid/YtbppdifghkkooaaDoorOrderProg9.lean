/- The contracts of the package order: gateOrder and Check. -/
import Derived.Test.YtbppdifghkkooaaDoorOrderProg7
import Derived.Test.YtbppdifghkkooaaDoorOrderProg4
import Derived.Test.YtbppdifghkkooaaDoorOrderProg5
namespace Go.Proofs.YtbppdifghkkooaaDoor
open Go.RowKit
set_option linter.unusedVariables false
set_option linter.unusedSimpArgs false