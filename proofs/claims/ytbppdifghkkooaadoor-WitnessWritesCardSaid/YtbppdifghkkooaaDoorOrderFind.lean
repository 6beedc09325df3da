/- Searches of package order: contracts of IndexFunc and ContainsFunc at its closures. -/
import Derived.Test.YtbppdifghkkooaaDoorOrderProg
import Derived.Test.YtbppdifghkkooaaDoorGatesProg2
namespace Go.Proofs.YtbppdifghkkooaaDoor
open Go.RowKit
set_option linter.unusedVariables false
set_option linter.unusedSimpArgs false