/- Searches of package order: a wrong reset, a literal of a variable that is not defined. -/
import Derived.Test.YtbppdifghkkooaaDoorOrderFind
namespace Go.Proofs.YtbppdifghkkooaaDoor
open Go.RowKit
set_option linter.unusedVariables false
set_option linter.unusedSimpArgs false