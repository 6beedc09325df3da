/- The reference of layer 3: used literals, numbers. -/
import Derived.Test.YtbppdifghkkooaaDoorOrderRef
import Derived.Test.YtbppdifghkkooaaDoorHeadTail
import Derived.Deep.AppendLies
namespace Go.Proofs.YtbppdifghkkooaaDoor
open Go.RowKit
set_option linter.unusedVariables false
set_option linter.unusedSimpArgs false