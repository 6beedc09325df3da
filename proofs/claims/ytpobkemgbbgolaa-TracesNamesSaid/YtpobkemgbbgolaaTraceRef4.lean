/- The contracts of the reference of traces: States, Allowed, Right, Shows, Witness. -/
import Derived.Test.YtpobkemgbbgolaaTraceRef3
namespace Go.Proofs.Ytpobkemgbbgolaa
open Go.RowKit
set_option linter.unusedVariables false
set_option linter.unusedSimpArgs false

section
variable {c : Cr} {p : Pl} {t : Tr} {q : Tp}

end
