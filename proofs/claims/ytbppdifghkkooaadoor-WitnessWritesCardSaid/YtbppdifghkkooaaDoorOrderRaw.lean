/- order.Raw and the reference's Raw: a circuit as a raw one. -/
import Derived.Test.YtbppdifghkkooaaDoorOrderRef
import Derived.Test.YtbppdifghkkooaaDoorOrderMem
import Derived.Test.YtbppdifghkkooaaDoorHeadTail
import Derived.Test.YtbppdifghkkooaaDoorGatesProg2
import Derived.Deep.AppendLies
import Derived.Lib.SliceRun
import Derived.Deep.DeepCutAuto
import Derived.StillTailTactics
namespace Go.Proofs.YtbppdifghkkooaaDoor
open Go.RowKit
set_option linter.unusedVariables false
set_option linter.unusedSimpArgs false

/-- the raw circuit of a circuit -/
def Cr.raw (c : Cr) : Rw := ⟨c.sz, c.i.toNat, c.nl, c.na, c.nb, c.nc, fun j => 2 * (1 + j), fun j => 2 * (1 + c.i + j), c.nx, c.rs, fun j => 2 * (1 + c.i + c.nl + j), c.ga, c.gb, c.bd, c.cn⟩