/- The contracts of clause.True, checkBoth, Implies. -/
import Derived.Test.YtcmdongdjacgbaaClProg2
namespace Go.Proofs.Ytcmdongdjacgbaa
open Go Go.RowKit Go.Lib Go.Sort
set_option linter.unusedVariables false
set_option linter.unusedSimpArgs false

def trB (n : Int) (V : Nat → Bool) (l : List Int) : Bool := decide (ckE n l = 0) && trs V l

end Go.Proofs.Ytcmdongdjacgbaa
