/- The reference's contracts: Without, Make, Implies, Resolve. -/
import Derived.Test.YtcmdongdjacgbaaClRef3
import Derived.Test.YtcmdongdjacgbaaClProg5
namespace Go.Proofs.Ytcmdongdjacgbaa
open Go Go.RowKit
set_option linter.unusedVariables false
set_option linter.unusedSimpArgs false

theorem wo_succ {l : List Int} {j : Nat} (hj : j < l.length) (p : Int → Bool) : (l.take (j + 1)).filter p = (l.take j).filter p ++ (if p (l.getD j 0) = true then [l.getD j 0] else []) := by
  rw [List.take_succ_eq_append_getElem hj, List.filter_append, getD_at hj]
  congr 1
  by_cases h : p l[j] = true <;> simp [h]

end Go.Proofs.Ytcmdongdjacgbaa
