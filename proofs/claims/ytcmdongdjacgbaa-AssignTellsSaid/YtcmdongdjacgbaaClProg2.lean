/- The contracts of clause.Make, True, checkBoth, Implies. -/
import Derived.Test.YtcmdongdjacgbaaClSl
namespace Go.Proofs.Ytcmdongdjacgbaa
open Go Go.RowKit Go.Lib Go.Sort
set_option linter.unusedVariables false
set_option linter.unusedSimpArgs false

theorem any_not (v : Int) (l : List Int) : (l.any fun x => !isL v x) = !allL v l := by
  unfold allL; rw [List.all_eq_not_any_not, Bool.not_not]

/-- what a function that makes a list returns, with what comes behind -/
def LsIs3 (l : List Int) (b : Bool) (e3 : Int) (w : World) (e : Ending) (w' : World) : Prop := ∃ A k, e = .returned (.tuple #[.slice A l.length k, .bool b, .int .i64 e3]) ∧ Ia w' w'.heap.size A l k ∧ Below w.heap.size w w'

end Go.Proofs.Ytcmdongdjacgbaa
