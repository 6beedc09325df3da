/- The reference's contract: Resolve. -/
import Derived.Test.YtcmdongdjacgbaaClRef4
namespace Go.Proofs.Ytcmdongdjacgbaa
open Go Go.RowKit
set_option linter.unusedVariables false
set_option linter.unusedSimpArgs false

/-- the other literals of one clause -/
theorem wo_one {n : Int} {l : List Int} {x y : Int} (ho : OkC n l) (hy : y ∈ l) (e : y / 2 = x) : (l.filter fun z => !decide (z = y)) = l.filter fun z => !decide (z / 2 = x) := by
  refine List.filter_congr fun z hz => ?_
  congr 1
  rw [Bool.eq_iff_iff, decide_eq_true_iff, decide_eq_true_iff]
  exact ⟨fun h => by rw [h]; exact e, fun h => ho.one hz hy (by omega)⟩
theorem rv_split (a b : List Int) (x : Int) : rvL a b x = (a.filter fun z => !decide (z / 2 = x)) ++ b.filter fun z => !decide (z / 2 = x) := by unfold rvL; rw [List.filter_append]

end Go.Proofs.Ytcmdongdjacgbaa
