/- The contracts of the package order: used, hasRightLiterals, hasWrongReset over a list. -/
import Derived.Test.YtbppdifghkkooaaDoorOrderFind
namespace Go.Proofs.YtbppdifghkkooaaDoor
open Go.RowKit
set_option linter.unusedVariables false
set_option linter.unusedSimpArgs false

theorem twos_succ (f g : Nat → Int) (q : Nat) : il (twos f g (q + 1)) = il (twos f g q) ++ [.int .i64 (f q), .int .i64 (g q)] := by
  rw [twos, il_app]; rfl