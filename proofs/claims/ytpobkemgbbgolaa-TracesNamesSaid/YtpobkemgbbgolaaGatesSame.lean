/- The contracts of the reference's comparisons and copies. -/
import Derived.Test.YtpobkemgbbgolaaGatesMem
import Derived.Deep.AppendLies
import Derived.Maps.AppendAt
namespace Go.Proofs.Ytpobkemgbbgolaa
open Go.RowKit
set_option linter.unusedVariables false

theorem below_dn {B : Nat} {a w : World} (h : Below B a w) (n : Nat) : Below B a (w.drewN n) := ⟨h.os, h.tape, h.output, h.size, h.block⟩

/-- two lists of numbers that agree -/
def sameB (n m : Nat) (f g : Nat → Int) : Bool := decide (n = m ∧ ∀ j, j < n → f j = g j)
theorem sameB_no {n m : Nat} {f g : Nat → Int} (h : n ≠ m) : sameB n m f g = false := decide_eq_false fun h' => h h'.1
theorem sameB_no2 {n m k : Nat} {f g : Nat → Int} (hk : k < n) (h : f k ≠ g k) : sameB n m f g = false := decide_eq_false fun h' => h (h'.2 k hk)
theorem sameB_yes {n : Nat} {f g : Nat → Int} (h : ∀ j, j < n → f j = g j) : sameB n n f g = true := decide_eq_true ⟨rfl, h⟩