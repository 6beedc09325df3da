/- slices.Grow of nil, slices.Concat of lists of ints. -/
import Derived.Test.YtecmldnigohjfabDoorAppKit
import Derived.Test.YtecmldnigohjfabDoorGatesMore
import Derived.Lib.AppendZerosOnto
namespace Go.Proofs.YtecmldnigohjfabDoor
open Go.RowKit Go.Lib
set_option linter.unusedVariables false
set_option linter.unusedSimpArgs false

/-- the lengths of the first q lists, and what they hold -/
def isum (n : Nat → Nat) : Nat → Nat
  | 0 => 0
  | q + 1 => isum n q + n q
def icat (n : Nat → Nat) (f : Nat → Nat → Int) : Nat → List Value
  | 0 => []
  | q + 1 => icat n f q ++ intL (f q) (n q)
theorem isum_le (n : Nat → Nat) {m q : Nat} (h : q ≤ m) : isum n q ≤ isum n m := by
  induction m with
  | zero => obtain rfl : q = 0 := by omega
            exact Nat.le_refl _
  | succ m ih =>
    rcases Nat.lt_or_ge q (m + 1) with h' | h'
    · exact Nat.le_trans (ih (by omega)) (by rw [isum]; omega)
    · obtain rfl : q = m + 1 := by omega
      exact Nat.le_refl _