/- The contract of the reference's Twin of a raw circuit: the same numbers in memory of its own; and its comparison of any two raw circuits. -/
import Derived.Test.YtbppdifghkkooaaDoorOrderRaw
namespace Go.Proofs.YtbppdifghkkooaaDoor
open Go.RowKit
set_option linter.unusedVariables false
set_option linter.unusedSimpArgs false

/-- two lists of triples that agree -/
def sameD (n m : Nat) (f g h f' g' h' : Nat → Int) : Bool := decide (n = m ∧ ∀ j, j < n → f j = f' j ∧ g j = g' j ∧ h j = h' j)
theorem sameD_no {n m : Nat} {f g h f' g' h' : Nat → Int} (hn : n ≠ m) : sameD n m f g h f' g' h' = false := decide_eq_false fun h' => hn h'.1
theorem sameD_no2 {n m k : Nat} {f g h f' g' h' : Nat → Int} (hk : k < n) (hne : ¬ (f k = f' k ∧ g k = g' k ∧ h k = h' k)) : sameD n m f g h f' g' h' = false := decide_eq_false fun h' => hne (h'.2 k hk)
theorem sameD_yes {n : Nat} {f g h f' g' h' : Nat → Int} (hj : ∀ j, j < n → f j = f' j ∧ g j = g' j ∧ h j = h' j) : sameD n n f g h f' g' h' = true := decide_eq_true ⟨rfl, hj⟩

/-- raw circuits that agree -/
def sameR (r s : Rw) : Bool := decide (r.m = s.m) && (sameB r.ni s.ni r.ip s.ip && (sameD r.nl s.nl r.ll r.la r.lb s.ll s.la s.lb && (sameD r.na s.na r.gl r.ga r.gb s.gl s.ga s.gb && (sameB r.nb s.nb r.bd s.bd && sameB r.nc s.nc r.cn s.cn))))