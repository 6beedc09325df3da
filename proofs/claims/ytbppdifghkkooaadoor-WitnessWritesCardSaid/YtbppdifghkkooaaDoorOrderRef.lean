/- The reference of layer 3: the lists of literals. -/
import Derived.Test.YtbppdifghkkooaaDoorOrderMath
import Derived.Test.YtbppdifghkkooaaDoorGatesMore
import Derived.Test.YtbppdifghkkooaaDoorAppKit
namespace Go.Proofs.YtbppdifghkkooaaDoor
open Go.RowKit
set_option linter.unusedVariables false
set_option linter.unusedSimpArgs false

/-- a list in memory of the call's own -/
def ListIs (xs : List Int) (w : World) (e : Ending) (w' : World) : Prop :=
  ∃ v, e = .returned v ∧ w'.ownsRow w.heap.size 3 1 v xs.length (il xs) ∧ Below w.heap.size w w'
/-- a list somewhere -/
def ListAt (xs : List Int) (w : World) (e : Ending) (w' : World) : Prop :=
  ∃ A k, e = .returned (.slice A xs.length k) ∧ IntsAt w' w'.heap.size A xs.length (fun j => xs.getD j 0) ∧ Below w.heap.size w w'
theorem ListIs.at {xs : List Int} {w w' : World} {e : Ending} (h : ListIs xs w e w') : ListAt xs w e w' := by
  obtain ⟨v, rfl, ho, hb⟩ := h
  obtain ⟨A, k, rfl, hi, _⟩ := own_list ho
  exact ⟨A, k, rfl, hi, hb⟩
theorem il_lst (f : Nat → Int) : ∀ n, intL f n = il (lst f n)
  | 0 => rfl
  | n + 1 => by rw [intL, il_lst f n, lst_succ]; simp [il]
theorem il_app (xs ys : List Int) : il (xs ++ ys) = il xs ++ il ys := by simp [il]