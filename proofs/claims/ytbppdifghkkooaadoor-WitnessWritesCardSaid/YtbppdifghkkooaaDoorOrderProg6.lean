/- The contracts of the package order: usesOpen. -/
import Derived.Test.YtbppdifghkkooaaDoorOrderProg3
import Derived.Test.YtbppdifghkkooaaDoorOrderFind2
import Derived.Test.YtbppdifghkkooaaDoorOrderRef5
namespace Go.Proofs.YtbppdifghkkooaaDoor
open Go.RowKit
set_option linter.unusedVariables false
set_option linter.unusedSimpArgs false

theorem row_set0b (w : World) (n : Nat) (t : TypeId) (g : Nat) (hg : w.heap.size = g) : (w.alloc (.cells ((madeCells #[.bool false] n).setIfInBounds 0 (.bool true)) t)).rowIs g t n (fun v => .bool (decide (v = 0))) := by
  subst hg
  exact ⟨_, heap_alloc_new w _, by rw [Array.size_setIfInBounds]; simp [size_madeCells], fun j hj => by
    rw [Array.getElem?_setIfInBounds]
    by_cases e : 0 = j
    · subst e; simp [size_madeCells, hj]
    · have e' : ¬ j = 0 := fun h => e h.symm
      rw [if_neg e]; simp [madeCells, hj, Nat.mod_one, e']⟩
/-- the box of isDefined -/
def BoxD (b g N : Nat) (W : World) : Prop := W.cell? ⟨b, 0, none⟩ = some (.slice (some ⟨g, 0, none⟩) N N) ∧ True