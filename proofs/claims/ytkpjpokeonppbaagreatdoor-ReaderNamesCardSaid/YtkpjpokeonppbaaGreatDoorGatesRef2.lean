/- The reference's check, where the lists are not too long. -/
import Derived.Test.YtkpjpokeonppbaaGreatDoorGatesRef
namespace Go.Proofs.YtkpjpokeonppbaaGreatDoor
open Go.RowKit
set_option linter.unusedVariables false

/-- the first latches are right -/
def LatTo (c : Cr) (q : Nat) : Prop := ∀ j, j < q → 0 ≤ c.nx j ∧ c.nx j / 2 ≤ c.sz ∧ 0 ≤ c.rs j ∧ c.rs j ≤ 2
theorem LatTo.snoc {c : Cr} {q : Nat} (h : LatTo c q) (h1 : 0 ≤ c.nx q ∧ c.nx q / 2 ≤ c.sz ∧ 0 ≤ c.rs q ∧ c.rs q ≤ 2) : LatTo c (q + 1) := fun j hj => by
  rcases Nat.lt_succ_iff_lt_or_eq.1 hj with h' | h'
  · exact h j h'
  · subst h'; exact h1
/-- the first gates are right -/
def GatTo (c : Cr) (q : Nat) : Prop := ∀ j, j < q → 0 ≤ c.gb j ∧ c.gb j ≤ c.ga j ∧ c.ga j / 2 ≤ c.i + c.nl + j
theorem GatTo.snoc {c : Cr} {q : Nat} (h : GatTo c q) (h1 : 0 ≤ c.gb q ∧ c.gb q ≤ c.ga q ∧ c.ga q / 2 ≤ c.i + c.nl + q) : GatTo c (q + 1) := fun j hj => by
  rcases Nat.lt_succ_iff_lt_or_eq.1 hj with h' | h'
  · exact h j h'
  · subst h'; exact h1

/-- what rCheck_rest returns -/
def Cr.rest (c : Cr) : Int := if c.latB = true ∧ c.gatB = true then 0 else 8
theorem Cr.rest_l {c : Cr} {q : Nat} (hk : q < c.nl) (h : ¬ (0 ≤ c.nx q ∧ c.nx q / 2 ≤ c.sz ∧ 0 ≤ c.rs q ∧ c.rs q ≤ 2)) : c.rest = 8 := by
  unfold Cr.rest; rw [if_neg (fun h' => by rw [Cr.latB_no hk h] at h'; cases h'.1)]
theorem Cr.rest_g {c : Cr} {q : Nat} (hk : q < c.na) (h : ¬ (0 ≤ c.gb q ∧ c.gb q ≤ c.ga q ∧ c.ga q / 2 ≤ c.i + c.nl + q)) : c.rest = 8 := by
  unfold Cr.rest; rw [if_neg (fun h' => by rw [Cr.gatB_no hk h] at h'; cases h'.2)]
theorem Cr.rest_0 {c : Cr} (h : LatTo c c.nl) (h' : GatTo c c.na) : c.rest = 0 := by
  unfold Cr.rest; rw [if_pos ⟨Cr.latB_yes h, Cr.gatB_yes h'⟩]