/- The contracts of gates.Cone and of the reference's In and Cone. -/
import Derived.Test.YtkpjpokeonppbaaGreatDoorGatesIter
namespace Go.Proofs.YtkpjpokeonppbaaGreatDoor
open Go.RowKit Go.Shelf
set_option linter.unusedVariables false
attribute [local go_sem] Oper.semAt_some

namespace Cr
theorem cnL_len (R : Nat → Bool) : ∀ q, (cnL R q).length ≤ q
  | 0 => Nat.le_refl _
  | q + 1 => by
    have := cnL_len R q
    unfold cnL
    split <;> simp <;> omega
theorem cnL_no {R : Nat → Bool} {q : Nat} (h : ¬ (0 < q ∧ R q = true)) : cnL R (q + 1) = cnL R q := by
  conv => lhs; unfold cnL
  rw [if_neg h, List.append_nil]
theorem cnL_yes {R : Nat → Bool} {q : Nat} (h : 0 < q ∧ R q = true) : cnL R (q + 1) = cnL R q ++ [(q : Int)] := by
  conv => lhs; unfold cnL
  rw [if_pos h]
/-- the cone of a literal -/
def cone (c : Cr) (l : Int) : List Int := cnL (c.rch l) (c.sz.toNat + 1)
end Cr
/-- the cells of a list of numbers -/
def il (xs : List Int) : List Value := xs.map (.int .i64)
/-- a list of numbers in memory of the call's own, and OK -/
def ConeIs (c : Cr) (l : Int) (w : World) (e : Ending) (w' : World) : Prop :=
  ∃ v, e = .returned (.tuple #[v, .int .i64 0]) ∧ w'.ownsRow w.heap.size 3 1 v (c.cone l).length (il (c.cone l)) ∧ Below w.heap.size w w'
theorem own_base {w : World} {base base' : Nat} {e : TypeId} {size n : Nat} {v : Value} {xs : List Value} (h : w.ownsRow base e size v n xs) (hb : base' ≤ base) : w.ownsRow base' e size v n xs := by
  refine ⟨h.1, ?_⟩
  rcases h.2 with h2 | ⟨g, cap, cur, hv, hg, r⟩
  · exact Or.inl h2
  · exact Or.inr ⟨g, cap, cur, hv, by omega, r⟩
theorem own_block {w : World} {base : Nat} {e : TypeId} {size n : Nat} {v : Value} {xs : List Value} (h : w.ownsRow base e size v n xs) : ∀ k, v.ownBlock = some k → base ≤ k := by
  rcases h.2 with ⟨rfl, _⟩ | ⟨g, cap, cur, rfl, hg, r⟩
  · intro k hk; cases hk
  · intro k hk; cases hk; exact hg

theorem marks_keeps {B b : Nat} {w w' : World} (hk : ∀ g, g ≠ b → w'.heap[g]? = w.heap[g]?) (hs : w'.heap.size = w.heap.size) (hb : b < B) : KeepsFrom B w w' := ⟨by omega, fun k o hB h _ => (hk k (by omega)).trans h⟩