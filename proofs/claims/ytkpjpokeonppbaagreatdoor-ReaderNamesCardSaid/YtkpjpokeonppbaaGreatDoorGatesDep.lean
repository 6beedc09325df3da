/- The contracts of gates.Depth and of the reference's Depth. -/
import Derived.Test.YtkpjpokeonppbaaGreatDoorGatesChk
import Derived.Test.YtkpjpokeonppbaaGreatDoorGatesFrame
import Derived.Deep.OwnRows
namespace Go.Proofs.YtkpjpokeonppbaaGreatDoor
open Go.RowKit
set_option linter.unusedVariables false

namespace Cr
/-- the variable of the first gate -/
def fg (c : Cr) : Nat := 1 + c.i.toNat + c.nl
/-- the depths of the variables when k gates have been looked at, and the greatest one -/
def dpA (c : Cr) : Nat → Nat → Int
  | 0, _ => 0
  | k + 1, v => if v = c.fg + k then 1 + (if dpA c k (c.ga k / 2).toNat < dpA c k (c.gb k / 2).toNat then dpA c k (c.gb k / 2).toNat else dpA c k (c.ga k / 2).toNat) else dpA c k v
/-- the depth of gate k -/
def dpN (c : Cr) (k : Nat) : Int := 1 + (if c.dpA k (c.ga k / 2).toNat < c.dpA k (c.gb k / 2).toNat then c.dpA k (c.gb k / 2).toNat else c.dpA k (c.ga k / 2).toNat)
/-- what Depth says -/
def dpM (c : Cr) : Nat → Int
  | 0 => 0
  | k + 1 => if dpM c k < c.dpN k then c.dpN k else dpM c k
theorem dpA_bd (c : Cr) : ∀ k v, 0 ≤ c.dpA k v ∧ c.dpA k v ≤ k
  | 0, _ => ⟨Int.le_refl _, Int.le_refl _⟩
  | k + 1, v => by
    have h1 := dpA_bd c k (c.ga k / 2).toNat
    have h2 := dpA_bd c k (c.gb k / 2).toNat
    have h3 := dpA_bd c k v
    unfold dpA
    split
    · split <;> omega
    · omega
theorem dpA_step (c : Cr) (q j : Nat) (h0 : 0 ≤ c.i) : (if j = (1 + c.i + c.nl + q).toNat then Value.int .i64 (c.dpN q) else Value.int .i64 (c.dpA q j)) = Value.int .i64 (c.dpA (q + 1) j) := by
  have e : (1 + c.i + c.nl + q).toNat = c.fg + q := by unfold fg; omega
  rw [e]
  conv => rhs; unfold dpA
  split
  · rfl
  · rfl
theorem dpA_step' (c : Cr) (q j : Nat) (h0 : 0 ≤ c.i) : (if j = (c.i + c.nl + 1 + q).toNat then Value.int .i64 (c.dpN q) else Value.int .i64 (c.dpA q j)) = Value.int .i64 (c.dpA (q + 1) j) := by
  have e : (c.i + c.nl + 1 + q).toNat = (1 + c.i + c.nl + q).toNat := by omega
  rw [e]
  exact dpA_step c q j h0
theorem dpN_bd (c : Cr) (k : Nat) : 1 ≤ c.dpN k ∧ c.dpN k ≤ k + 1 := by
  have h1 := dpA_bd c k (c.ga k / 2).toNat
  have h2 := dpA_bd c k (c.gb k / 2).toNat
  unfold dpN
  split <;> omega
def dpt (c : Cr) : Int := if c.chk = 0 then c.dpM c.na else 0
theorem dpM_bd (c : Cr) : ∀ k, 0 ≤ c.dpM k ∧ c.dpM k ≤ k
  | 0 => ⟨Int.le_refl _, Int.le_refl _⟩
  | k + 1 => by
    have h1 := dpM_bd c k
    have h2 := dpN_bd c k
    unfold dpM
    split <;> omega
/-- what is known of the gate k of a valid circuit -/
theorem gate_ok {c : Cr} (h : c.chk = 0) {k : Nat} (hk : k < c.na) : 0 ≤ c.gb k ∧ c.gb k ≤ c.ga k ∧ c.ga k / 2 ≤ c.i + c.nl + k ∧ c.i + c.nl + k < 1000 ∧ 0 ≤ c.i := by
  have h1 := Cr.chk_zero h
  have h2 : c.sz = c.i + c.nl + c.na := rfl
  have h3 := (of_decide_eq_true h1.2.2.2.2.2.2.2 : ∀ j, j < c.na → _) k hk
  exact ⟨h3.1, h3.2.1, h3.2.2, by omega, h1.1⟩
end Cr

/-- the cells of an array of 1001 numbers, and of 1001 bools, as it is made -/
def zi : Array Value := Array.replicate 1001 (.int .i64 0)
def zb : Array Value := Array.replicate 1001 (.bool false)