/- A circuit with other resets; a circuit with a gate less at the end. -/
import Derived.Test.YthpifibemekmcaaGatesMore
namespace Go.Proofs.Ythpifibemekmcaa
open Go.RowKit
set_option linter.unusedVariables false

namespace Cr
variable {c : Cr}
/-- other resets -/
def res (c : Cr) (r : Nat → Int) : Cr := { c with rs := r }
theorem res_chk {r : Nat → Int} (h : c.chk = 0) (hr : ∀ j, j < c.nl → 0 ≤ r j ∧ r j ≤ 2) : (c.res r).chk = 0 := by
  obtain ⟨k1, k2, k3, k4, k5, k6, k7, k8⟩ := chk_zero h
  refine chk_ok (c := c.res r) (by show ¬ c.i < 0; omega) (by show ¬ (1000 < c.sz ∨ 100 < c.nb ∨ 100 < c.nc); omega) ⟨k5, k6, decide_eq_true fun j hj => ?_, k8⟩
  have := (of_decide_eq_true k7 : ∀ j, j < c.nl → _) j hj
  have h2 := hr j hj
  exact ⟨this.1, this.2.1, h2⟩
theorem res_dpA (c : Cr) (r : Nat → Int) : ∀ k v, (c.res r).dpA k v = c.dpA k v
  | 0, _ => rfl
  | k + 1, v => by
    have ih := res_dpA c r k
    unfold dpA
    rw [ih, ih, ih]
    rfl
theorem res_dpM (c : Cr) (r : Nat → Int) : ∀ k, (c.res r).dpM k = c.dpM k
  | 0 => rfl
  | k + 1 => by
    have ih := res_dpM c r k
    have e : (c.res r).dpN k = c.dpN k := by unfold dpN; rw [res_dpA, res_dpA]; rfl
    unfold dpM
    rw [ih, e]
theorem res_same {r : Nat → Int} (h : c.chk = 0) (hr : ∀ j, j < c.nl → 0 ≤ r j ∧ r j ≤ 2) (l : Int) : (c.res r).cL l = c.cL l ∧ (c.res r).cE l = c.cE l ∧ (c.res r).dpt = c.dpt := by
  have h' := res_chk h hr
  have e : (c.res r).dpt = c.dpt := by unfold dpt; rw [if_pos h, if_pos h']; exact res_dpM c r c.na
  have e2 : (c.res r).cone l = c.cone l := rfl
  refine ⟨?_, ?_, e⟩
  · unfold cL
    rw [h, h', e2]
    rfl
  · unfold cE
    rw [h, h']
    rfl

/-- a gate less -/
def less (c : Cr) : Cr := { c with na := c.na - 1 }
/-- the last variable is used by a latch, a bad literal or a constraint -/
def used (c : Cr) : Prop := (∃ j, j < c.nl ∧ c.nx j / 2 = c.sz) ∨ (∃ j, j < c.nb ∧ c.bd j / 2 = c.sz) ∨ ∃ j, j < c.nc ∧ c.cn j / 2 = c.sz
theorem less_chk (h : c.chk = 0) (hn : 0 < c.na) : c.less.chk = 0 ↔ ¬ c.used := by
  obtain ⟨k1, k2, k3, k4, k5, k6, k7, k8⟩ := chk_zero h
  have hz : c.sz = c.i + c.nl + c.na := rfl
  have ez : c.less.sz = c.sz - 1 := by
    show c.i + c.nl + ((c.na - 1 : Nat) : Int) = c.sz - 1
    omega
  have q5 : ∀ j, j < c.nb → 0 ≤ c.bd j ∧ c.bd j / 2 ≤ c.sz := of_decide_eq_true k5
  have q6 : ∀ j, j < c.nc → 0 ≤ c.cn j ∧ c.cn j / 2 ≤ c.sz := of_decide_eq_true k6
  have q7 : ∀ j, j < c.nl → 0 ≤ c.nx j ∧ c.nx j / 2 ≤ c.sz ∧ 0 ≤ c.rs j ∧ c.rs j ≤ 2 := of_decide_eq_true k7
  have q8 : ∀ j, j < c.na → 0 ≤ c.gb j ∧ c.gb j ≤ c.ga j ∧ c.ga j / 2 ≤ c.i + c.nl + j := of_decide_eq_true k8
  constructor
  · intro hl hu
    obtain ⟨_, _, _, _, m5, m6, m7, _⟩ := chk_zero hl
    rw [ez] at m5 m6
    rcases hu with ⟨j, hj, e⟩ | ⟨j, hj, e⟩ | ⟨j, hj, e⟩
    · have := (of_decide_eq_true m7 : ∀ j, j < c.nl → 0 ≤ c.nx j ∧ c.nx j / 2 ≤ c.less.sz ∧ _) j hj
      rw [ez] at this
      omega
    · have := (of_decide_eq_true m5 : ∀ j, j < c.nb → _) j hj
      have h2 : c.less.bd j = c.bd j := rfl
      rw [h2] at this
      omega
    · have := (of_decide_eq_true m6 : ∀ j, j < c.nc → _) j hj
      have h2 : c.less.cn j = c.cn j := rfl
      rw [h2] at this
      omega
  · intro hu
    refine chk_ok (c := c.less) (by show ¬ c.i < 0; omega) (by rw [ez]; show ¬ (1000 < c.sz - 1 ∨ 100 < c.nb ∨ 100 < c.nc); omega) ⟨?_, ?_, ?_, ?_⟩
    · rw [ez]
      refine decide_eq_true fun j hj => ?_
      have h1 := q5 j hj
      have h2 : ¬ c.bd j / 2 = c.sz := fun e => hu (Or.inr (Or.inl ⟨j, hj, e⟩))
      show 0 ≤ c.bd j ∧ c.bd j / 2 ≤ c.sz - 1
      omega
    · rw [ez]
      refine decide_eq_true fun j hj => ?_
      have h1 := q6 j hj
      have h2 : ¬ c.cn j / 2 = c.sz := fun e => hu (Or.inr (Or.inr ⟨j, hj, e⟩))
      show 0 ≤ c.cn j ∧ c.cn j / 2 ≤ c.sz - 1
      omega
    · refine decide_eq_true fun j hj => ?_
      have h1 := q7 j hj
      have h2 : ¬ c.nx j / 2 = c.sz := fun e => hu (Or.inl ⟨j, hj, e⟩)
      rw [ez]
      show 0 ≤ c.nx j ∧ c.nx j / 2 ≤ c.sz - 1 ∧ 0 ≤ c.rs j ∧ c.rs j ≤ 2
      omega
    · exact decide_eq_true fun j hj => q8 j (by have : j < c.na - 1 := hj; omega)
end Cr
