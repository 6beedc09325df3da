/- What is not in the cone of a literal does not matter for its value; lists of truth values that are written to. -/
import Derived.Test.YthpifibemekmcaaValuesMoreKit
import Derived.Test.YthpifibemekmcaaGatesMath
namespace Go.Proofs.Ythpifibemekmcaa
open Go.RowKit
set_option linter.unusedVariables false

namespace Cr
theorem fr_cone {c : Cr} (h : c.chk = 0) {s t s' t' : Nat → Bool} {r v0 : Nat} (h0 : ¬ Rc c r v0) (hs : ∀ j, 1 + c.i.toNat + j ≠ v0 → j < c.nl → s j = s' j) (ht : ∀ j, 1 + j ≠ v0 → j < c.i.toNat → t j = t' j) :
    ∀ v, Rc c r v → v < c.fg + c.na → c.fr s t v = c.fr s' t' v := fun v => by
  induction v using Nat.strongRecOn with
  | _ v ih =>
    intro hr hv
    have hne : v ≠ v0 := fun e => h0 (e ▸ hr)
    have hfg : c.fg = 1 + c.i.toNat + c.nl := rfl
    by_cases h1 : v = 0
    · subst h1; rw [fr_zero, fr_zero]
    · by_cases h2 : v < 1 + c.i.toNat
      · rw [fr_in (by omega) h2, fr_in (by omega) h2]
        exact ht (v - 1) (by omega) (by omega)
      · by_cases h3 : v < c.fg
        · rw [fr_st (by omega) h3, fr_st (by omega) h3]
          exact hs _ (by omega) (by omega)
        · obtain ⟨k, rfl⟩ : ∃ k, v = c.fg + k := ⟨v - c.fg, by omega⟩
          obtain ⟨p1, p2⟩ := part_lt h (j := k) (by omega)
          rw [fr_gate h (by omega), fr_gate h (by omega), vlo_congr (ih _ p1 (.left (by omega) hr) (by omega)), vlo_congr (ih _ p2 (.right (by omega) hr) (by omega))]
theorem not_rc {c : Cr} (h : c.chk = 0) {l : Int} (h0 : 0 ≤ l) (hl : l / 2 ≤ c.sz) {v : Nat} (hv : 1 ≤ v) (hv2 : (v : Int) ≤ c.sz) (hx : ∀ j, j < (c.cL l).length → (c.cL l).getD j 0 ≠ (v : Int)) : ¬ Rc c (l / 2).toNat v := fun hr => by
  obtain ⟨e, _⟩ := cL_eq h h0 hl
  have hm : (v : Int) ∈ c.cL l := by
    rw [e]
    exact mem_cnL.2 ⟨v, rfl, by omega, by omega, (rch_iff h l v).2 hr⟩
  obtain ⟨j, hj, he⟩ := List.getElem_of_mem hm
  refine hx j hj ?_
  rw [List.getD_eq_getElem?_getD, List.getElem?_eq_getElem hj]
  exact he
end Cr

/-- a list with one value turned -/
def flip1 (f : Nat → Bool) (j0 : Nat) : Nat → Bool := fun j => if j = j0 then !f j0 else f j
/-- a store into a list that the call owns -/
theorem own_store {w : World} {base g n k j0 : Nat} {e : TypeId} {f : Nat → Bool} (h : w.ownsRow base e 1 (.slice (some ⟨g, 0, none⟩) n k) n (bL f n)) (hj : j0 < n) :
    w.cell? ⟨g, j0, none⟩ = some (.bool (f j0)) ∧ w.frozen? ⟨g, j0, none⟩ = false ∧ BlsAt (w.setCell ⟨g, j0, none⟩ (.bool (!f j0))) (w.setCell ⟨g, j0, none⟩ (.bool (!f j0))).heap.size (some ⟨g, 0, none⟩) n (flip1 f j0) := by
  have ad : ∀ j, (⟨g, 0, none⟩ : Addr).add j = ⟨g, j, none⟩ := fun j => by unfold Addr.add; split <;> simp_all
  have hc : ∀ j, j < n → w.cell? ⟨g, j, none⟩ = some (.bool (f j)) := fun j hj' => by rw [← ad j]; exact h.cells (g := g) rfl _ _ (bL_at f n j hj')
  rcases h.2 with ⟨h, _⟩ | ⟨g', cap, cur, hv, _, hh, _⟩
  · cases h
  · cases hv
    have hH : Has w g e cur := hh
    refine ⟨hc j0 hj, hH.fz j0, bls_of_has (hH.set j0 _) fun j hj' => ?_⟩
    have hcj := (hH.cell j).symm.trans (hc j hj')
    unfold flip1
    rw [Array.getElem?_setIfInBounds]
    by_cases e1 : j0 = j
    · subst e1
      have := (Array.getElem?_eq_some_iff.1 hcj).1
      simp [this]
    · rw [if_neg e1, hcj, if_neg (fun h => e1 h.symm)]
theorem own_bls {w : World} {base g n k : Nat} {e : TypeId} {f : Nat → Bool} (h : w.ownsRow base e 1 (.slice (some ⟨g, 0, none⟩) n k) n (bL f n)) : BlsAt w w.heap.size (some ⟨g, 0, none⟩) n f := by
  obtain ⟨A, k', hv, hi, _⟩ := own_bools h
  cases hv
  exact hi
