/- The reference of layer 3: numbers. -/
import Derived.Test.YtbppdifghkkooaaDoorOrderRef2
import Derived.Deep.RegionHeld3
import Derived.Deep.DeepCutAuto
namespace Go.Proofs.YtbppdifghkkooaaDoor
open Go.RowKit
set_option linter.unusedVariables false
set_option linter.unusedSimpArgs false

end Go.Proofs.YtbppdifghkkooaaDoor

namespace Go.Proofs.YtbppdifghkkooaaDoor
open Go.RowKit
set_option linter.unusedVariables false
set_option linter.unusedSimpArgs false

namespace Rw
/-- how often a variable is among the first q defined ones (0 is, once) -/
def tmk (r : Rw) : Nat → Nat → Int
  | 0 => fun v => if v = 0 then 1 else 0
  | q + 1 => fun v => if v = (r.dL.getD q 0 / 2).toNat then tmk r q v + 1 else tmk r q v
theorem tmk_bd (r : Rw) (q v : Nat) : 0 ≤ r.tmk q v ∧ r.tmk q v ≤ q + 1 := by
  induction q with
  | zero => unfold tmk; split <;> omega
  | succ q ih => unfold tmk; split <;> omega
theorem num_d {r : Rw} (h : r.num = true) : ∀ j, j < r.dL.length → 2 ≤ r.dL.getD j 0 ∧ r.dL.getD j 0 % 2 = 0 ∧ r.dL.getD j 0 ≤ 2 * r.m + 1 := by
  intro j hj
  unfold num at h
  simp only [Bool.and_eq_true] at h
  have := List.all_eq_true.1 h.1.1 (r.dL.getD j 0) (by rw [List.getD_eq_getElem?_getD, List.getElem?_eq_getElem hj]; exact List.getElem_mem hj)
  exact of_decide_eq_true this
theorem num_u {r : Rw} (h : r.num = true) : ∀ j, j < r.uL.length → 0 ≤ r.uL.getD j 0 ∧ r.uL.getD j 0 ≤ 2 * r.m + 1 := by
  intro j hj
  unfold num at h
  simp only [Bool.and_eq_true] at h
  have := List.all_eq_true.1 h.1.2 (r.uL.getD j 0) (by rw [List.getD_eq_getElem?_getD, List.getElem?_eq_getElem hj]; exact List.getElem_mem hj)
  exact of_decide_eq_true this
end Rw

theorem setB {w : World} {B : Nat} {A : Option Addr} {n b j : Nat} {f : Nat → Int} (h : IntsAt w B A n f) (hd : ∀ a, A = some a → a.block ≠ b) (v : Value) : IntsAt (w.setCell ⟨b, j, none⟩ v) B A n f := fun hn => by
  obtain ⟨a, e, hl, hc⟩ := h hn
  refine ⟨a, e, hl, fun i hi => ?_⟩
  rw [World.cell?_setCell_other _ _ _ _ (fun e' => hd a e (by have := congrArg Addr.block e'; simpa [add_block] using this.symm))]
  exact hc i hi
/-- the counts, in a row of the call's own -/
def TimesIs (r : Rw) (mn : Nat) (w : World) (e : Ending) (w' : World) : Prop :=
  ∃ g, e = .returned (.slice (some ⟨g, 0, none⟩) (mn + 1) (mn + 1)) ∧ w'.rowIs g 3 (mn + 1) (fun v => .int .i64 (r.tmk r.dL.length v)) ∧ w.heap.size ≤ g ∧ Below w.heap.size w w'

end Go.Proofs.YtbppdifghkkooaaDoor
