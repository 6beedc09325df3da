/- The reference of layer 3: what its counts say of variables that are defined twice, or not at all. -/
import Derived.Test.YtbppdifghkkooaaDoorOrderRef3
namespace Go.Proofs.YtbppdifghkkooaaDoor
open Go.RowKit
set_option linter.unusedVariables false
set_option linter.unusedSimpArgs false

theorem nodup_count : ∀ l : List Int, l.Nodup ↔ ∀ a, l.count a ≤ 1
  | [] => by simp
  | x :: l => by
    rw [List.nodup_cons, nodup_count l]
    constructor
    · rintro ⟨h1, h2⟩ a
      rw [List.count_cons]
      by_cases e : x = a
      · subst e
        have : l.count x = 0 := List.count_eq_zero.2 h1
        simp [this]
      · have := h2 a
        simp [e]; exact this
    · intro h
      refine ⟨fun hm => ?_, fun a => ?_⟩
      · have h1 := h x
        rw [List.count_cons] at h1
        have h2 := List.count_pos_iff.2 hm
        simp at h1
        omega
      · have h1 := h a
        rw [List.count_cons] at h1
        omega

namespace Rw
/-- the variables that are defined -/
def dV (r : Rw) : List Int := r.dL.map (· / 2)
theorem dV_at (r : Rw) {q : Nat} (h : q < r.dL.length) : r.dV.take (q + 1) = r.dV.take q ++ [r.dL.getD q 0 / 2] := by
  have h1 : q < r.dV.length := by simpa [dV] using h
  rw [List.take_add_one, List.getElem?_eq_getElem h1]
  simp [dV, List.getD_eq_getElem?_getD, List.getElem?_eq_getElem h]
theorem tmk_count {r : Rw} (hn : r.num = true) (v : Nat) : ∀ q, q ≤ r.dL.length → r.tmk q v = (if v = 0 then 1 else 0) + ((r.dV.take q).count (v : Int) : Int)
  | 0, _ => by simp [tmk]
  | q + 1, h => by
    have ih := tmk_count hn v q (by omega)
    have hb := num_d hn q (by omega)
    rw [dV_at r (by omega), List.count_append]
    show (if v = (r.dL.getD q 0 / 2).toNat then r.tmk q v + 1 else r.tmk q v) = _
    generalize r.dL.getD q 0 = x at hb
    by_cases e : v = (x / 2).toNat
    · have e2 : x / 2 = (v : Int) := by omega
      have e3 : List.count (v : Int) [x / 2] = 1 := by rw [e2]; simp
      rw [if_pos e, ih, e3]
      omega
    · have e2 : ¬ x / 2 = (v : Int) := by omega
      have e3 : List.count (v : Int) [x / 2] = 0 := List.count_eq_zero.2 (by simp; exact fun h => e2 h.symm)
      rw [if_neg e, ih, e3]
      omega
theorem tmk_end {r : Rw} (hn : r.num = true) (v : Nat) : r.tmk r.dL.length v = (if v = 0 then 1 else 0) + (r.dV.count (v : Int) : Int) := by
  rw [tmk_count hn v _ (Nat.le_refl _), List.take_of_length_le (by simp [dV])]
theorem dV_mem {r : Rw} (hn : r.num = true) {a : Int} (h : a ∈ r.dV) : 1 ≤ a ∧ a ≤ r.m := by
  obtain ⟨x, hx, rfl⟩ := List.mem_map.1 h
  obtain ⟨j, hj, rfl⟩ := List.getElem_of_mem hx
  have := num_d hn j hj
  rw [List.getD_eq_getElem?_getD, List.getElem?_eq_getElem hj] at this
  simp at this
  omega
/-- a variable is defined twice just where a count is more than one -/
theorem twi_iff {r : Rw} (hn : r.num = true) (mn : Nat) (hm : r.m = mn) : r.twi = true ↔ ∃ v, v ≤ mn ∧ 1 < r.tmk r.dL.length v := by
  have e : r.twi = decide (¬ r.dV.Nodup) := rfl
  rw [e, decide_eq_true_iff, nodup_count]
  constructor
  · intro h
    have : ∃ a, ¬ r.dV.count a ≤ 1 := Classical.not_forall.1 h
    obtain ⟨a, ha⟩ := this
    have hmem : a ∈ r.dV := List.count_pos_iff.1 (by omega)
    have hb := dV_mem hn hmem
    refine ⟨a.toNat, by omega, ?_⟩
    rw [tmk_end hn, show ((a.toNat : Nat) : Int) = a from by omega]
    split <;> omega
  · rintro ⟨v, hv, h⟩ hall
    rw [tmk_end hn] at h
    have h1 := hall (v : Int)
    by_cases e0 : v = 0
    · subst e0
      have : ¬ ((0 : Nat) : Int) ∈ r.dV := fun hmem => by have := dV_mem hn hmem; omega
      rw [List.count_eq_zero.2 this] at h
      simp at h
    · rw [if_neg e0] at h
      omega
/-- a used literal's variable is not defined just where its count is none -/
theorem opn_iff {r : Rw} (hn : r.num = true) : r.opn = true ↔ ∃ j, j < r.uL.length ∧ r.tmk r.dL.length (r.uL.getD j 0 / 2).toNat = 0 := by
  have key : ∀ x : Int, 0 ≤ x → ((x / 2 ≠ 0 ∧ x / 2 ∉ r.dL.map (· / 2)) ↔ r.tmk r.dL.length (x / 2).toNat = 0) := fun x hx => by
    rw [tmk_end hn, show (((x / 2).toNat : Nat) : Int) = x / 2 from by omega]
    constructor
    · rintro ⟨h1, h2⟩
      rw [if_neg (by omega), show r.dV.count (x / 2) = 0 from List.count_eq_zero.2 h2]; rfl
    · intro h
      by_cases e0 : x / 2 = 0
      · rw [e0] at h; simp at h; omega
      · refine ⟨e0, fun hmem => ?_⟩
        have := List.count_pos_iff.2 (show x / 2 ∈ r.dV from hmem)
        rw [if_neg (by omega)] at h
        omega
  unfold opn
  rw [List.any_eq_true]
  constructor
  · rintro ⟨x, hx, h⟩
    obtain ⟨j, hj, rfl⟩ := List.getElem_of_mem hx
    have hb := num_u hn j hj
    refine ⟨j, hj, ?_⟩
    have e : r.uL.getD j 0 = r.uL[j] := by rw [List.getD_eq_getElem?_getD, List.getElem?_eq_getElem hj]; rfl
    rw [e] at hb ⊢
    exact (key _ hb.1).1 (of_decide_eq_true h)
  · rintro ⟨j, hj, h⟩
    have hb := num_u hn j hj
    have e : r.uL.getD j 0 = r.uL[j] := by rw [List.getD_eq_getElem?_getD, List.getElem?_eq_getElem hj]; rfl
    rw [e] at hb h
    exact ⟨_, List.getElem_mem hj, decide_eq_true ((key _ hb.1).2 h)⟩
end Rw
end Go.Proofs.YtbppdifghkkooaaDoor
