/- The contract of clause.Resolve. -/
import Derived.Test.YtcmdongdjacgbaaClProg4
namespace Go.Proofs.Ytcmdongdjacgbaa
open Go Go.RowKit Go.Lib Go.Sort
set_option linter.unusedVariables false
set_option linter.unusedSimpArgs false

theorem rv_im {n : Int} {a b : List Int} {v : Int} (h : imE n a b ≠ 0) : rvE n a b v = imE n a b ∧ rvC n a b v = [] ∧ rvA n a b v = false := by
  have e : rvE n a b v = imE n a b := by unfold rvE; rw [if_pos h]
  exact ⟨e, by unfold rvC; rw [if_neg (by rw [e]; exact h)], by unfold rvA; rw [e]; simp [h]⟩
theorem rv_no {n : Int} {a b : List Int} {v : Int} (h : imE n a b = 0) (h2 : rvOk a b v = false) : rvE n a b v = 6 ∧ rvC n a b v = [] ∧ rvA n a b v = false := by
  have e : rvE n a b v = 6 := by unfold rvE; rw [if_neg (by rw [h]; simp), if_neg (by rw [h2]; decide)]
  exact ⟨e, by unfold rvC; rw [if_neg (by rw [e]; decide)], by unfold rvA; rw [e]; rfl⟩
theorem rv_yes {n : Int} {a b : List Int} {v : Int} (h : imE n a b = 0) (h2 : rvOk a b v = true) : rvE n a b v = 0 ∧ rvC n a b v = mkL n (rvL a b v) ∧ rvA n a b v = mkA n (rvL a b v) := by
  have e : rvE n a b v = 0 := rvE_iff.2 ⟨h, h2⟩
  exact ⟨e, by unfold rvC; rw [if_pos e], by unfold rvA; rw [e]; simp⟩
theorem rvOk_no {a b : List Int} {v : Int} (h : (∀ x ∈ a, x / 2 ≠ v) ∨ (∀ x ∈ b, x / 2 ≠ v)) : rvOk a b v = false := by
  rw [← Bool.not_eq_true, rvOk_iff]
  rintro (⟨p, q⟩ | ⟨p, q⟩)
  · rcases h with h | h
    · exact h _ p (by omega)
    · exact h _ q (by omega)
  · rcases h with h | h
    · exact h _ p (by omega)
    · exact h _ q (by omega)
theorem rvOk_two {n : Int} {a b : List Int} {v x y : Int} (ha : OkC n a) (hb : OkC n b) (hx : x ∈ a) (hy : y ∈ b) (ex : x / 2 = v) (ey : y / 2 = v) : rvOk a b v = decide (x ≠ y) := by
  rw [Bool.eq_iff_iff, rvOk_iff, decide_eq_true_iff]
  constructor
  · rintro (⟨p, q⟩ | ⟨p, q⟩)
    · have := ha.one hx p (by omega); have := hb.one hy q (by omega); omega
    · have := ha.one hx p (by omega); have := hb.one hy q (by omega); omega
  · intro h
    rcases (show x = 2 * v ∨ x = 2 * v + 1 by omega) with e | e
    · exact Or.inl ⟨e ▸ hx, (show y = 2 * v + 1 by omega) ▸ hy⟩
    · exact Or.inr ⟨e ▸ hx, (show y = 2 * v by omega) ▸ hy⟩
theorem td {x : Int} (h : 2 ≤ x) : x.tdiv 2 = x / 2 := Int.tdiv_eq_ediv_of_nonneg (by omega)

end Go.Proofs.Ytcmdongdjacgbaa
