/- The reference's contracts: Sorted, Without. -/
import Derived.Test.YtcmdongdjacgbaaClIo
import Derived.BigRegion
namespace Go.Proofs.Ytcmdongdjacgbaa
open Go Go.RowKit
set_option linter.unusedVariables false
set_option linter.unusedSimpArgs false

theorem take_mem {l : List Int} {j : Nat} (hj : j < l.length) (x : Int) : x ∈ l.take (j + 1) ↔ x ∈ l.take j ∨ x = l.getD j 0 := by
  rw [List.take_succ_eq_append_getElem hj, List.mem_append, List.mem_singleton, getD_at hj]

theorem Io.cl {B g N cap : Nat} {w : World} {l : List Int} (h : Io B w (.slice (some ⟨g, 0, none⟩) N cap) l) {j : Nat} (hj : j < l.length) : w.cell? ⟨g, j, none⟩ = some (.int .i64 (l.getD j 0)) ∧ w.frozen? ⟨g, j, none⟩ = false := by
  obtain ⟨g', cap', e, _, _, _, h1, h2⟩ := h.slice (by omega)
  injection e with e _ _
  injection e with e
  injection e with e
  subst e
  exact ⟨h1 j hj, h2 j⟩

end Go.Proofs.Ytcmdongdjacgbaa
