/- The contracts of the reference of traces: Great, Starts, First, Check, Same, SameAll; and of the bad literals of layer 4's. -/
import Derived.Test.YtpobkemgbbgolaaTraceStates
import Derived.Test.YtpobkemgbbgolaaValuesRef2
namespace Go.Proofs.Ytpobkemgbbgolaa
open Go.RowKit
set_option linter.unusedVariables false
set_option linter.unusedSimpArgs false

theorem Tr.gr_a {t : Tr} (h : 60 < t.nf) : t.gr = true := decide_eq_true (Or.inl h)
theorem Tr.gr_b {t : Tr} (h : 20 < t.ni) (h1 : t.ni ≠ 101) : t.gr = true := decide_eq_true (Or.inr (Or.inl ⟨h, h1⟩))
theorem Tr.gr_c {t : Tr} {j : Nat} (hj : j < t.ni) (h : 60 < t.ln j) : t.gr = true := decide_eq_true (Or.inr (Or.inr ⟨j, hj, h⟩))
theorem Tr.gr_d {t : Tr} (h : ¬ 60 < t.nf) (h1 : ¬ (20 < t.ni ∧ t.ni ≠ 101)) (h2 : ∀ j, j < t.ni → ¬ 60 < t.ln j) : t.gr = false := decide_eq_false fun h' => by
  rcases h' with h' | h' | ⟨j, hj, h'⟩
  · exact h h'
  · exact h1 h'
  · exact h2 j hj h'