/- The contracts of the reference of traces: All, States, Allowed, Right, Shows, Witness; and of layer 4's Bad. -/
import Derived.Test.YtpobkemgbbgolaaTraceRef2
import Derived.Test.YtpobkemgbbgolaaTraceProps
namespace Go.Proofs.Ytpobkemgbbgolaa
open Go.RowKit
set_option linter.unusedVariables false
set_option linter.unusedSimpArgs false

section
variable {c : Cr} {p : Pl} {As At : Option Addr} {ns ks ni ki : Nat} {s t : Nat → Bool}

end

/-- a list of lists that a call returns -/
def RowsRet (n : Nat) (L : Nat → Nat) (f : Nat → Nat → Bool) (w : World) (e : Ending) (w' : World) : Prop :=
  ∃ A k, e = .returned (.slice A n k) ∧ RowsAt w' w'.heap.size A n L f ∧ (n ≤ k ∧ k ≤ maxLen) ∧ Below w.heap.size w w'

section
variable {c : Cr} {p : Pl} {t : Tr} {q : Tp}

end
