/- What the given function of the examples returns: true. -/
import Derived.Test.YtmpmnfnhghfaiaaLitsCore
namespace Go.Proofs.Ytmpmnfnhghfaiaa
open Go.RowKit
set_option linter.unusedVariables false

set_option maxHeartbeats 1000000 in
theorem alive_any (w : World) : Calls Try.prog 14 #[] w fun e w' => e = .returned (.bool true) ∧ w = w' := by
  have n6 : Li.ng 6 = 7 := by decide
  have n7 : Li.ng 7 = 6 := by decide
  have s1 : Li.sm 6 1 = (6, true) := by decide
  have s2 : Li.sm 6 7 = (0, true) := by decide
  have s3 : Li.sm 6 8 = (0, false) := by decide
  have o7 : Li.od 7 = true := by decide
  go_enter Try.func14, Try.ntmps14
  go_wp2_with (first
      | (go_at_call 9; refine (neg_yes _ _ (by decide)).mono ?_; rintro e w' ⟨rfl, rfl⟩)
      | (go_at_call 10; refine (var_yes _ _ (by decide)).mono ?_; rintro e w' ⟨rfl, rfl⟩)
      | (go_at_call 11; refine (and_yes _ _ _ (by decide) (by decide)).mono ?_; rintro e w' ⟨rfl, rfl⟩))
  go_ret
  exact ⟨rfl, rfl⟩

end Go.Proofs.Ytmpmnfnhghfaiaa
