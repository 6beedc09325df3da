/- The contracts of gates.Kind and of the reference's Gate and Kind. -/
import Derived.Test.YtkpjpokeonppbaaGreatDoorGatesChk
import Derived.Test.YtkpjpokeonppbaaGreatDoorGatesSame
namespace Go.Proofs.YtkpjpokeonppbaaGreatDoor
open Go.RowKit
set_option linter.unusedVariables false

/-- what Kind says: the kind, the index, the error -/
def Cr.kd (c : Cr) (v : Int) : Int × Int × Int :=
  if c.chk ≠ 0 then (0, 0, c.chk) else if v < 0 ∨ c.sz < v then (0, 0, 2) else if v = 0 then (0, 0, 0)
  else if v ≤ c.i then (1, v - 1, 0) else if v ≤ c.i + c.nl then (2, v - 1 - c.i, 0) else (3, v - 1 - c.i - c.nl, 0)

theorem Cr.ret_kd {x : Int × Int × Int} {a b d : Int} (h : x = (a, b, d)) : Ending.returned (.tuple #[.int .i64 a, .int .i64 b, .int .i64 d]) = .returned (.tuple #[.int .i64 x.1, .int .i64 x.2.1, .int .i64 x.2.2]) := by rw [h]

theorem Cr.kd_bad {c : Cr} (v : Int) (h : c.chk ≠ 0) : c.kd v = (0, 0, c.chk) := by unfold Cr.kd; rw [if_pos h]
theorem Cr.kd_arg {c : Cr} {v : Int} (h : c.chk = 0) (h1 : v < 0 ∨ c.sz < v) : c.kd v = (0, 0, 2) := by unfold Cr.kd; rw [if_neg (by omega), if_pos h1]
theorem Cr.kd_0 {c : Cr} {v : Int} (h : c.chk = 0) (h1 : ¬ (v < 0 ∨ c.sz < v)) (h2 : v = 0) : c.kd v = (0, 0, 0) := by unfold Cr.kd; rw [if_neg (by omega), if_neg h1, if_pos h2]
theorem Cr.kd_1 {c : Cr} {v : Int} (h : c.chk = 0) (h1 : ¬ (v < 0 ∨ c.sz < v)) (h2 : ¬ v = 0) (h3 : v ≤ c.i) : c.kd v = (1, v - 1, 0) := by unfold Cr.kd; rw [if_neg (by omega), if_neg h1, if_neg h2, if_pos h3]
theorem Cr.kd_2 {c : Cr} {v : Int} (h : c.chk = 0) (h1 : ¬ (v < 0 ∨ c.sz < v)) (h2 : ¬ v = 0) (h3 : ¬ v ≤ c.i) (h4 : v ≤ c.i + c.nl) : c.kd v = (2, v - 1 - c.i, 0) := by unfold Cr.kd; rw [if_neg (by omega), if_neg h1, if_neg h2, if_neg h3, if_pos h4]
theorem Cr.kd_3 {c : Cr} {v : Int} (h : c.chk = 0) (h1 : ¬ (v < 0 ∨ c.sz < v)) (h2 : ¬ v = 0) (h3 : ¬ v ≤ c.i) (h4 : ¬ v ≤ c.i + c.nl) : c.kd v = (3, v - 1 - c.i - c.nl, 0) := by unfold Cr.kd; rw [if_neg (by omega), if_neg h1, if_neg h2, if_neg h3, if_neg h4]