/- The reference's contracts: Lit, Vars, Has, Not, Valid, Check, Truth, Holds, Part, True, Same. -/
import Derived.Test.YtcmdongdjacgbaaClProg3
namespace Go.Proofs.Ytcmdongdjacgbaa
open Go Go.RowKit
set_option linter.unusedVariables false
set_option linter.unusedSimpArgs false

/-- a list has a number -/
def hs (l : List Int) (x : Int) : Bool := l.contains x
theorem hs_iff {l : List Int} {x : Int} : hs l x = true ↔ x ∈ l := by unfold hs; simp
theorem hs_no {l : List Int} {x : Int} : hs l x = false ↔ x ∉ l := by rw [← Bool.not_eq_true, hs_iff]
theorem dn_dn (w : World) (d e : Nat) : (w.drewN d).drewN e = w.drewN (d + e) := by simp [World.drewN, Nat.add_assoc]

theorem rVars_any (v : Int) (w : World) : Calls Try.prog 21 #[.int .i64 v] w fun e w' => e = .returned (.bool (!decide (v < 0 ∨ 4000 < v))) ∧ w = w' := by
  by_cases h0 : 0 ≤ v
  · by_cases h1 : v ≤ 4000
    · have e : (!decide (v < 0 ∨ 4000 < v)) = true := by simp; omega
      rw [e]
      go_enter Try.func21, Try.ntmps21
      go_wp2
      go_ret
      exact ⟨rfl, rfl⟩
    · have e : (!decide (v < 0 ∨ 4000 < v)) = false := by simp; omega
      rw [e]
      go_enter Try.func21, Try.ntmps21
      go_wp2
      go_ret
      exact ⟨rfl, rfl⟩
  · have e : (!decide (v < 0 ∨ 4000 < v)) = false := by simp; omega
    rw [e]
    go_enter Try.func21, Try.ntmps21
    go_wp2
    go_ret
    exact ⟨rfl, rfl⟩

theorem rLit_any (v x : Int) (hv : 0 ≤ v ∧ v ≤ 5000) (w : World) : Calls Try.prog 22 #[.int .i64 v, .int .i64 x] w fun e w' => e = .returned (.bool (isL v x)) ∧ w = w' := by
  obtain ⟨v0, v1⟩ := hv
  by_cases h0 : 2 ≤ x
  · by_cases h1 : x ≤ 2 * v + 1
    · have e : isL v x = true := isL_iff.2 (by omega)
      rw [e]
      go_enter Try.func22, Try.ntmps22
      go_wp2
      go_ret
      exact ⟨rfl, rfl⟩
    · have e : isL v x = false := by rw [← Bool.not_eq_true, isL_iff]; omega
      rw [e]
      go_enter Try.func22, Try.ntmps22
      go_wp2
      go_ret
      exact ⟨rfl, rfl⟩
  · have e : isL v x = false := by rw [← Bool.not_eq_true, isL_iff]; omega
    rw [e]
    go_enter Try.func22, Try.ntmps22
    go_wp2
    go_ret
    exact ⟨rfl, rfl⟩

theorem rNot_any (x : Int) (hx : 0 ≤ x ∧ x ≤ 1000000) (w : World) : Calls Try.prog 34 #[.int .i64 x] w fun e w' => e = .returned (.int .i64 (ng x)) ∧ w = w' := by
  obtain ⟨x0, x1⟩ := hx
  have hr : x.tmod 2 = x % 2 := Int.tmod_eq_emod_of_nonneg (by omega)
  by_cases he : x % 2 = 0
  · rw [show ng x = x + 1 by unfold ng; rw [if_pos he]]
    have e1 : (x % 2 == 0) = true := by simpa using he
    clear he
    go_enter Try.func34, Try.ntmps34
    go_wp2
    go_ret
    exact ⟨rfl, rfl⟩
  · rw [show ng x = x - 1 by unfold ng; rw [if_neg he]]
    have e1 : (x % 2 == 0) = false := by simpa using he
    clear he
    go_enter Try.func34, Try.ntmps34
    go_wp2
    go_ret
    exact ⟨rfl, rfl⟩

end Go.Proofs.Ytcmdongdjacgbaa
