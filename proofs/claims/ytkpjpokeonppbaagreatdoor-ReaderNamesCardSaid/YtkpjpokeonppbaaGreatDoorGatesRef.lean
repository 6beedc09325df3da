/- The contracts of the reference of gates: its check, its sizes, comparisons and copies. -/
import Derived.Test.YtkpjpokeonppbaaGreatDoorGatesMem
namespace Go.Proofs.YtkpjpokeonppbaaGreatDoor
open Go.RowKit
set_option linter.unusedVariables false

set_option maxHeartbeats 1000000 in
theorem rGreat_any (c : Cr) (p : Pl) (w : World) : Calls Tryz.prog 22 #[cv c p] w fun e w' => e = .returned (.bool c.gr) ∧ Below w.heap.size w w' := by
  go_enter Tryz.func22, Tryz.ntmps22
  go_wp2
  all_goals
    go_ret
    refine ⟨Li.ret_bool ?_, (Below.refl _ _).alloc (Nat.le_refl _) _⟩
    rw [Bool.eq_iff_iff]
    simp [Cr.gr]
    omega

theorem Cr.allB_yes {m : Int} {f : Nat → Int} {n : Nat} (h : ∀ j, j < n → 0 ≤ f j ∧ f j / 2 ≤ m) : Cr.allB m f n = true := decide_eq_true h
theorem Cr.allB_no {m : Int} {f : Nat → Int} {n k : Nat} (hk : k < n) (h : f k < 0 ∨ m < f k / 2) : Cr.allB m f n = false := decide_eq_false fun h' => by have := h' k hk; omega

theorem Cr.chk_neg {c : Cr} (h : c.i < 0) : c.chk = 8 := by unfold Cr.chk; rw [if_pos h]
theorem Cr.chk_many {c : Cr} (h : ¬ c.i < 0) (h1 : 1000 < c.sz ∨ 100 < c.nb ∨ 100 < c.nc) : c.chk = 4 := by unfold Cr.chk; rw [if_neg h, if_pos h1]
theorem Cr.chk_bad {c : Cr} (h : ¬ c.i < 0) (h1 : ¬ (1000 < c.sz ∨ 100 < c.nb ∨ 100 < c.nc)) (h2 : ¬ (Cr.allB c.sz c.bd c.nb = true ∧ Cr.allB c.sz c.cn c.nc = true ∧ c.latB = true ∧ c.gatB = true)) : c.chk = 8 := by
  unfold Cr.chk; rw [if_neg h, if_neg h1, if_neg h2]
theorem Cr.chk_ok {c : Cr} (h : ¬ c.i < 0) (h1 : ¬ (1000 < c.sz ∨ 100 < c.nb ∨ 100 < c.nc)) (h2 : Cr.allB c.sz c.bd c.nb = true ∧ Cr.allB c.sz c.cn c.nc = true ∧ c.latB = true ∧ c.gatB = true) : c.chk = 0 := by
  unfold Cr.chk; rw [if_neg h, if_neg h1, if_pos h2]

theorem Cr.latB_yes {c : Cr} (h : ∀ j, j < c.nl → 0 ≤ c.nx j ∧ c.nx j / 2 ≤ c.sz ∧ 0 ≤ c.rs j ∧ c.rs j ≤ 2) : c.latB = true := decide_eq_true h
theorem Cr.latB_no {c : Cr} {k : Nat} (hk : k < c.nl) (h : ¬ (0 ≤ c.nx k ∧ c.nx k / 2 ≤ c.sz ∧ 0 ≤ c.rs k ∧ c.rs k ≤ 2)) : c.latB = false := decide_eq_false fun h' => h (h' k hk)
theorem Cr.gatB_yes {c : Cr} (h : ∀ j, j < c.na → 0 ≤ c.gb j ∧ c.gb j ≤ c.ga j ∧ c.ga j / 2 ≤ c.i + c.nl + j) : c.gatB = true := decide_eq_true h
theorem Cr.gatB_no {c : Cr} {k : Nat} (hk : k < c.na) (h : ¬ (0 ≤ c.gb k ∧ c.gb k ≤ c.ga k ∧ c.ga k / 2 ≤ c.i + c.nl + k)) : c.gatB = false := decide_eq_false fun h' => h (h' k hk)