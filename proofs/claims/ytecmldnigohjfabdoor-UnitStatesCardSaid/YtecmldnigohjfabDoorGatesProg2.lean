/- The contracts of the reference of gates: its check, its sizes, comparisons and copies. -/
import Derived.Test.YtecmldnigohjfabDoorGatesMem
namespace Go.Proofs.YtecmldnigohjfabDoor
open Go.RowKit

set_option linter.unusedVariables false

theorem Cr.allB_yes {m : Int} {f : Nat → Int} {n : Nat} (h : ∀ j, j < n → 0 ≤ f j ∧ f j / 2 ≤ m) : Cr.allB m f n = true := decide_eq_true h
theorem Cr.allB_no {m : Int} {f : Nat → Int} {n k : Nat} (hk : k < n) (h : f k < 0 ∨ m < f k / 2) : Cr.allB m f n = false := decide_eq_false fun h' => by have := h' k hk; omega

theorem Cr.chk_neg {c : Cr} (h : c.i < 0) : c.chk = 8 := by unfold Cr.chk; rw [if_pos h]
theorem Cr.chk_many {c : Cr} (h : ¬ c.i < 0) (h1 : 1000 < c.sz ∨ 100 < c.nb ∨ 100 < c.nc) : c.chk = 4 := by unfold Cr.chk; rw [if_neg h, if_pos h1]
theorem Cr.chk_bad {c : Cr} (h : ¬ c.i < 0) (h1 : ¬ (1000 < c.sz ∨ 100 < c.nb ∨ 100 < c.nc)) (h2 : ¬ (Cr.allB c.sz c.bd c.nb = true ∧ Cr.allB c.sz c.cn c.nc = true ∧ c.latB = true ∧ c.gatB = true)) : c.chk = 8 := by
  unfold Cr.chk; rw [if_neg h, if_neg h1, if_neg h2]
theorem Cr.chk_ok {c : Cr} (h : ¬ c.i < 0) (h1 : ¬ (1000 < c.sz ∨ 100 < c.nb ∨ 100 < c.nc)) (h2 : Cr.allB c.sz c.bd c.nb = true ∧ Cr.allB c.sz c.cn c.nc = true ∧ c.latB = true ∧ c.gatB = true) : c.chk = 0 := by
  unfold Cr.chk; rw [if_neg h, if_neg h1, if_pos h2]

theorem Cr.latB_yes {c : Cr} (h : ∀ j, j < c.nl → 0 ≤ c.nx j ∧ c.nx j / 2 ≤ c.sz ∧ 0 ≤ c.rs j ∧ c.rs j ≤ 2) : c.latB = true := decide_eq_true h
theorem Cr.latB_no {c : Cr} {k : Nat} (hk : k < c.nl) (h : ¬ (0 ≤ c.nx k ∧ c.nx k / 2 ≤ c.sz ∧ 0 ≤ c.rs k ∧ c.rs k ≤ 2)) : c.latB = false := decide_eq_false fun h' => h (h' k hk)
theorem Cr.gatB_yes {c : Cr} (h : ∀ j, j < c.na → 0 ≤ c.gb j ∧ c.gb j ≤ c.ga j ∧ c.ga j / 2 ≤ c.i + c.nl + j) : c.gatB = true := decide_eq_true h
theorem Cr.gatB_no {c : Cr} {k : Nat} (hk : k < c.na) (h : ¬ (0 ≤ c.gb k ∧ c.gb k ≤ c.ga k ∧ c.ga k / 2 ≤ c.i + c.nl + k)) : c.gatB = false := decide_eq_false fun h' => h (h' k hk)

end Go.Proofs.YtecmldnigohjfabDoor

namespace Go.Proofs.YtecmldnigohjfabDoor
open Go.RowKit

set_option linter.unusedVariables false

/-- more variables, bad literals or constraints than a circuit has -/
def Cr.tm (c : Cr) : Bool := decide (1000 < c.sz ∨ 100 < c.nb ∨ 100 < c.nc)

/-- a literal of a variable up to m -/
def Cr.litB (m l : Int) : Bool := decide (0 ≤ l ∧ l / 2 ≤ m)

/-- a right reset -/
def Cr.resB (r : Int) : Bool := decide (0 ≤ r ∧ r ≤ 2)

/-- an index that is at least 0 just where b holds -/
def IdxIs (b : Bool) (w : World) (e : Ending) (w' : World) : Prop := ∃ n : Int, e = .returned (.int .i64 n) ∧ decide (0 ≤ n) = b ∧ Below w.heap.size w w'

theorem Cr.latB_eq {c : Cr} : c.latB = true ↔ ∀ j, j < c.nl → Cr.litB c.sz (c.nx j) = true ∧ Cr.resB (c.rs j) = true := by
  simp only [Cr.latB, Cr.litB, Cr.resB, decide_eq_true_eq, and_assoc]

end Go.Proofs.YtecmldnigohjfabDoor

namespace Go.Proofs.YtecmldnigohjfabDoor
open Go.RowKit

set_option linter.unusedVariables false

/-- the first latches are right -/
def LatTo (c : Cr) (q : Nat) : Prop := ∀ j, j < q → 0 ≤ c.nx j ∧ c.nx j / 2 ≤ c.sz ∧ 0 ≤ c.rs j ∧ c.rs j ≤ 2
theorem LatTo.snoc {c : Cr} {q : Nat} (h : LatTo c q) (h1 : 0 ≤ c.nx q ∧ c.nx q / 2 ≤ c.sz ∧ 0 ≤ c.rs q ∧ c.rs q ≤ 2) : LatTo c (q + 1) := fun j hj => by
  rcases Nat.lt_succ_iff_lt_or_eq.1 hj with h' | h'
  · exact h j h'
  · subst h'; exact h1
/-- the first gates are right -/
def GatTo (c : Cr) (q : Nat) : Prop := ∀ j, j < q → 0 ≤ c.gb j ∧ c.gb j ≤ c.ga j ∧ c.ga j / 2 ≤ c.i + c.nl + j
theorem GatTo.snoc {c : Cr} {q : Nat} (h : GatTo c q) (h1 : 0 ≤ c.gb q ∧ c.gb q ≤ c.ga q ∧ c.ga q / 2 ≤ c.i + c.nl + q) : GatTo c (q + 1) := fun j hj => by
  rcases Nat.lt_succ_iff_lt_or_eq.1 hj with h' | h'
  · exact h j h'
  · subst h'; exact h1

end Go.Proofs.YtecmldnigohjfabDoor

namespace Go.Proofs.YtecmldnigohjfabDoor
open Go.RowKit

set_option linter.unusedVariables false

/-- what is right apart from the gates -/
def Cr.litsB (c : Cr) : Bool := c.latB && Cr.allB c.sz c.bd c.nb && Cr.allB c.sz c.cn c.nc

theorem mem_alloc {w : World} {c : Cr} {p : Pl} (h : Mem w w.heap.size c p) (o : Obj) : Mem (w.alloc o) (w.alloc o).heap.size c p :=
  h.to (Below.alloc (Below.refl _ _) (Nat.le_refl _) _) (by simp)

/-- the check's answer where neither the number of inputs is below 0 nor one of the lists too long -/
theorem gatB_eq {c : Cr} (h0 : 0 ≤ c.i) (h1 : c.sz ≤ 1000) {j : Nat} (hj : j < c.na) : 0 ≤ 1 + c.i + c.nl + j ∧ 1 + c.i + c.nl + j ≤ 1000 := by
  have : c.sz = c.i + c.nl + c.na := rfl
  omega

end Go.Proofs.YtecmldnigohjfabDoor

namespace Go.Proofs.YtecmldnigohjfabDoor
open Go.RowKit

set_option linter.unusedVariables false

theorem Cr.chk_tm {c : Cr} (h : ¬ c.i < 0) (h1 : c.tm = true) : c.chk = 4 := Cr.chk_many h (of_decide_eq_true h1)
theorem Cr.tm_no {c : Cr} (h1 : c.tm = false) : c.sz ≤ 1000 ∧ c.nb ≤ 100 ∧ c.nc ≤ 100 := by have := of_decide_eq_false h1; omega
theorem Cr.chk_l {c : Cr} (h : ¬ c.i < 0) (h1 : c.tm = false) (h2 : c.litsB = false ∨ c.gatB = false) : c.chk = 8 :=
  Cr.chk_bad h (of_decide_eq_false h1) fun ⟨a, b, d, e⟩ => by rcases h2 with h2 | h2 <;> simp_all [Cr.litsB]
theorem Cr.chk_y {c : Cr} (h : ¬ c.i < 0) (h1 : c.tm = false) (h2 : c.litsB = true) (h3 : c.gatB = true) : c.chk = 0 :=
  Cr.chk_ok h (of_decide_eq_false h1) (by simp [Cr.litsB] at h2; exact ⟨h2.1.2, h2.2, h2.1.1, h3⟩)

theorem Cr.chk_zero {c : Cr} (h : c.chk = 0) : 0 ≤ c.i ∧ c.sz ≤ 1000 ∧ c.nb ≤ 100 ∧ c.nc ≤ 100 ∧ Cr.allB c.sz c.bd c.nb = true ∧ Cr.allB c.sz c.cn c.nc = true ∧ c.latB = true ∧ c.gatB = true := by
  unfold Cr.chk at h
  split at h
  · omega
  · split at h
    · omega
    · split at h
      · rename_i h1 h2 h3
        exact ⟨by omega, by omega, by omega, by omega, h3⟩
      · omega

theorem Cr.chk_i {c : Cr} (h : (c.chk == 0) = true) (hs : Sm c) : 0 ≤ c.i ∧ c.i ≤ 1000 ∧ c.sz ≤ 1000 := by
  have h1 := Cr.chk_zero (beq_iff_eq.1 h)
  have : c.sz = c.i + c.nl + c.na := rfl
  omega

/-- what Vars says -/
def Cr.vrs (c : Cr) : Int := if c.chk = 0 then c.sz else 0

end Go.Proofs.YtecmldnigohjfabDoor
