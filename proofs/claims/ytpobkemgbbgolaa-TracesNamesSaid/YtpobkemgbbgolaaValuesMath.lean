/- The values of all variables in a frame, as a function of the variable. -/
import Derived.Test.YtpobkemgbbgolaaGatesMore
namespace Go.Proofs.Ytpobkemgbbgolaa
open Go.RowKit
set_option linter.unusedVariables false

/-- the value of a literal by those of all variables -/
def vlo (F : Nat → Bool) (l : Int) : Bool := F (l / 2).toNat != Li.od l
theorem vlo_congr {F G : Nat → Bool} {l : Int} (h : F (l / 2).toNat = G (l / 2).toNat) : vlo F l = vlo G l := by unfold vlo; rw [h]
theorem vlo_ng {F : Nat → Bool} {l : Int} (h : 0 ≤ l) : vlo F (Li.ng l) = !vlo F l := by
  have e : (Li.ng l / 2).toNat = (l / 2).toNat := by unfold Li.ng; split <;> omega
  have o : Li.od (Li.ng l) = !Li.od l := by
    unfold Li.od
    rw [Bool.eq_iff_iff]
    simp only [beq_iff_eq, Bool.not_eq_true', beq_eq_false_iff_ne]
    unfold Li.ng
    split <;> omega
  unfold vlo
  rw [e, o]
  cases F (l / 2).toNat <;> cases Li.od l <;> rfl

namespace Cr
/-- the values when k gates have theirs: s the state, t the inputs -/
def frA (c : Cr) (s t : Nat → Bool) : Nat → Nat → Bool
  | 0, v => if v = 0 then false else if v < 1 + c.i.toNat then t (v - 1) else if v < c.fg then s (v - (1 + c.i.toNat)) else false
  | k + 1, v => if v = c.fg + k then vlo (frA c s t k) (c.ga k) && vlo (frA c s t k) (c.gb k) else frA c s t k v
/-- the values of all variables -/
def fr (c : Cr) (s t : Nat → Bool) : Nat → Bool := c.frA s t c.na
variable {c : Cr} {s t : Nat → Bool}
theorem frA_succ (c : Cr) (s t : Nat → Bool) (k : Nat) : c.frA s t (k + 1) = fun v => if v = c.fg + k then vlo (c.frA s t k) (c.ga k) && vlo (c.frA s t k) (c.gb k) else c.frA s t k v := rfl
theorem frA_ge (c : Cr) (s t : Nat → Bool) : ∀ k v, c.fg + k ≤ v → c.frA s t k v = false
  | 0, v, h => by
    unfold frA
    have : 1 + c.i.toNat ≤ c.fg := by unfold fg; omega
    rw [if_neg (by omega), if_neg (by omega), if_neg (by omega)]
  | k + 1, v, h => by
    rw [frA_succ]
    show (if v = c.fg + k then _ else _) = _
    rw [if_neg (by omega)]
    exact frA_ge c s t k v (by omega)
theorem frA_stay (c : Cr) (s t : Nat → Bool) (k v : Nat) (h : v < c.fg + k) : ∀ d, c.frA s t (k + d) v = c.frA s t k v
  | 0 => rfl
  | d + 1 => by
    rw [← Nat.add_assoc, frA_succ]
    show (if v = c.fg + (k + d) then _ else _) = _
    rw [if_neg (by omega)]
    exact frA_stay c s t k v h d
theorem fr_of {k v : Nat} (h : v < c.fg + k) (hk : k ≤ c.na) : c.fr s t v = c.frA s t k v := by
  have := frA_stay c s t k v h (c.na - k)
  rw [Nat.add_sub_cancel' hk] at this
  exact this
theorem fr_zero : c.fr s t 0 = false := by
  rw [fr_of (k := 0) (by unfold fg; omega) (Nat.zero_le _)]; rfl
theorem fr_in {v : Nat} (h0 : 1 ≤ v) (h : v < 1 + c.i.toNat) : c.fr s t v = t (v - 1) := by
  rw [fr_of (k := 0) (by unfold fg; omega) (Nat.zero_le _)]
  unfold frA
  rw [if_neg (by omega), if_pos h]
theorem fr_st {v : Nat} (h0 : 1 + c.i.toNat ≤ v) (h : v < c.fg) : c.fr s t v = s (v - (1 + c.i.toNat)) := by
  rw [fr_of (k := 0) (by omega) (Nat.zero_le _)]
  unfold frA
  rw [if_neg (by omega), if_neg (by omega), if_pos h]
/-- each gate is the AND of its parts -/
theorem frA_gate (h : c.chk = 0) {k : Nat} (hk : k < c.na) : vlo (c.frA s t k) (c.ga k) = vlo (c.fr s t) (c.ga k) ∧ vlo (c.frA s t k) (c.gb k) = vlo (c.fr s t) (c.gb k) := by
  obtain ⟨p1, p2⟩ := part_lt h hk
  exact ⟨vlo_congr (fr_of p1 (by omega)).symm, vlo_congr (fr_of p2 (by omega)).symm⟩
theorem fr_gate (h : c.chk = 0) {k : Nat} (hk : k < c.na) : c.fr s t (c.fg + k) = (vlo (c.fr s t) (c.ga k) && vlo (c.fr s t) (c.gb k)) := by
  rw [fr_of (k := k + 1) (by omega) (by omega), ← (frA_gate h hk).1, ← (frA_gate h hk).2, frA_succ]
  show (if c.fg + k = c.fg + k then _ else _) = _
  rw [if_pos rfl]
/-- the only values of which this may be said, up to a variable -/
theorem fr_uniq (h : c.chk = 0) {F : Nat → Bool} (n : Nat) (hb : ∀ v, v < c.fg → v < n → F v = c.fr s t v) (hg : ∀ k, k < c.na → c.fg + k < n → F (c.fg + k) = (vlo F (c.ga k) && vlo F (c.gb k))) : ∀ v, v < n → v < c.fg + c.na → F v = c.fr s t v := fun v => by
  induction v using Nat.strongRecOn with
  | _ v ih =>
    intro hv hn
    by_cases hf : v < c.fg
    · exact hb v hf hv
    · obtain ⟨k, rfl⟩ : ∃ k, v = c.fg + k := ⟨v - c.fg, by omega⟩
      obtain ⟨p1, p2⟩ := part_lt h (j := k) (by omega)
      rw [hg k (by omega) hv, fr_gate h (by omega), vlo_congr (ih _ p1 (by omega) (by omega)), vlo_congr (ih _ p2 (by omega) (by omega))]
end Cr
end Go.Proofs.Ytpobkemgbbgolaa
