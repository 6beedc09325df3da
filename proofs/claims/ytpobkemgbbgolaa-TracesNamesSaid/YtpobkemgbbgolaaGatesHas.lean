/- The law's function has: whether a list has all numbers of another one, in order. -/
import Derived.Test.YtpobkemgbbgolaaGatesMath
import Derived.Test.YtpobkemgbbgolaaGatesSame
namespace Go.Proofs.Ytpobkemgbbgolaa
open Go.RowKit
set_option linter.unusedVariables false

/-- how many numbers of m have been met when the first i of l have been looked at -/
def met (l m : List Int) : Nat → Nat
  | 0 => 0
  | i + 1 => if met l m i < m.length ∧ l.getD i 0 = m.getD (met l m i) 0 then met l m i + 1 else met l m i
theorem met_le (l m : List Int) : ∀ i, met l m i ≤ m.length
  | 0 => Nat.zero_le _
  | i + 1 => by
    have := met_le l m i
    unfold met
    split <;> omega
theorem met_stay (l m : List Int) (i : Nat) (h : met l m i = m.length) : ∀ d, met l m (i + d) = m.length
  | 0 => h
  | d + 1 => by
    have := met_stay l m i h d
    rw [← Nat.add_assoc]
    unfold met
    rw [if_neg (by omega), this]
theorem met_yes {l m : List Int} {i : Nat} (h : met l m i < m.length) (h' : l.getD i 0 = m.getD (met l m i) 0) : met l m (i + 1) = met l m i + 1 := by
  conv => lhs; unfold met
  rw [if_pos ⟨h, h'⟩]
theorem met_no {l m : List Int} {i : Nat} (h' : ¬ l.getD i 0 = m.getD (met l m i) 0) : met l m (i + 1) = met l m i := by
  conv => lhs; unfold met
  rw [if_neg (fun h => h' h.2)]
/-- the scan of l behind its first number -/
theorem met_cons (x : Int) (l : List Int) : ∀ (m : List Int) (i : Nat), met (x :: l) m (i + 1) = if 0 < m.length ∧ x = m.getD 0 0 then met l (m.drop 1) i + 1 else met l m i
  | m, 0 => by simp [met]
  | m, i + 1 => by
    have ih := met_cons x l m i
    conv => lhs; unfold met
    rw [ih]
    by_cases h : 0 < m.length ∧ x = m.getD 0 0
    · rw [if_pos h, if_pos h]
      have e1 : (m.drop 1).length = m.length - 1 := List.length_drop
      have e2 : (m.drop 1).getD (met l (m.drop 1) i) 0 = m.getD (met l (m.drop 1) i + 1) 0 := by
        rw [List.getD_eq_getElem?_getD, List.getD_eq_getElem?_getD, List.getElem?_drop, Nat.add_comm 1]
      have hle := met_le l (m.drop 1) i
      conv => rhs; unfold met
      rw [e1, e2]
      have e3 : (x :: l).getD (i + 1) 0 = l.getD i 0 := by simp
      rw [e3]
      by_cases h2 : met l (m.drop 1) i + 1 < m.length ∧ l.getD i 0 = m.getD (met l (m.drop 1) i + 1) 0
      · rw [if_pos h2, if_pos ⟨by omega, h2.2⟩]
      · rw [if_neg h2, if_neg (fun h3 => h2 ⟨by omega, h3.2⟩)]
    · rw [if_neg h, if_neg h]
      conv => rhs; unfold met
      have e3 : (x :: l).getD (i + 1) 0 = l.getD i 0 := by simp
      rw [e3]
theorem met_sub : ∀ {l m : List Int}, List.Sublist m l → met l m l.length = m.length
  | [], m, h => by cases h; rfl
  | x :: l, m, h => by
    rw [List.length_cons, met_cons]
    by_cases h2 : 0 < m.length ∧ x = m.getD 0 0
    · rw [if_pos h2]
      have hs : List.Sublist (m.drop 1) l := by
        cases h with
        | cons _ h => exact (List.drop_sublist 1 m).trans h
        | cons_cons _ h => simpa using h
      rw [met_sub hs, List.length_drop]; omega
    · rw [if_neg h2]
      cases h with
      | cons _ h => exact met_sub h
      | cons_cons _ h => exact absurd ⟨by simp, by simp⟩ h2
theorem cnL_sub {R R' : Nat → Bool} (h : ∀ v, R' v = true → R v = true) : ∀ q, List.Sublist (Cr.cnL R' q) (Cr.cnL R q)
  | 0 => List.Sublist.slnil
  | q + 1 => by
    have ih := cnL_sub h q
    by_cases h1 : 0 < q ∧ R' q = true
    · rw [Cr.cnL_yes h1, Cr.cnL_yes ⟨h1.1, h q h1.2⟩]
      exact ih.append (List.Sublist.refl _)
    · rw [Cr.cnL_no h1]
      by_cases h2 : 0 < q ∧ R q = true
      · rw [Cr.cnL_yes h2]; exact ih.trans (List.sublist_append_left _ _)
      · rw [Cr.cnL_no h2]; exact ih