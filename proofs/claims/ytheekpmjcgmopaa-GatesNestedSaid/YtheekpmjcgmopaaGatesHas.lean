/- The law's function has: whether a list has all numbers of another one, in order. -/
import Derived.Test.YtheekpmjcgmopaaGatesMath
import Derived.Test.YtheekpmjcgmopaaGatesSame
namespace Go.Proofs.Ytheekpmjcgmopaa
open Go.RowKit
set_option linter.unusedVariables false

/-- how many numbers of m have been met when the first i of l have been looked at -/
def met (l m : List Int) : Nat → Nat
  | 0 => 0
  | i + 1 => if met l m i < m.length ∧ l.getD i 0 = m.getD (met l m i) 0 then met l m i + 1 else met l m i
theorem met_le (l m : List Int) : ∀ i, met l m i ≤ m.length
  | 0 => Nat.zero_le _
  | i + 1 => by
    have := met_le l m i
    unfold met
    split <;> omega
theorem met_stay (l m : List Int) (i : Nat) (h : met l m i = m.length) : ∀ d, met l m (i + d) = m.length
  | 0 => h
  | d + 1 => by
    have := met_stay l m i h d
    rw [← Nat.add_assoc]
    unfold met
    rw [if_neg (by omega), this]
theorem met_yes {l m : List Int} {i : Nat} (h : met l m i < m.length) (h' : l.getD i 0 = m.getD (met l m i) 0) : met l m (i + 1) = met l m i + 1 := by
  conv => lhs; unfold met
  rw [if_pos ⟨h, h'⟩]
theorem met_no {l m : List Int} {i : Nat} (h' : ¬ l.getD i 0 = m.getD (met l m i) 0) : met l m (i + 1) = met l m i := by
  conv => lhs; unfold met
  rw [if_neg (fun h => h' h.2)]
/-- the scan of l behind its first number -/
theorem met_cons (x : Int) (l : List Int) : ∀ (m : List Int) (i : Nat), met (x :: l) m (i + 1) = if 0 < m.length ∧ x = m.getD 0 0 then met l (m.drop 1) i + 1 else met l m i
  | m, 0 => by simp [met]
  | m, i + 1 => by
    have ih := met_cons x l m i
    conv => lhs; unfold met
    rw [ih]
    by_cases h : 0 < m.length ∧ x = m.getD 0 0
    · rw [if_pos h, if_pos h]
      have e1 : (m.drop 1).length = m.length - 1 := List.length_drop
      have e2 : (m.drop 1).getD (met l (m.drop 1) i) 0 = m.getD (met l (m.drop 1) i + 1) 0 := by
        rw [List.getD_eq_getElem?_getD, List.getD_eq_getElem?_getD, List.getElem?_drop, Nat.add_comm 1]
      have hle := met_le l (m.drop 1) i
      conv => rhs; unfold met
      rw [e1, e2]
      have e3 : (x :: l).getD (i + 1) 0 = l.getD i 0 := by simp
      rw [e3]
      by_cases h2 : met l (m.drop 1) i + 1 < m.length ∧ l.getD i 0 = m.getD (met l (m.drop 1) i + 1) 0
      · rw [if_pos h2, if_pos ⟨by omega, h2.2⟩]
      · rw [if_neg h2, if_neg (fun h3 => h2 ⟨by omega, h3.2⟩)]
    · rw [if_neg h, if_neg h]
      conv => rhs; unfold met
      have e3 : (x :: l).getD (i + 1) 0 = l.getD i 0 := by simp
      rw [e3]
theorem met_sub : ∀ {l m : List Int}, List.Sublist m l → met l m l.length = m.length
  | [], m, h => by cases h; rfl
  | x :: l, m, h => by
    rw [List.length_cons, met_cons]
    by_cases h2 : 0 < m.length ∧ x = m.getD 0 0
    · rw [if_pos h2]
      have hs : List.Sublist (m.drop 1) l := by
        cases h with
        | cons _ h => exact (List.drop_sublist 1 m).trans h
        | cons_cons _ h => simpa using h
      rw [met_sub hs, List.length_drop]; omega
    · rw [if_neg h2]
      cases h with
      | cons _ h => exact met_sub h
      | cons_cons _ h => exact absurd ⟨by simp, by simp⟩ h2
theorem cnL_sub {R R' : Nat → Bool} (h : ∀ v, R' v = true → R v = true) : ∀ q, List.Sublist (Cr.cnL R' q) (Cr.cnL R q)
  | 0 => List.Sublist.slnil
  | q + 1 => by
    have ih := cnL_sub h q
    by_cases h1 : 0 < q ∧ R' q = true
    · rw [Cr.cnL_yes h1, Cr.cnL_yes ⟨h1.1, h q h1.2⟩]
      exact ih.append (List.Sublist.refl _)
    · rw [Cr.cnL_no h1]
      by_cases h2 : 0 < q ∧ R q = true
      · rw [Cr.cnL_yes h2]; exact ih.trans (List.sublist_append_left _ _)
      · rw [Cr.cnL_no h2]; exact ih

set_option maxRecDepth 100000 in
set_option maxHeartbeats 2000000 in
theorem has_any (A A' : Option Addr) (k k' : Nat) (xs ys : List Int) (B : Nat) (w : World) (hn : xs.length ≤ 100000) (hm : ys.length ≤ 100000) (hA : IntsAt w B A xs.length (fun j => xs.getD j 0)) (hA' : IntsAt w B A' ys.length (fun j => ys.getD j 0)) :
    Calls Try.prog 27 #[.slice A xs.length k, .slice A' ys.length k'] w fun e w' => e = .returned (.bool (decide (met xs ys xs.length = ys.length))) ∧ Below w.heap.size w w' := by
  go_enter Try.func27, Try.ntmps27
  go_wp2
  go_loopw [5, 6] (fun v i wr => ∃ q t : Nat, q ≤ xs.length ∧ t ≤ ys.length ∧ i = .int .i64 q ∧ v = .int .i64 t ∧ Hid (t = met xs ys q) ∧ ∃ d, wr = w.drewN d) (fun _ i _ => xs.length - (intOf i).toNat)
  case atStart => exact ⟨0, 0, Nat.zero_le _, Nat.zero_le _, rfl, rfl, rfl, 0, rfl⟩
  case round =>
    obtain ⟨q, t, hq, hty, rfl, rfl, ht, d, rfl⟩ := hrel
    by_cases hlt : q < xs.length
    · have hq0 : (0 : Int) ≤ (q : Int) := by omega
      have hq1 : (q : Int) < xs.length := by omega
      by_cases htl : t < ys.length
      · obtain ⟨a, rfl, hb, hc⟩ := hA (by omega)
        obtain ⟨a', rfl, hb', hc'⟩ := hA' (by omega)
        have y : w.cell? (a.add q) = some (.int .i64 (xs.getD q 0)) := hc q hlt
        have y' : w.cell? (a'.add t) = some (.int .i64 (ys.getD t 0)) := hc' t htl
        have ht0 : (0 : Int) ≤ (t : Int) := by omega
        have ht1 : (t : Int) < ys.length := by omega
        clear hc hc'
        obtain ⟨u, hu⟩ : ∃ u, xs.getD q 0 = u := ⟨_, rfl⟩
        obtain ⟨u', hu'⟩ : ∃ u', ys.getD t 0 = u' := ⟨_, rfl⟩
        rw [hu] at y
        rw [hu'] at y'
        have HT := ht.out
        by_cases he : u = u'
        · have hnext : Hid (t + 1 = met xs ys (q + 1)) := by
            show _ = _
            rw [met_yes (by omega) (by rw [hu, ← HT, hu', he]), ← HT]
          have h1 : (u == u') = true := by simp [he]
          clear he hu hu' HT
          go_wp2
          go_quiet (fail)
          go_wp2
          go_roundw
          case rel => exact ⟨q + 1, t + 1, by omega, by omega, by go_num, by go_num, hnext, _, rfl⟩
          case measure => simp [intOf]; omega
        · have hnext : Hid (t = met xs ys (q + 1)) := by
            show _ = _
            rw [met_no (by rw [hu, ← HT, hu']; exact he), ← HT]
          have h1 : (u == u') = false := by simp [he]
          clear he hu hu' HT
          go_wp2
          go_quiet (fail)
          go_wp2
          go_roundw
          case rel => exact ⟨q + 1, t, by omega, by omega, by go_num, by go_num, hnext, _, rfl⟩
          case measure => simp [intOf]; omega
      · have HR : Hid (met xs ys xs.length = ys.length) := by
          have h1 := ht.out
          have h2 := met_stay xs ys q (by omega) (xs.length - q)
          have e : q + (xs.length - q) = xs.length := by omega
          rw [e] at h2
          exact h2
        have h3 : ((t : Int) == (ys.length : Int)) = true := by simp; omega
        have h4 : decide (t < ys.length) = false := by simp; omega
        go_wp2
        go_ret
        exact ⟨Li.ret_bool (decide_eq_true HR.out).symm, below_dn (Below.refl _ _) _⟩
    · obtain rfl : q = xs.length := by omega
      have HR : Hid (((t : Int) == (ys.length : Int)) = decide (met xs ys xs.length = ys.length)) := by
        show _ = _
        rw [← ht.out, Bool.eq_iff_iff]; simp; omega
      clear hq hlt ht
      go_wp2
      go_ret
      exact ⟨Li.ret_bool HR.out, below_dn (Below.refl _ _) _⟩

/-- a list that has all numbers of another one -/
theorem has_sub (A A' : Option Addr) (k k' : Nat) (xs ys : List Int) (B : Nat) (w : World) (hn : xs.length ≤ 100000) (hm : ys.length ≤ 100000) (hA : IntsAt w B A xs.length (fun j => xs.getD j 0)) (hA' : IntsAt w B A' ys.length (fun j => ys.getD j 0)) (h : List.Sublist ys xs) :
    Calls Try.prog 27 #[.slice A xs.length k, .slice A' ys.length k'] w fun e w' => e = .returned (.bool true) ∧ Below w.heap.size w w' := by
  have := has_any A A' k k' xs ys B w hn hm hA hA'
  rwa [decide_eq_true (met_sub h)] at this
