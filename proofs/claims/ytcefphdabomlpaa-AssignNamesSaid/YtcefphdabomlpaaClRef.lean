/- The reference's contracts: Lit, Vars, Has, Not, Valid, Check, Truth, Holds, Part, True, Same. -/
import Derived.Test.YtcefphdabomlpaaClProg3
namespace Go.Proofs.Ytcefphdabomlpaa
open Go Go.RowKit
set_option linter.unusedVariables false
set_option linter.unusedSimpArgs false

/-- a list has a number -/
def hs (l : List Int) (x : Int) : Bool := l.contains x
theorem hs_iff {l : List Int} {x : Int} : hs l x = true ↔ x ∈ l := by unfold hs; simp
theorem hs_no {l : List Int} {x : Int} : hs l x = false ↔ x ∉ l := by rw [← Bool.not_eq_true, hs_iff]
theorem dn_dn (w : World) (d e : Nat) : (w.drewN d).drewN e = w.drewN (d + e) := by simp [World.drewN, Nat.add_assoc]

theorem rVars_any (v : Int) (w : World) : Calls Try.prog 31 #[.int .i64 v] w fun e w' => e = .returned (.bool (!decide (v < 0 ∨ 4000 < v))) ∧ w = w' := by
  by_cases h0 : 0 ≤ v
  · by_cases h1 : v ≤ 4000
    · have e : (!decide (v < 0 ∨ 4000 < v)) = true := by simp; omega
      rw [e]
      go_enter Try.func31, Try.ntmps31
      go_wp2
      go_ret
      exact ⟨rfl, rfl⟩
    · have e : (!decide (v < 0 ∨ 4000 < v)) = false := by simp; omega
      rw [e]
      go_enter Try.func31, Try.ntmps31
      go_wp2
      go_ret
      exact ⟨rfl, rfl⟩
  · have e : (!decide (v < 0 ∨ 4000 < v)) = false := by simp; omega
    rw [e]
    go_enter Try.func31, Try.ntmps31
    go_wp2
    go_ret
    exact ⟨rfl, rfl⟩

theorem rLit_any (v x : Int) (hv : 0 ≤ v ∧ v ≤ 5000) (w : World) : Calls Try.prog 27 #[.int .i64 v, .int .i64 x] w fun e w' => e = .returned (.bool (isL v x)) ∧ w = w' := by
  obtain ⟨v0, v1⟩ := hv
  by_cases h0 : 2 ≤ x
  · by_cases h1 : x ≤ 2 * v + 1
    · have e : isL v x = true := isL_iff.2 (by omega)
      rw [e]
      go_enter Try.func27, Try.ntmps27
      go_wp2
      go_ret
      exact ⟨rfl, rfl⟩
    · have e : isL v x = false := by rw [← Bool.not_eq_true, isL_iff]; omega
      rw [e]
      go_enter Try.func27, Try.ntmps27
      go_wp2
      go_ret
      exact ⟨rfl, rfl⟩
  · have e : isL v x = false := by rw [← Bool.not_eq_true, isL_iff]; omega
    rw [e]
    go_enter Try.func27, Try.ntmps27
    go_wp2
    go_ret
    exact ⟨rfl, rfl⟩

theorem rNot_any (x : Int) (hx : 0 ≤ x ∧ x ≤ 1000000) (w : World) : Calls Try.prog 28 #[.int .i64 x] w fun e w' => e = .returned (.int .i64 (ng x)) ∧ w = w' := by
  obtain ⟨x0, x1⟩ := hx
  have hr : x.tmod 2 = x % 2 := Int.tmod_eq_emod_of_nonneg (by omega)
  by_cases he : x % 2 = 0
  · rw [show ng x = x + 1 by unfold ng; rw [if_pos he]]
    have e1 : (x % 2 == 0) = true := by simpa using he
    clear he
    go_enter Try.func28, Try.ntmps28
    go_wp2
    go_ret
    exact ⟨rfl, rfl⟩
  · rw [show ng x = x - 1 by unfold ng; rw [if_neg he]]
    have e1 : (x % 2 == 0) = false := by simpa using he
    clear he
    go_enter Try.func28, Try.ntmps28
    go_wp2
    go_ret
    exact ⟨rfl, rfl⟩

set_option maxRecDepth 100000 in
set_option maxHeartbeats 1000000 in
theorem rHas_any (A : Option Addr) (l : List Int) (k : Nat) (x : Int) (B : Nat) (w : World) (h : Ia w B A l k) (hl : l.length ≤ 200000) :
    Calls Try.prog 29 #[.slice A l.length k, .int .i64 x] w fun e w' => e = .returned (.bool (hs l x)) ∧ w = w' := by
  obtain ⟨n, hn⟩ : ∃ n, n = l.length := ⟨_, rfl⟩
  rw [← hn]
  have hl' : n ≤ 200000 := by rw [hn]; exact hl
  have HH := Lib.hid (And.intro h hn)
  clear h hl hn
  go_enter Try.func29, Try.ntmps29
  go_wp2
  go_loopw [5] (fun i wr => ∃ j : Nat, j ≤ n ∧ i = .int .i64 (j : Int) ∧ (∀ q, q < j → l.getD q 0 ≠ x) ∧ w = wr) (fun i _ => n - (intOf i).toNat)
  case atStart => exact ⟨0, Nat.zero_le _, rfl, fun q hq => absurd hq (Nat.not_lt_zero _), rfl⟩
  case round =>
    obtain ⟨j, hj, rfl, hok, rfl⟩ := hrel
    by_cases hlt : j < n
    · obtain ⟨b, o, rfl, hb0, hcs⟩ := HH.out.1.cells (by have := HH.out.2; omega)
      have hjl : j < l.length := by have := HH.out.2; omega
      have y := hcs j hjl
      have hj1 : (j : Int) < (n : Int) := by omega
      have hj0 : (0 : Int) ≤ (j : Int) := by omega
      obtain ⟨u, hu⟩ : ∃ u, u = l.getD j 0 := ⟨_, rfl⟩
      rw [← hu] at y
      by_cases he : u = x
      · have e1 : (u == x) = true := by simpa using he
        have HR := Lib.hid (hs_iff.2 (by have := getD_mem hjl; rw [← hu, he] at this; exact this))
        clear hcs hu hok he
        go_wp2
        go_ret
        exact ⟨by first | (rw [HR.out]; rfl) | rfl, rfl⟩
      · have e1 : (u == x) = false := by simpa using he
        have HK := Lib.hid (And.intro hok (show l.getD j 0 ≠ x by rw [← hu]; exact he))
        clear hcs hu hok he
        go_wp2
        go_roundw
        case rel => exact ⟨j + 1, by omega, by go_num, fun q hq => by
          rcases Nat.lt_succ_iff_lt_or_eq.1 hq with h' | h'
          · exact HK.out.1 q h'
          · subst h'; exact HK.out.2, by trivial⟩
        case measure => simp [intOf]; omega
    · have HR := Lib.hid (hs_no.2 fun h => by
        obtain ⟨q, hq, e⟩ := mem_getD h
        exact hok q (by have := HH.out.2; omega) e)
      have hjn : ¬ (j : Int) < (n : Int) := by omega
      clear hok
      go_wp2
      go_ret
      exact ⟨by first | (rw [HR.out]; rfl) | rfl, rfl⟩

end Go.Proofs.Ytcefphdabomlpaa
