/- The reference's contracts: Lit, Vars, Has, Not, Valid, Check, Truth, Holds, Part, True, Same. -/
import Derived.Test.YtigfdfbjpelcaaaClProg3
namespace Go.Proofs.Ytigfdfbjpelcaaa
open Go Go.RowKit
set_option linter.unusedVariables false
set_option linter.unusedSimpArgs false

/-- a list has a number -/
def hs (l : List Int) (x : Int) : Bool := l.contains x
theorem hs_iff {l : List Int} {x : Int} : hs l x = true ↔ x ∈ l := by unfold hs; simp
theorem hs_no {l : List Int} {x : Int} : hs l x = false ↔ x ∉ l := by rw [← Bool.not_eq_true, hs_iff]
theorem dn_dn (w : World) (d e : Nat) : (w.drewN d).drewN e = w.drewN (d + e) := by simp [World.drewN, Nat.add_assoc]

theorem rVars_any (v : Int) (w : World) : Calls Try.prog 33 #[.int .i64 v] w fun e w' => e = .returned (.bool (!decide (v < 0 ∨ 4000 < v))) ∧ w = w' := by
  by_cases h0 : 0 ≤ v
  · by_cases h1 : v ≤ 4000
    · have e : (!decide (v < 0 ∨ 4000 < v)) = true := by simp; omega
      rw [e]
      go_enter Try.func33, Try.ntmps33
      go_wp2
      go_ret
      exact ⟨rfl, rfl⟩
    · have e : (!decide (v < 0 ∨ 4000 < v)) = false := by simp; omega
      rw [e]
      go_enter Try.func33, Try.ntmps33
      go_wp2
      go_ret
      exact ⟨rfl, rfl⟩
  · have e : (!decide (v < 0 ∨ 4000 < v)) = false := by simp; omega
    rw [e]
    go_enter Try.func33, Try.ntmps33
    go_wp2
    go_ret
    exact ⟨rfl, rfl⟩

theorem rLit_any (v x : Int) (hv : 0 ≤ v ∧ v ≤ 5000) (w : World) : Calls Try.prog 24 #[.int .i64 v, .int .i64 x] w fun e w' => e = .returned (.bool (isL v x)) ∧ w = w' := by
  obtain ⟨v0, v1⟩ := hv
  by_cases h0 : 2 ≤ x
  · by_cases h1 : x ≤ 2 * v + 1
    · have e : isL v x = true := isL_iff.2 (by omega)
      rw [e]
      go_enter Try.func24, Try.ntmps24
      go_wp2
      go_ret
      exact ⟨rfl, rfl⟩
    · have e : isL v x = false := by rw [← Bool.not_eq_true, isL_iff]; omega
      rw [e]
      go_enter Try.func24, Try.ntmps24
      go_wp2
      go_ret
      exact ⟨rfl, rfl⟩
  · have e : isL v x = false := by rw [← Bool.not_eq_true, isL_iff]; omega
    rw [e]
    go_enter Try.func24, Try.ntmps24
    go_wp2
    go_ret
    exact ⟨rfl, rfl⟩

theorem rNot_any (x : Int) (hx : 0 ≤ x ∧ x ≤ 1000000) (w : World) : Calls Try.prog 45 #[.int .i64 x] w fun e w' => e = .returned (.int .i64 (ng x)) ∧ w = w' := by
  obtain ⟨x0, x1⟩ := hx
  have hr : x.tmod 2 = x % 2 := Int.tmod_eq_emod_of_nonneg (by omega)
  by_cases he : x % 2 = 0
  · rw [show ng x = x + 1 by unfold ng; rw [if_pos he]]
    have e1 : (x % 2 == 0) = true := by simpa using he
    clear he
    go_enter Try.func45, Try.ntmps45
    go_wp2
    go_ret
    exact ⟨rfl, rfl⟩
  · rw [show ng x = x - 1 by unfold ng; rw [if_neg he]]
    have e1 : (x % 2 == 0) = false := by simpa using he
    clear he
    go_enter Try.func45, Try.ntmps45
    go_wp2
    go_ret
    exact ⟨rfl, rfl⟩

set_option maxRecDepth 100000 in
set_option maxHeartbeats 1000000 in
theorem rHas_any (A : Option Addr) (l : List Int) (k : Nat) (x : Int) (B : Nat) (w : World) (h : Ia w B A l k) (hl : l.length ≤ 200000) :
    Calls Try.prog 23 #[.slice A l.length k, .int .i64 x] w fun e w' => e = .returned (.bool (hs l x)) ∧ w = w' := by
  obtain ⟨n, hn⟩ : ∃ n, n = l.length := ⟨_, rfl⟩
  rw [← hn]
  have hl' : n ≤ 200000 := by rw [hn]; exact hl
  have HH := Lib.hid (And.intro h hn)
  clear h hl hn
  go_enter Try.func23, Try.ntmps23
  go_wp2
  go_loopw [5] (fun i wr => ∃ j : Nat, j ≤ n ∧ i = .int .i64 (j : Int) ∧ (∀ q, q < j → l.getD q 0 ≠ x) ∧ w = wr) (fun i _ => n - (intOf i).toNat)
  case atStart => exact ⟨0, Nat.zero_le _, rfl, fun q hq => absurd hq (Nat.not_lt_zero _), rfl⟩
  case round =>
    obtain ⟨j, hj, rfl, hok, rfl⟩ := hrel
    by_cases hlt : j < n
    · obtain ⟨b, o, rfl, hb0, hcs⟩ := HH.out.1.cells (by have := HH.out.2; omega)
      have hjl : j < l.length := by have := HH.out.2; omega
      have y := hcs j hjl
      have hj1 : (j : Int) < (n : Int) := by omega
      have hj0 : (0 : Int) ≤ (j : Int) := by omega
      obtain ⟨u, hu⟩ : ∃ u, u = l.getD j 0 := ⟨_, rfl⟩
      rw [← hu] at y
      by_cases he : u = x
      · have e1 : (u == x) = true := by simpa using he
        have HR := Lib.hid (hs_iff.2 (by have := getD_mem hjl; rw [← hu, he] at this; exact this))
        clear hcs hu hok he
        go_wp2
        go_ret
        exact ⟨by first | (rw [HR.out]; rfl) | rfl, rfl⟩
      · have e1 : (u == x) = false := by simpa using he
        have HK := Lib.hid (And.intro hok (show l.getD j 0 ≠ x by rw [← hu]; exact he))
        clear hcs hu hok he
        go_wp2
        go_roundw
        case rel => exact ⟨j + 1, by omega, by go_num, fun q hq => by
          rcases Nat.lt_succ_iff_lt_or_eq.1 hq with h' | h'
          · exact HK.out.1 q h'
          · subst h'; exact HK.out.2, by trivial⟩
        case measure => simp [intOf]; omega
    · have HR := Lib.hid (hs_no.2 fun h => by
        obtain ⟨q, hq, e⟩ := mem_getD h
        exact hok q (by have := HH.out.2; omega) e)
      have hjn : ¬ (j : Int) < (n : Int) := by omega
      clear hok
      go_wp2
      go_ret
      exact ⟨by first | (rw [HR.out]; rfl) | rfl, rfl⟩

set_option maxRecDepth 100000 in
set_option maxHeartbeats 4000000 in
theorem rValid_any (v : Int) (hv : 0 ≤ v ∧ v ≤ 4000) (A : Option Addr) (l : List Int) (k : Nat) (w : World) (h : Ia w w.heap.size A l k) (hl : l.length ≤ 9223372036854775807) (hr : ∀ x ∈ l, I64 x) :
    Calls Try.prog 37 #[.int .i64 v, .slice A l.length k] w fun e w' => e = .returned (.bool (okC v l)) ∧ ∃ d, w' = w.drewN d := by
  obtain ⟨n, hn⟩ : ∃ n, n = l.length := ⟨_, rfl⟩
  rw [← hn]
  have hl' : n ≤ 9223372036854775807 := by rw [hn]; exact hl
  have HH := Lib.hid (And.intro h (And.intro hr hn))
  have HL := Lib.hid fun (x : Int) (W : World) => rLit_any v x (by omega) W
  clear h hl hr hn
  go_enter Try.func37, Try.ntmps37
  go_wp2
  go_loopw [5] (fun i wr => ∃ j : Nat, j ≤ n ∧ i = .int .i64 (j : Int) ∧ (∀ q, q < j → okJ v l q) ∧ ∃ d, wr = w.drewN d) (fun i _ => n - (intOf i).toNat)
  case atStart => exact ⟨0, Nat.zero_le _, rfl, fun q hq => absurd hq (Nat.not_lt_zero _), 0, rfl⟩
  case round =>
    obtain ⟨j, hj, rfl, hok, d, rfl⟩ := hrel
    by_cases hlt : j < n
    · obtain ⟨b, o, rfl, hb0, hcs⟩ := HH.out.1.cells (by have := HH.out.2.2; omega)
      have hjl : j < l.length := by have := HH.out.2.2; omega
      have y := hcs j hjl
      have hj1 : (j : Int) < (n : Int) := by omega
      have hj0 : (0 : Int) ≤ (j : Int) := by omega
      have D0 := HL.out (l.getD j 0)
      obtain ⟨u, hu⟩ : ∃ u, u = l.getD j 0 := ⟨_, rfl⟩
      rw [← hu] at y D0
      cases eL : isL v u with
      | false =>
        rw [eL] at D0
        have D := Lib.hid D0
        have HR := Lib.hid (okC_no hjl (fun h => by have h1 := h.1; rw [← hu, eL] at h1; cases h1))
        clear hcs hu hok eL D0
        go_wp2
        go_quiet ((go_at_call 24; with_reducible first | exact qs (D.out _) | exact qs2 (D.out _)))
        go_wp2
        go_ret
        exact ⟨by first | (rw [HR.out]; rfl) | rfl, by first | exact ⟨_, rfl⟩ | exact ⟨_, dn_dn _ _ _⟩⟩
      | true =>
        rw [eL] at D0
        have D := Lib.hid D0
        obtain ⟨u1, u2⟩ := isL_iff.1 eL
        rcases Nat.eq_zero_or_pos j with hz | hz
        · have HK := Lib.hid (And.intro hok (show okJ v l j from ⟨by rw [← hu]; exact eL, Or.inl hz⟩))
          have d0 : decide (0 < j) = false := decide_eq_false (by omega)
          clear hcs hu hok eL D0 hz
          go_wp2
          go_quiet ((go_at_call 24; with_reducible first | exact qs (D.out _) | exact qs2 (D.out _)))
          go_wp2
          go_roundw
          case rel => exact ⟨j + 1, by omega, by go_num, fun q hq => by
            rcases Nat.lt_succ_iff_lt_or_eq.1 hq with h' | h'
            · exact HK.out.1 q h'
            · subst h'; exact HK.out.2, by first | exact ⟨_, rfl⟩ | exact ⟨_, dn_dn _ _ _⟩⟩
          case measure => simp [intOf]; omega
        · have y' := hcs (j - 1) (by omega)
          have hpl := (hok (j - 1) (by omega)).1
          obtain ⟨p, hp⟩ : ∃ p, p = l.getD (j - 1) 0 := ⟨_, rfl⟩
          rw [← hp] at y' hpl
          obtain ⟨p1, p2⟩ := isL_iff.1 hpl
          have d0 : decide (0 < j) = true := decide_eq_true (by omega)
          have hr : p.tmod 2 = p % 2 := Int.tmod_eq_emod_of_nonneg (by omega)
          have i0 : (0 : Int) ≤ (j : Int) - 1 := by omega
          have i1 : (j : Int) - 1 < (n : Int) := by omega
          by_cases hd : p / 2 < u / 2
          · have HK := Lib.hid (And.intro hok (show okJ v l j from ⟨by rw [← hu]; exact eL, Or.inr (by rw [← hu, ← hp]; exact hd)⟩))
            have f1 : decide (u - p < 1) = false := decide_eq_false (by omega)
            by_cases he : p % 2 = 0
            · have e1 : (p % 2 == 0) = true := by simpa using he
              have e2 : (u == p + 1) = false := by simp only [beq_eq_false_iff_ne]; omega
              clear hcs hpl D0 hu hok eL hp hd he hz
              go_wp2
              go_quiet ((go_at_call 24; with_reducible first | exact qs (D.out _) | exact qs2 (D.out _)))
              go_wp2
              go_roundw
              case rel => exact ⟨j + 1, by omega, by go_num, fun q hq => by
                rcases Nat.lt_succ_iff_lt_or_eq.1 hq with h' | h'
                · exact HK.out.1 q h'
                · subst h'; exact HK.out.2, by first | exact ⟨_, rfl⟩ | exact ⟨_, dn_dn _ _ _⟩⟩
              case measure => simp [intOf]; omega
            · have e1 : (p % 2 == 0) = false := by simpa using he
              clear hcs hpl D0 hu hok eL hp hd he hz
              go_wp2
              go_quiet ((go_at_call 24; with_reducible first | exact qs (D.out _) | exact qs2 (D.out _)))
              go_wp2
              go_roundw
              case rel => exact ⟨j + 1, by omega, by go_num, fun q hq => by
                rcases Nat.lt_succ_iff_lt_or_eq.1 hq with h' | h'
                · exact HK.out.1 q h'
                · subst h'; exact HK.out.2, by first | exact ⟨_, rfl⟩ | exact ⟨_, dn_dn _ _ _⟩⟩
              case measure => simp [intOf]; omega
          · have HR := Lib.hid (okC_no (v := v) hjl (fun h => by
              rcases h.2 with h' | h'
              · omega
              · rw [← hu, ← hp] at h'; exact hd h'))
            by_cases hs1 : u - p < 1
            · have f1 : decide (u - p < 1) = true := decide_eq_true hs1
              clear hcs hpl D0 hu hok eL hp hd hz hs1
              go_wp2
              go_quiet ((go_at_call 24; with_reducible first | exact qs (D.out _) | exact qs2 (D.out _)))
              go_wp2
              go_ret
              exact ⟨by first | (rw [HR.out]; rfl) | rfl, by first | exact ⟨_, rfl⟩ | exact ⟨_, dn_dn _ _ _⟩⟩
            · have f1 : decide (u - p < 1) = false := decide_eq_false hs1
              have e1 : (p % 2 == 0) = true := by simp only [beq_iff_eq]; omega
              have e2 : (u == p + 1) = true := by simp only [beq_iff_eq]; omega
              clear hcs hpl D0 hu hok eL hp hd hz hs1
              go_wp2
              go_quiet ((go_at_call 24; with_reducible first | exact qs (D.out _) | exact qs2 (D.out _)))
              go_wp2
              go_ret
              exact ⟨by first | (rw [HR.out]; rfl) | rfl, by first | exact ⟨_, rfl⟩ | exact ⟨_, dn_dn _ _ _⟩⟩
    · have HR := Lib.hid (okC_yes fun q hq => hok q (by have := HH.out.2.2; omega))
      have hjn : ¬ (j : Int) < (n : Int) := by omega
      clear hok
      go_wp2
      go_ret
      exact ⟨by first | (rw [HR.out]; rfl) | rfl, by first | exact ⟨_, rfl⟩ | exact ⟨_, dn_dn _ _ _⟩⟩

end Go.Proofs.Ytigfdfbjpelcaaa
