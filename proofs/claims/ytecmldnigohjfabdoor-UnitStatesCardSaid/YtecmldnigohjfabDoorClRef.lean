/- The reference's contracts: Lit, Vars, Has, Not, Valid, Check, Truth, Holds, Part, True, Same. -/
import Derived.Test.YtecmldnigohjfabDoorClProg
import Derived.Laws.OwnMore
import Derived.Laws.AppendOwnNone
import Derived.BigRegion
namespace Go.Proofs.YtecmldnigohjfabDoor
open Go Go.RowKit
set_option linter.unusedVariables false
set_option linter.unusedSimpArgs false

/-- a list has a number -/
def hs (l : List Int) (x : Int) : Bool := l.contains x
theorem hs_iff {l : List Int} {x : Int} : hs l x = true ↔ x ∈ l := by unfold hs; simp
theorem hs_no {l : List Int} {x : Int} : hs l x = false ↔ x ∉ l := by rw [← Bool.not_eq_true, hs_iff]
theorem dn_dn (w : World) (d e : Nat) : (w.drewN d).drewN e = w.drewN (d + e) := by simp [World.drewN, Nat.add_assoc]

theorem rVars_any (v : Int) (w : World) : Calls Tryd.prog 12 #[.int .i64 v] w fun e w' => e = .returned (.bool (!decide (v < 0 ∨ 4000 < v))) ∧ w = w' := by
  by_cases h0 : 0 ≤ v
  · by_cases h1 : v ≤ 4000
    · have e : (!decide (v < 0 ∨ 4000 < v)) = true := by simp; omega
      rw [e]
      go_enter Tryd.func12, Tryd.ntmps12
      go_wp2
      go_ret
      exact ⟨rfl, rfl⟩
    · have e : (!decide (v < 0 ∨ 4000 < v)) = false := by simp; omega
      rw [e]
      go_enter Tryd.func12, Tryd.ntmps12
      go_wp2
      go_ret
      exact ⟨rfl, rfl⟩
  · have e : (!decide (v < 0 ∨ 4000 < v)) = false := by simp; omega
    rw [e]
    go_enter Tryd.func12, Tryd.ntmps12
    go_wp2
    go_ret
    exact ⟨rfl, rfl⟩

theorem rLit_any (v x : Int) (hv : 0 ≤ v ∧ v ≤ 5000) (w : World) : Calls Tryd.prog 13 #[.int .i64 v, .int .i64 x] w fun e w' => e = .returned (.bool (isL v x)) ∧ w = w' := by
  obtain ⟨v0, v1⟩ := hv
  by_cases h0 : 2 ≤ x
  · by_cases h1 : x ≤ 2 * v + 1
    · have e : isL v x = true := isL_iff.2 (by omega)
      rw [e]
      go_enter Tryd.func13, Tryd.ntmps13
      go_wp2
      go_ret
      exact ⟨rfl, rfl⟩
    · have e : isL v x = false := by rw [← Bool.not_eq_true, isL_iff]; omega
      rw [e]
      go_enter Tryd.func13, Tryd.ntmps13
      go_wp2
      go_ret
      exact ⟨rfl, rfl⟩
  · have e : isL v x = false := by rw [← Bool.not_eq_true, isL_iff]; omega
    rw [e]
    go_enter Tryd.func13, Tryd.ntmps13
    go_wp2
    go_ret
    exact ⟨rfl, rfl⟩

theorem rNot_any (x : Int) (hx : 0 ≤ x ∧ x ≤ 1000000) (w : World) : Calls Tryd.prog 19 #[.int .i64 x] w fun e w' => e = .returned (.int .i64 (ng x)) ∧ w = w' := by
  obtain ⟨x0, x1⟩ := hx
  have hr : x.tmod 2 = x % 2 := Int.tmod_eq_emod_of_nonneg (by omega)
  by_cases he : x % 2 = 0
  · rw [show ng x = x + 1 by unfold ng; rw [if_pos he]]
    have e1 : (x % 2 == 0) = true := by simpa using he
    clear he
    go_enter Tryd.func19, Tryd.ntmps19
    go_wp2
    go_ret
    exact ⟨rfl, rfl⟩
  · rw [show ng x = x - 1 by unfold ng; rw [if_neg he]]
    have e1 : (x % 2 == 0) = false := by simpa using he
    clear he
    go_enter Tryd.func19, Tryd.ntmps19
    go_wp2
    go_ret
    exact ⟨rfl, rfl⟩

set_option maxRecDepth 100000 in
set_option maxHeartbeats 1000000 in
theorem rHas_any (A : Option Addr) (l : List Int) (k : Nat) (x : Int) (B : Nat) (w : World) (h : Ia w B A l k) (hl : l.length ≤ 200000) :
    Calls Tryd.prog 10 #[.slice A l.length k, .int .i64 x] w fun e w' => e = .returned (.bool (hs l x)) ∧ w = w' := by
  obtain ⟨n, hn⟩ : ∃ n, n = l.length := ⟨_, rfl⟩
  rw [← hn]
  have hl' : n ≤ 200000 := by rw [hn]; exact hl
  have HH := Lib.hid (And.intro h hn)
  clear h hl hn
  go_enter Tryd.func10, Tryd.ntmps10
  go_wp2
  go_loopw [5] (fun i wr => ∃ j : Nat, j ≤ n ∧ i = .int .i64 (j : Int) ∧ (∀ q, q < j → l.getD q 0 ≠ x) ∧ w = wr) (fun i _ => n - (intOf i).toNat)
  case atStart => exact ⟨0, Nat.zero_le _, rfl, fun q hq => absurd hq (Nat.not_lt_zero _), rfl⟩
  case round =>
    obtain ⟨j, hj, rfl, hok, rfl⟩ := hrel
    by_cases hlt : j < n
    · obtain ⟨b, o, rfl, hb0, hcs⟩ := HH.out.1.cells (by have := HH.out.2; omega)
      have hjl : j < l.length := by have := HH.out.2; omega
      have y := hcs j hjl
      have hj1 : (j : Int) < (n : Int) := by omega
      have hj0 : (0 : Int) ≤ (j : Int) := by omega
      obtain ⟨u, hu⟩ : ∃ u, u = l.getD j 0 := ⟨_, rfl⟩
      rw [← hu] at y
      by_cases he : u = x
      · have e1 : (u == x) = true := by simpa using he
        have HR := Lib.hid (hs_iff.2 (by have := getD_mem hjl; rw [← hu, he] at this; exact this))
        clear hcs hu hok he
        go_wp2
        go_ret
        exact ⟨by first | (rw [HR.out]; rfl) | rfl, rfl⟩
      · have e1 : (u == x) = false := by simpa using he
        have HK := Lib.hid (And.intro hok (show l.getD j 0 ≠ x by rw [← hu]; exact he))
        clear hcs hu hok he
        go_wp2
        go_roundw
        case rel => exact ⟨j + 1, by omega, by go_num, fun q hq => by
          rcases Nat.lt_succ_iff_lt_or_eq.1 hq with h' | h'
          · exact HK.out.1 q h'
          · subst h'; exact HK.out.2, by trivial⟩
        case measure => simp [intOf]; omega
    · have HR := Lib.hid (hs_no.2 fun h => by
        obtain ⟨q, hq, e⟩ := mem_getD h
        exact hok q (by have := HH.out.2; omega) e)
      have hjn : ¬ (j : Int) < (n : Int) := by omega
      clear hok
      go_wp2
      go_ret
      exact ⟨by first | (rw [HR.out]; rfl) | rfl, rfl⟩

set_option maxRecDepth 100000 in
set_option maxHeartbeats 4000000 in
theorem rValid_any (v : Int) (hv : 0 ≤ v ∧ v ≤ 4000) (A : Option Addr) (l : List Int) (k : Nat) (w : World) (h : Ia w w.heap.size A l k) (hl : l.length ≤ 9223372036854775807) (hr : ∀ x ∈ l, I64 x) :
    Calls Tryd.prog 14 #[.int .i64 v, .slice A l.length k] w fun e w' => e = .returned (.bool (okC v l)) ∧ ∃ d, w' = w.drewN d := by
  obtain ⟨n, hn⟩ : ∃ n, n = l.length := ⟨_, rfl⟩
  rw [← hn]
  have hl' : n ≤ 9223372036854775807 := by rw [hn]; exact hl
  have HH := Lib.hid (And.intro h (And.intro hr hn))
  have HL := Lib.hid fun (x : Int) (W : World) => rLit_any v x (by omega) W
  clear h hl hr hn
  go_enter Tryd.func14, Tryd.ntmps14
  go_wp2
  go_loopw [5] (fun i wr => ∃ j : Nat, j ≤ n ∧ i = .int .i64 (j : Int) ∧ (∀ q, q < j → okJ v l q) ∧ ∃ d, wr = w.drewN d) (fun i _ => n - (intOf i).toNat)
  case atStart => exact ⟨0, Nat.zero_le _, rfl, fun q hq => absurd hq (Nat.not_lt_zero _), 0, rfl⟩
  case round =>
    obtain ⟨j, hj, rfl, hok, d, rfl⟩ := hrel
    by_cases hlt : j < n
    · obtain ⟨b, o, rfl, hb0, hcs⟩ := HH.out.1.cells (by have := HH.out.2.2; omega)
      have hjl : j < l.length := by have := HH.out.2.2; omega
      have y := hcs j hjl
      have hj1 : (j : Int) < (n : Int) := by omega
      have hj0 : (0 : Int) ≤ (j : Int) := by omega
      have D0 := HL.out (l.getD j 0)
      obtain ⟨u, hu⟩ : ∃ u, u = l.getD j 0 := ⟨_, rfl⟩
      rw [← hu] at y D0
      cases eL : isL v u with
      | false =>
        rw [eL] at D0
        have D := Lib.hid D0
        have HR := Lib.hid (okC_no hjl (fun h => by have h1 := h.1; rw [← hu, eL] at h1; cases h1))
        clear hcs hu hok eL D0
        go_wp2
        go_quiet ((go_at_call 13; with_reducible first | exact qs (D.out _) | exact qs2 (D.out _)))
        go_wp2
        go_ret
        exact ⟨by first | (rw [HR.out]; rfl) | rfl, by first | exact ⟨_, rfl⟩ | exact ⟨_, dn_dn _ _ _⟩⟩
      | true =>
        rw [eL] at D0
        have D := Lib.hid D0
        obtain ⟨u1, u2⟩ := isL_iff.1 eL
        rcases Nat.eq_zero_or_pos j with hz | hz
        · have HK := Lib.hid (And.intro hok (show okJ v l j from ⟨by rw [← hu]; exact eL, Or.inl hz⟩))
          have d0 : decide (0 < j) = false := decide_eq_false (by omega)
          clear hcs hu hok eL D0 hz
          go_wp2
          go_quiet ((go_at_call 13; with_reducible first | exact qs (D.out _) | exact qs2 (D.out _)))
          go_wp2
          go_roundw
          case rel => exact ⟨j + 1, by omega, by go_num, fun q hq => by
            rcases Nat.lt_succ_iff_lt_or_eq.1 hq with h' | h'
            · exact HK.out.1 q h'
            · subst h'; exact HK.out.2, by first | exact ⟨_, rfl⟩ | exact ⟨_, dn_dn _ _ _⟩⟩
          case measure => simp [intOf]; omega
        · have y' := hcs (j - 1) (by omega)
          have hpl := (hok (j - 1) (by omega)).1
          obtain ⟨p, hp⟩ : ∃ p, p = l.getD (j - 1) 0 := ⟨_, rfl⟩
          rw [← hp] at y' hpl
          obtain ⟨p1, p2⟩ := isL_iff.1 hpl
          have d0 : decide (0 < j) = true := decide_eq_true (by omega)
          have hr : p.tmod 2 = p % 2 := Int.tmod_eq_emod_of_nonneg (by omega)
          have i0 : (0 : Int) ≤ (j : Int) - 1 := by omega
          have i1 : (j : Int) - 1 < (n : Int) := by omega
          by_cases hd : p / 2 < u / 2
          · have HK := Lib.hid (And.intro hok (show okJ v l j from ⟨by rw [← hu]; exact eL, Or.inr (by rw [← hu, ← hp]; exact hd)⟩))
            have f1 : decide (u - p < 1) = false := decide_eq_false (by omega)
            by_cases he : p % 2 = 0
            · have e1 : (p % 2 == 0) = true := by simpa using he
              have e2 : (u == p + 1) = false := by simp only [beq_eq_false_iff_ne]; omega
              clear hcs hpl D0 hu hok eL hp hd he hz
              go_wp2
              go_quiet ((go_at_call 13; with_reducible first | exact qs (D.out _) | exact qs2 (D.out _)))
              go_wp2
              go_roundw
              case rel => exact ⟨j + 1, by omega, by go_num, fun q hq => by
                rcases Nat.lt_succ_iff_lt_or_eq.1 hq with h' | h'
                · exact HK.out.1 q h'
                · subst h'; exact HK.out.2, by first | exact ⟨_, rfl⟩ | exact ⟨_, dn_dn _ _ _⟩⟩
              case measure => simp [intOf]; omega
            · have e1 : (p % 2 == 0) = false := by simpa using he
              clear hcs hpl D0 hu hok eL hp hd he hz
              go_wp2
              go_quiet ((go_at_call 13; with_reducible first | exact qs (D.out _) | exact qs2 (D.out _)))
              go_wp2
              go_roundw
              case rel => exact ⟨j + 1, by omega, by go_num, fun q hq => by
                rcases Nat.lt_succ_iff_lt_or_eq.1 hq with h' | h'
                · exact HK.out.1 q h'
                · subst h'; exact HK.out.2, by first | exact ⟨_, rfl⟩ | exact ⟨_, dn_dn _ _ _⟩⟩
              case measure => simp [intOf]; omega
          · have HR := Lib.hid (okC_no (v := v) hjl (fun h => by
              rcases h.2 with h' | h'
              · omega
              · rw [← hu, ← hp] at h'; exact hd h'))
            by_cases hs1 : u - p < 1
            · have f1 : decide (u - p < 1) = true := decide_eq_true hs1
              clear hcs hpl D0 hu hok eL hp hd hz hs1
              go_wp2
              go_quiet ((go_at_call 13; with_reducible first | exact qs (D.out _) | exact qs2 (D.out _)))
              go_wp2
              go_ret
              exact ⟨by first | (rw [HR.out]; rfl) | rfl, by first | exact ⟨_, rfl⟩ | exact ⟨_, dn_dn _ _ _⟩⟩
            · have f1 : decide (u - p < 1) = false := decide_eq_false hs1
              have e1 : (p % 2 == 0) = true := by simp only [beq_iff_eq]; omega
              have e2 : (u == p + 1) = true := by simp only [beq_iff_eq]; omega
              clear hcs hpl D0 hu hok eL hp hd hz hs1
              go_wp2
              go_quiet ((go_at_call 13; with_reducible first | exact qs (D.out _) | exact qs2 (D.out _)))
              go_wp2
              go_ret
              exact ⟨by first | (rw [HR.out]; rfl) | rfl, by first | exact ⟨_, rfl⟩ | exact ⟨_, dn_dn _ _ _⟩⟩
    · have HR := Lib.hid (okC_yes fun q hq => hok q (by have := HH.out.2.2; omega))
      have hjn : ¬ (j : Int) < (n : Int) := by omega
      clear hok
      go_wp2
      go_ret
      exact ⟨by first | (rw [HR.out]; rfl) | rfl, by first | exact ⟨_, rfl⟩ | exact ⟨_, dn_dn _ _ _⟩⟩

end Go.Proofs.YtecmldnigohjfabDoor

namespace Go.Proofs.YtecmldnigohjfabDoor
open Go Go.RowKit
set_option linter.unusedVariables false
set_option linter.unusedSimpArgs false

set_option maxHeartbeats 1000000 in
theorem rCheck_any (v : Int) (A : Option Addr) (l : List Int) (k : Nat) (w : World) (h : Ia w w.heap.size A l k) (hl : l.length ≤ 9223372036854775807) (hr : ∀ x ∈ l, I64 x) :
    Calls Tryd.prog 7 #[.int .i64 v, .slice A l.length k] w fun e w' => e = .returned (.int .i64 (ckE v l)) ∧ ∃ d, w' = w.drewN d := by
  by_cases hv : v < 0 ∨ 4000 < v
  · have ev : (!decide (v < 0 ∨ 4000 < v)) = false := by simp [hv]
    rw [ckE_lo hv]
    clear h hl hr
    go_enter Tryd.func7, Tryd.ntmps7
    go_wp2_with (first | (go_at_call 12; (with_reducible refine (rVars_any v w).mono ?_); rintro e w' ⟨rfl, rfl⟩; rw [ev]))
    go_ret
    exact ⟨rfl, 0, rfl⟩
  · have ev : (!decide (v < 0 ∨ 4000 < v)) = true := by simp [hv]
    have hV := rValid_any v (by omega) A l k w h hl hr
    cases ho : okC v l with
    | true =>
      rw [show ckE v l = 0 by unfold ckE; rw [if_neg hv, if_pos ho]]
      rw [ho] at hV
      clear h hl hr ho
      go_enter Tryd.func7, Tryd.ntmps7
      go_wp2_with (first
        | (go_at_call 12; (with_reducible refine (rVars_any v w).mono ?_); rintro e w' ⟨rfl, rfl⟩; rw [ev])
        | (go_at_call 14; (with_reducible refine hV.mono ?_); rintro e w1 ⟨rfl, d, rfl⟩))
      go_ret
      exact ⟨rfl, _, rfl⟩
    | false =>
      rw [show ckE v l = 8 by unfold ckE; rw [if_neg hv, if_neg (by rw [ho]; decide)]]
      rw [ho] at hV
      clear h hl hr ho
      go_enter Tryd.func7, Tryd.ntmps7
      go_wp2_with (first
        | (go_at_call 12; (with_reducible refine (rVars_any v w).mono ?_); rintro e w' ⟨rfl, rfl⟩; rw [ev])
        | (go_at_call 14; (with_reducible refine hV.mono ?_); rintro e w1 ⟨rfl, d, rfl⟩))
      go_ret
      exact ⟨rfl, _, rfl⟩

/-- two lists are the same -/
def sm (l l' : List Int) : Bool := decide (l = l')
theorem sm_iff {l l' : List Int} : sm l l' = true ↔ l = l' := decide_eq_true_iff
theorem sm_self (l : List Int) : sm l l = true := sm_iff.2 rfl
theorem sm_no {l l' : List Int} (h : l ≠ l') : sm l l' = false := decide_eq_false h

set_option maxRecDepth 100000 in
set_option maxHeartbeats 2000000 in
theorem rSame_any (A : Option Addr) (l : List Int) (k : Nat) (A' : Option Addr) (l' : List Int) (k' : Nat) (w : World) (h : Ia w w.heap.size A l k) (hl : l.length ≤ 100000) (h' : Ia w w.heap.size A' l' k') (hl' : l'.length ≤ 100000) :
    Calls Tryd.prog 21 #[.slice A l.length k, .slice A' l'.length k'] w fun e w' => e = .returned (.bool (sm l l')) ∧ Below w.heap.size w w' := by
  obtain ⟨n, hn⟩ : ∃ n, n = l.length := ⟨_, rfl⟩
  obtain ⟨n', hn'⟩ : ∃ n, n = l'.length := ⟨_, rfl⟩
  rw [← hn, ← hn']
  by_cases hne : n = n'
  · subst hne
    have hl1 : n ≤ 100000 := by rw [hn]; exact hl
    have HH := Lib.hid (And.intro h (And.intro h' (And.intro hn hn')))
    clear h hl hn h' hl' hn'
    go_enter Tryd.func21, Tryd.ntmps21
    go_wp2
    go_loopw [5] (fun i wr => ∃ j : Nat, j ≤ n ∧ i = .int .i64 (j : Int) ∧ (∀ q, q < j → l.getD q 0 = l'.getD q 0) ∧ ∃ d, wr = w.drewN d) (fun i _ => n - (intOf i).toNat)
    case atStart => exact ⟨0, Nat.zero_le _, rfl, fun q hq => absurd hq (Nat.not_lt_zero _), 0, rfl⟩
    case round =>
      obtain ⟨j, hj, rfl, hok, d, rfl⟩ := hrel
      by_cases hlt : j < n
      · obtain ⟨b, o, rfl, hb0, hcs⟩ := HH.out.1.cells (by have := HH.out.2.2; omega)
        obtain ⟨b', o', rfl, hb0', hcs'⟩ := HH.out.2.1.cells (by have := HH.out.2.2; omega)
        have hjl : j < l.length := by have := HH.out.2.2; omega
        have hjl' : j < l'.length := by have := HH.out.2.2; omega
        have y := hcs j hjl
        have y' := hcs' j hjl'
        have hj1 : (j : Int) < (n : Int) := by omega
        have hj0 : (0 : Int) ≤ (j : Int) := by omega
        obtain ⟨u, hu⟩ : ∃ u, u = l.getD j 0 := ⟨_, rfl⟩
        obtain ⟨u', hu'⟩ : ∃ u, u = l'.getD j 0 := ⟨_, rfl⟩
        rw [← hu] at y
        rw [← hu'] at y'
        by_cases he : u = u'
        · have e1 : (u != u') = false := by simpa using he
          have HK := Lib.hid (And.intro hok (show l.getD j 0 = l'.getD j 0 by rw [← hu, ← hu']; exact he))
          clear hcs hcs' hu hu' hok he
          go_wp2
          go_quiet (fail)
          go_wp2
          go_roundw
          case rel => exact ⟨j + 1, by omega, by go_num, fun q hq => by
            rcases Nat.lt_succ_iff_lt_or_eq.1 hq with h' | h'
            · exact HK.out.1 q h'
            · subst h'; exact HK.out.2, by first | exact ⟨_, rfl⟩ | exact ⟨_, dn_dn _ _ _⟩⟩
          case measure => simp [intOf]; omega
        · have e1 : (u != u') = true := by simpa using he
          have HR := Lib.hid (show sm l l' = false from sm_no fun e => he (by rw [hu, hu', e]))
          clear hcs hcs' hu hu' hok he
          go_wp2
          go_quiet (fail)
          go_wp2
          go_ret
          exact ⟨by first | (rw [HR.out]; rfl) | rfl, by first | exact below_dn (Below.refl _ _) _ | exact below_dn (below_dn (Below.refl _ _) _) _⟩
      · have HR := Lib.hid (show sm l l' = true from sm_iff.2 (by
          refine List.ext_getElem (by have := HH.out.2.2; omega) fun q h1 h2 => ?_
          have := hok q (by have := HH.out.2.2; omega)
          rwa [getD_at h1, getD_at h2] at this))
        have hjn : ¬ (j : Int) < (n : Int) := by omega
        clear hok
        go_wp2
        go_ret
        exact ⟨by first | (rw [HR.out]; rfl) | rfl, below_dn (Below.refl _ _) _⟩
  · have e1 : ((n : Int) != (n' : Int)) = true := by simp; omega
    rw [sm_no (fun e => hne (by rw [hn, hn', e]))]
    clear h hl hn h' hl' hn' hne
    go_enter Tryd.func21, Tryd.ntmps21
    go_wp2
    go_ret
    exact ⟨rfl, Below.refl _ _⟩

end Go.Proofs.YtecmldnigohjfabDoor

namespace Go.Proofs.YtecmldnigohjfabDoor
open Go Go.RowKit
set_option linter.unusedVariables false
set_option linter.unusedSimpArgs false

theorem Io.store {B g N cap : Nat} {w : World} {l : List Int} (h : Io B w (.slice (some ⟨g, 0, none⟩) N cap) l) (j : Nat) (y : Int) : Io B (w.setCell ⟨g, j, none⟩ (.int .i64 y)) (.slice (some ⟨g, 0, none⟩) N cap) (l.set j y) ∧ Below B w (w.setCell ⟨g, j, none⟩ (.int .i64 y)) := by
  rcases h.2 with ⟨h', _⟩ | ⟨g', cap', cur, h', hb, _⟩
  · cases h'
  · injection h' with h1 h2 h3
    injection h1 with h1
    injection h1 with h1
    subst h1 h2 h3
    obtain ⟨h4, h5⟩ := World.ownsRow.stored h j (.int .i64 y)
    refine ⟨Io.mk h4 (by simp) (by unfold iC; rw [List.map_set]), (Below.refl B w).setCell (p := ⟨g, j, none⟩) hb _⟩
theorem Io.slice {B : Nat} {w : World} {v : Value} {l : List Int} (h : Io B w v l) (hl : 0 < l.length) : ∃ g cap, v = .slice (some ⟨g, 0, none⟩) l.length cap ∧ B ≤ g ∧ g < w.heap.size ∧ cap ≤ maxLen ∧ (∀ j, j < l.length → w.cell? ⟨g, j, none⟩ = some (.int .i64 (l.getD j 0))) ∧ ∀ j, w.frozen? ⟨g, j, none⟩ = false := by
  rcases h.2 with ⟨_, hn⟩ | ⟨g, cap, cur, rfl, hg, hh, hk, hm, _⟩
  · omega
  · exact ⟨g, cap, rfl, hg, Has.lt (t := 3) (cs := cur) hh, hm, fun j hj => by
      have h1 := World.ownsRow.cells h (g := g) rfl _ _ (iC_at l j hj)
      rwa [show (⟨g, 0, none⟩ : Addr).add j = ⟨g, j, none⟩ by unfold Addr.add; split <;> simp_all] at h1, fun j => Has.fz (t := 3) (cs := cur) hh j⟩
theorem io_run {w : World} (B : Nat) (v : Value) (l : List Int) (hown : Io B w v l) (A : Option Addr) (n k : Nat) (m : List Int) (hn : n = m.length) (hsrc : Src w A m.length k (iC m)) (hle : l.length + m.length ≤ 1000000) (hB : B ≤ w.heap.size) (ty : TypeId) :
    ∃ v' w', (Builtin.append_ #[22, 22] ty #[v, .slice A n k]).run Tryd.prog w = .ok v' w' ∧ Io B w' v' (l ++ m) ∧ Below B w w' := by
  obtain ⟨i0, hi0, hzz0, hs0, hy0⟩ := info_parts info_int
  subst hn
  rcases hsrc with ⟨rfl, h1, rfl, h3⟩ | ⟨ad, rfl, hc⟩
  · have hm : m = [] := List.eq_nil_of_length_eq_zero h1
    subst hm
    exact ⟨v, w, run_append_owned_none (P := Tryd.prog) (w := w) B 22 ty 3 i0 1 Tryd.underlying22 hi0 v l.length (iC l) hown, by simpa using hown, Below.refl _ _⟩
  · obtain ⟨v', w', hr, h2, h3, _, h5⟩ := run_append_own_at (P := Tryd.prog) w B 22 ty 3 i0 (.int .i64 0) 1 8 Tryd.underlying22 hi0 hzz0 hs0 hy0 rfl (by decide) v l.length (iC l) hown ad m.length k (iC m) (by rw [iC_len]) hc (iC_one m) (by simp only [maxLen]; omega) (by omega) hB
    exact ⟨v', w', hr, Io.mk h2 (by rw [List.length_append]) (by rw [iC_app]), (Below.refl B w).grown h3 hB (fun k hk => hown.blk k hk)⟩
/-- append to what a call owns, at a list of operations -/
theorem io_append {w : World} {ops : Array Oper} {rest : List Oper} {o : Oper} {a : Act} {Q : Exit → Act → World → Prop} (hgd : o.guard = none) (s x : Operand)
    (ho : o.op = .call { callee := .builtin .append, args := #[s, x], argTypes := #[22, 22] })
    (B : Nat) (v : Value) (l : List Int) (hs : a.eval s = v) (hown : Io B w v l) (A : Option Addr) (n k : Nat) (m : List Int) (hx : a.eval x = .slice A n k) (hn : n = m.length) (hsrc : Src w A m.length k (iC m))
    (hle : l.length + m.length ≤ 1000000) (hB : B ≤ w.heap.size) (h : ∀ v' w', Io B w' v' (l ++ m) → Below B w w' → wpList Tryd.prog ops Q rest (a.put o.dst v') w') : wpList Tryd.prog ops Q (o :: rest) a w := by
  obtain ⟨v', w', hr, h2, h3⟩ := io_run B v l hown A n k m hn hsrc hle hB o.type
  refine wpList_plain hgd fun _ hK => ?_
  unfold Oper.wp execOp
  simp only [ho, resolve, invoke, builtin, Sem.run_bind, Sem.run_pure, Result.andThen_ok, List.map_toArray, List.map_cons, List.map_nil, hs, hx, hr]
  exact hK _ _ (h v' w' h2 h3)
theorem src_int (w : World) (c : Int) : Src (w.alloc (.cells #[.int .i64 c] 3)) (some ⟨w.heap.size, 0, none⟩) [c].length 1 (iC [c]) := Or.inr ⟨_, rfl, cell_one_new w (.int .i64 c) 3⟩

/-! ### put into a list -/
def insF (m : List Int) (x : Int) (k j : Nat) : Int := if j < k then m.getD j 0 else if j = k then x else m.getD (j - 1) 0
def ins (m : List Int) (x : Int) (k : Nat) : List Int := (List.range (m.length + 1)).map (insF m x k)
theorem ins_len (m : List Int) (x : Int) (k : Nat) : (ins m x k).length = m.length + 1 := by simp [ins]
theorem ins_at (m : List Int) (x : Int) (k : Nat) {j : Nat} (h : j < m.length + 1) : (ins m x k).getD j 0 = insF m x k j := by
  rw [getD_at (by rw [ins_len]; exact h)]; simp [ins]
theorem ins_get (m : List Int) (x : Int) (k : Nat) {j : Nat} (h : j < (ins m x k).length) : (ins m x k)[j] = insF m x k j := by simp [ins]
theorem ins_end (m : List Int) (x : Int) : ins m x m.length = m ++ [x] := by
  refine List.ext_getElem (by rw [ins_len]; simp) fun j h1 h2 => ?_
  rw [ins_len] at h1
  rw [ins_get]
  unfold insF
  rcases Nat.lt_or_ge j m.length with h | h
  · rw [if_pos h, getD_at h, List.getElem_append_left h]
  · have e : j = m.length := by omega
    subst e
    rw [if_neg (by omega), if_pos rfl, List.getElem_append_right (by omega)]
    simp
theorem ins_swap (m : List Int) (x : Int) {k : Nat} (h1 : 1 ≤ k) (h2 : k ≤ m.length) : ((ins m x k).set k (m.getD (k - 1) 0)).set (k - 1) x = ins m x (k - 1) := by
  refine List.ext_getElem (by simp [ins_len]) fun j g1 g2 => ?_
  have gj : j < m.length + 1 := by rw [ins_len] at g2; exact g2
  rw [List.getElem_set, ins_get]
  by_cases e1 : k - 1 = j
  · rw [if_pos e1]; unfold insF; rw [if_neg (by omega), if_pos (by omega)]
  · rw [if_neg e1, List.getElem_set]
    by_cases e2 : k = j
    · rw [if_pos e2]; unfold insF; rw [if_neg (by omega), if_neg (by omega), e2]
    · rw [if_neg e2, ins_get]
      unfold insF
      by_cases e3 : j < k
      · rw [if_pos e3, if_pos (by omega)]
      · rw [if_neg e3, if_neg (by omega), if_neg (by omega), if_neg (by omega)]
theorem mem_ins (m : List Int) (x : Int) {k : Nat} (hk : k ≤ m.length) (y : Int) : y ∈ ins m x k ↔ y ∈ m ∨ y = x := by
  constructor
  · intro h
    obtain ⟨j, hj, e⟩ := mem_getD h
    rw [ins_len] at hj
    rw [ins_at m x k hj] at e
    unfold insF at e
    split at e
    · exact Or.inl (e ▸ getD_mem (by omega))
    · split at e
      · exact Or.inr e.symm
      · exact Or.inl (e ▸ getD_mem (by omega))
  · rintro (h | h)
    · obtain ⟨j, hj, e⟩ := mem_getD h
      by_cases hjk : j < k
      · have := Go.Proofs.YtecmldnigohjfabDoor.getD_mem (show j < (ins m x k).length by rw [ins_len]; omega)
        rw [ins_at m x k (by omega)] at this
        unfold insF at this
        rw [if_pos hjk, e] at this
        exact this
      · have := Go.Proofs.YtecmldnigohjfabDoor.getD_mem (show j + 1 < (ins m x k).length by rw [ins_len]; omega)
        rw [ins_at m x k (by omega)] at this
        unfold insF at this
        rw [if_neg (by omega), if_neg (by omega), Nat.add_sub_cancel, e] at this
        exact this
    · have := Go.Proofs.YtecmldnigohjfabDoor.getD_mem (show k < (ins m x k).length by rw [ins_len]; omega)
      rw [ins_at m x k (by omega)] at this
      unfold insF at this
      rw [if_neg (by omega), if_pos rfl] at this
      rw [h]; exact this
theorem ins_ss {m : List Int} {x : Int} {k : Nat} (hm : m.Pairwise (· < ·)) (hk : k ≤ m.length) (hx : ∀ t, k ≤ t → t < m.length → x < m.getD t 0) (h0 : 0 < k → m.getD (k - 1) 0 < x) : (ins m x k).Pairwise (· < ·) := by
  have lo : ∀ a b, a < b → b < m.length → m.getD a 0 < m.getD b 0 := fun a b hab hb => by
    rw [getD_at (show a < m.length by omega), getD_at hb]
    exact List.pairwise_iff_getElem.1 hm a b (by omega) hb hab
  have lx : ∀ a, a < k → m.getD a 0 < x := fun a ha => by
    rcases Nat.lt_or_ge a (k - 1) with h | h
    · have := lo a (k - 1) h (by omega); have := h0 (by omega); omega
    · have e : a = k - 1 := by omega
      subst e
      exact h0 (by omega)
  refine List.pairwise_iff_getElem.2 fun i j hi hj hij => ?_
  rw [ins_get, ins_get]
  rw [ins_len] at hi hj
  unfold insF
  by_cases c1 : i < k
  · rw [if_pos c1]
    by_cases c2 : j < k
    · rw [if_pos c2]; exact lo i j hij (by omega)
    · rw [if_neg c2]
      by_cases c3 : j = k
      · rw [if_pos c3]; exact lx i c1
      · rw [if_neg c3]; exact lo i (j - 1) (by omega) (by omega)
  · rw [if_neg c1]
    by_cases c2 : i = k
    · rw [if_pos c2, if_neg (by omega), if_neg (by omega)]; exact hx (j - 1) (by omega) (by omega)
    · rw [if_neg c2, if_neg (by omega), if_neg (by omega)]; exact lo (i - 1) (j - 1) (by omega) (by omega)

end Go.Proofs.YtecmldnigohjfabDoor

namespace Go.Proofs.YtecmldnigohjfabDoor
open Go Go.RowKit
set_option linter.unusedVariables false
set_option linter.unusedSimpArgs false

theorem take_mem {l : List Int} {j : Nat} (hj : j < l.length) (x : Int) : x ∈ l.take (j + 1) ↔ x ∈ l.take j ∨ x = l.getD j 0 := by
  rw [List.take_succ_eq_append_getElem hj, List.mem_append, List.mem_singleton, getD_at hj]

theorem Io.cl {B g N cap : Nat} {w : World} {l : List Int} (h : Io B w (.slice (some ⟨g, 0, none⟩) N cap) l) {j : Nat} (hj : j < l.length) : w.cell? ⟨g, j, none⟩ = some (.int .i64 (l.getD j 0)) ∧ w.frozen? ⟨g, j, none⟩ = false := by
  obtain ⟨g', cap', e, _, _, _, h1, h2⟩ := h.slice (by omega)
  injection e with e _ _
  injection e with e
  injection e with e
  subst e
  exact ⟨h1 j hj, h2 j⟩

end Go.Proofs.YtecmldnigohjfabDoor

namespace Go.Proofs.YtecmldnigohjfabDoor
open Go Go.RowKit
set_option linter.unusedVariables false
set_option linter.unusedSimpArgs false

theorem wo_succ {l : List Int} {j : Nat} (hj : j < l.length) (p : Int → Bool) : (l.take (j + 1)).filter p = (l.take j).filter p ++ (if p (l.getD j 0) = true then [l.getD j 0] else []) := by
  rw [List.take_succ_eq_append_getElem hj, List.filter_append, getD_at hj]
  congr 1
  by_cases h : p l[j] = true <;> simp [h]

end Go.Proofs.YtecmldnigohjfabDoor

namespace Go.Proofs.YtecmldnigohjfabDoor
open Go Go.RowKit
set_option linter.unusedVariables false
set_option linter.unusedSimpArgs false

/-- the other literals of one clause -/
theorem wo_one {n : Int} {l : List Int} {x y : Int} (ho : OkC n l) (hy : y ∈ l) (e : y / 2 = x) : (l.filter fun z => !decide (z = y)) = l.filter fun z => !decide (z / 2 = x) := by
  refine List.filter_congr fun z hz => ?_
  congr 1
  rw [Bool.eq_iff_iff, decide_eq_true_iff, decide_eq_true_iff]
  exact ⟨fun h => by rw [h]; exact e, fun h => ho.one hz hy (by omega)⟩
theorem rv_split (a b : List Int) (x : Int) : rvL a b x = (a.filter fun z => !decide (z / 2 = x)) ++ b.filter fun z => !decide (z / 2 = x) := by unfold rvL; rw [List.filter_append]

end Go.Proofs.YtecmldnigohjfabDoor
