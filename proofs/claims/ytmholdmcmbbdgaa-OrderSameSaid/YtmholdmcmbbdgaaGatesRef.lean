/- The contracts of the reference of gates: its check, its sizes, comparisons and copies. -/
import Derived.Test.YtmholdmcmbbdgaaGatesMem
namespace Go.Proofs.Ytmholdmcmbbdgaa
open Go.RowKit
set_option linter.unusedVariables false

set_option maxHeartbeats 400000 in
theorem rSize_any (c : Cr) (p : Pl) (w : World) (h0 : 0 ≤ c.i) (h1 : c.i ≤ 1000) (h2 : c.nl ≤ 1000) (h3 : c.na ≤ 1000) :
    Calls Try.prog 27 #[cv c p] w fun e w' => e = .returned (.int .i64 c.sz) ∧ Below w.heap.size w w' := by
  go_enter Try.func27, Try.ntmps27
  go_wp2
  go_ret
  exact ⟨rfl, (Below.refl _ _).alloc (Nat.le_refl _) _⟩

set_option maxHeartbeats 1000000 in
theorem rGreat_any (c : Cr) (p : Pl) (w : World) : Calls Try.prog 25 #[cv c p] w fun e w' => e = .returned (.bool c.gr) ∧ Below w.heap.size w w' := by
  go_enter Try.func25, Try.ntmps25
  go_wp2
  all_goals
    go_ret
    refine ⟨Li.ret_bool ?_, (Below.refl _ _).alloc (Nat.le_refl _) _⟩
    rw [Bool.eq_iff_iff]
    simp [Cr.gr]
    omega

theorem Cr.allB_yes {m : Int} {f : Nat → Int} {n : Nat} (h : ∀ j, j < n → 0 ≤ f j ∧ f j / 2 ≤ m) : Cr.allB m f n = true := decide_eq_true h
theorem Cr.allB_no {m : Int} {f : Nat → Int} {n k : Nat} (hk : k < n) (h : f k < 0 ∨ m < f k / 2) : Cr.allB m f n = false := decide_eq_false fun h' => by have := h' k hk; omega

set_option maxHeartbeats 1000000 in
theorem rLiterals_any (A : Option Addr) (n k : Nat) (f : Nat → Int) (m : Int) (B : Nat) (w : World) (hf : ∀ j, I64 (f j)) (hn : n ≤ 1000) (hA : IntsAt w B A n f) :
    Calls Try.prog 57 #[.slice A n k, .int .i64 m] w fun e w' => e = .returned (.bool (Cr.allB m f n)) ∧ w = w' := by
  go_enter Try.func57, Try.ntmps57
  go_wp2
  go_loop [5] (fun i => ∃ q : Nat, q ≤ n ∧ i = .int .i64 q ∧ ∀ j, j < q → 0 ≤ f j ∧ f j / 2 ≤ m) (fun i => n - (intOf i).toNat)
  case atStart => exact ⟨0, Nat.zero_le _, rfl, fun j hj => absurd hj (Nat.not_lt_zero _)⟩
  case round =>
    obtain ⟨q, hq, rfl, hall⟩ := hrel
    have HA := Lib.hid hall
    clear hall
    by_cases hlt : q < n
    · obtain ⟨a, rfl, hb, hc⟩ := hA (by omega)
      have hcell := hc q hlt
      have hbd := hf q
      unfold I64 at hbd
      clear hc hf
      by_cases h1 : f q < 0
      · have HR := Lib.hid (Li.ret_bool (Cr.allB_no (m := m) hlt (Or.inl h1)))
        go_wp2
        go_ret
        exact ⟨HR.out.symm, rfl⟩
      · by_cases h2 : m < f q / 2
        · have HR := Lib.hid (Li.ret_bool (Cr.allB_no (m := m) hlt (Or.inr h2)))
          go_wp2
          go_ret
          exact ⟨HR.out.symm, rfl⟩
        · go_wp2
          go_round
          case rel => exact ⟨q + 1, by omega, by go_num, fun j hj => by
            rcases Nat.lt_succ_iff_lt_or_eq.1 hj with h | h
            · exact HA.out j h
            · subst h; omega⟩
          case measure => simp [intOf]; omega
    · have hqn : q = n := by omega
      have HR := Lib.hid (Li.ret_bool (Cr.allB_yes (m := m) (n := n) (fun j hj => HA.out j (by omega))))
      clear hqn hf hA
      go_wp2
      go_ret
      exact ⟨HR.out.symm, rfl⟩

theorem Cr.chk_neg {c : Cr} (h : c.i < 0) : c.chk = 8 := by unfold Cr.chk; rw [if_pos h]
theorem Cr.chk_many {c : Cr} (h : ¬ c.i < 0) (h1 : 1000 < c.sz ∨ 100 < c.nb ∨ 100 < c.nc) : c.chk = 4 := by unfold Cr.chk; rw [if_neg h, if_pos h1]
theorem Cr.chk_bad {c : Cr} (h : ¬ c.i < 0) (h1 : ¬ (1000 < c.sz ∨ 100 < c.nb ∨ 100 < c.nc)) (h2 : ¬ (Cr.allB c.sz c.bd c.nb = true ∧ Cr.allB c.sz c.cn c.nc = true ∧ c.latB = true ∧ c.gatB = true)) : c.chk = 8 := by
  unfold Cr.chk; rw [if_neg h, if_neg h1, if_neg h2]
theorem Cr.chk_ok {c : Cr} (h : ¬ c.i < 0) (h1 : ¬ (1000 < c.sz ∨ 100 < c.nb ∨ 100 < c.nc)) (h2 : Cr.allB c.sz c.bd c.nb = true ∧ Cr.allB c.sz c.cn c.nc = true ∧ c.latB = true ∧ c.gatB = true) : c.chk = 0 := by
  unfold Cr.chk; rw [if_neg h, if_neg h1, if_pos h2]

set_option maxRecDepth 100000 in
set_option maxHeartbeats 2000000 in
theorem rCheck_neg (c : Cr) (p : Pl) (w : World) (h : c.i < 0) : Calls Try.prog 26 #[cv c p] w fun e w' => e = .returned (.int .i64 8) ∧ Below w.heap.size w w' := by
  go_enter Try.func26, Try.ntmps26
  go_wp2
  go_ret
  exact ⟨rfl, (Below.refl _ _).alloc (Nat.le_refl _) _⟩

set_option maxRecDepth 100000 in
set_option maxHeartbeats 2000000 in
theorem rCheck_many (c : Cr) (p : Pl) (w : World) (hs : Sm c) (h : 0 ≤ c.i) (h1 : 1000 < c.sz ∨ 100 < c.nb ∨ 100 < c.nc) : Calls Try.prog 26 #[cv c p] w fun e w' => e = .returned (.int .i64 4) ∧ Below w.heap.size w w' := by
  have g1 := hs.nl
  have g2 := hs.na
  have g3 := hs.i
  unfold I64 at g3
  have hz : c.sz = c.i + c.nl + c.na := rfl
  by_cases h2 : 1000 < c.i
  · clear h1 hz hs
    go_enter Try.func26, Try.ntmps26
    go_wp2
    go_ret
    exact ⟨rfl, (Below.refl _ _).alloc (Nat.le_refl _) _⟩
  · have h3 : 1000 < c.sz ∨ (c.sz ≤ 1000 ∧ 100 < c.nb) ∨ (c.sz ≤ 1000 ∧ c.nb ≤ 100 ∧ 100 < c.nc) := by omega
    clear h1 hz hs
    rcases h3 with h3 | ⟨h3, h4⟩ | ⟨h3, h4, h5⟩
    all_goals
      go_enter Try.func26, Try.ntmps26
      go_wp2_with (go_at_call 27; refine (rSize_any c p _ (by assumption) (by omega) (by assumption) (by assumption)).mono ?_; rintro e w1 ⟨rfl, hb1⟩; obtain ⟨hc1, hf1⟩ := bcell hb1; have hz1 : w.heap.size < w1.heap.size := by have := hb1.size; (try simp at this); omega)
      go_ret
      exact ⟨rfl, ((Below.refl _ _).alloc (Nat.le_refl _) _).trans (hb1.mono (by simp))⟩

theorem Cr.latB_yes {c : Cr} (h : ∀ j, j < c.nl → 0 ≤ c.nx j ∧ c.nx j / 2 ≤ c.sz ∧ 0 ≤ c.rs j ∧ c.rs j ≤ 2) : c.latB = true := decide_eq_true h
theorem Cr.latB_no {c : Cr} {k : Nat} (hk : k < c.nl) (h : ¬ (0 ≤ c.nx k ∧ c.nx k / 2 ≤ c.sz ∧ 0 ≤ c.rs k ∧ c.rs k ≤ 2)) : c.latB = false := decide_eq_false fun h' => h (h' k hk)
theorem Cr.gatB_yes {c : Cr} (h : ∀ j, j < c.na → 0 ≤ c.gb j ∧ c.gb j ≤ c.ga j ∧ c.ga j / 2 ≤ c.i + c.nl + j) : c.gatB = true := decide_eq_true h
theorem Cr.gatB_no {c : Cr} {k : Nat} (hk : k < c.na) (h : ¬ (0 ≤ c.gb k ∧ c.gb k ≤ c.ga k ∧ c.ga k / 2 ≤ c.i + c.nl + k)) : c.gatB = false := decide_eq_false fun h' => h (h' k hk)

set_option maxRecDepth 100000 in
set_option maxHeartbeats 2000000 in
theorem rCheck_lits (c : Cr) (p : Pl) (w : World) (hm : Mem w w.heap.size c p) (hs : Sm c) (h : 0 ≤ c.i) (h1 : c.sz ≤ 1000) (h2 : c.nb ≤ 100) (h3 : c.nc ≤ 100)
    (h4 : Cr.allB c.sz c.bd c.nb = false ∨ Cr.allB c.sz c.cn c.nc = false) : Calls Try.prog 26 #[cv c p] w fun e w' => e = .returned (.int .i64 8) ∧ Below w.heap.size w w' := by
  have g1 := hs.nl
  have g2 := hs.na
  have hz : c.i ≤ 1000 := by have : c.sz = c.i + c.nl + c.na := rfl; omega
  have h5 : Cr.allB c.sz c.bd c.nb = false ∨ (Cr.allB c.sz c.bd c.nb = true ∧ Cr.allB c.sz c.cn c.nc = false) := by
    cases hq : Cr.allB c.sz c.bd c.nb <;> simp_all
  clear h4
  have hB0 : Below w.heap.size w w := Below.refl _ _
  rcases h5 with h5 | ⟨h5, h6⟩
  all_goals
    go_enter Try.func26, Try.ntmps26
    go_wp2_with (first
      | (go_at_call 27; refine (rSize_any c p _ (by assumption) (by assumption) (by assumption) (by assumption)).mono ?_; rintro e w1 ⟨rfl, hb1⟩; obtain ⟨hc1, hf1⟩ := bcell hb1; have hz1 : w.heap.size < w1.heap.size := (by have := hb1.size; (try simp at this); omega); have hB1 : Below w.heap.size w w1 := Below.step (by go_grown) (by go_size) hb1)
      | (go_at_call 57; (with_reducible refine (rLiterals_any p.A3 c.nb p.k3 c.bd _ w.heap.size _ hs.bd hs.nb (hm.bd.keep (by assumption))).mono ?_); rintro e w1 ⟨rfl, rfl⟩)
      | (go_at_call 57; (with_reducible refine (rLiterals_any p.A4 c.nc p.k4 c.cn _ w.heap.size _ hs.cn hs.nc (hm.cn.keep (by assumption))).mono ?_); rintro e w1 ⟨rfl, rfl⟩))
    go_ret
    exact ⟨rfl, by assumption⟩
