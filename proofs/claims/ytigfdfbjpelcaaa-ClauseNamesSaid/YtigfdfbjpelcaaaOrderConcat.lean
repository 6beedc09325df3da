/- slices.Grow of nil, slices.Concat of lists of ints. -/
import Derived.Test.YtigfdfbjpelcaaaAppKit
import Derived.Test.YtigfdfbjpelcaaaGatesMore
import Derived.Lib.AppendZerosOnto
namespace Go.Proofs.Ytigfdfbjpelcaaa
open Go.RowKit Go.Lib
set_option linter.unusedVariables false
set_option linter.unusedSimpArgs false


set_option maxRecDepth 100000 in
set_option maxHeartbeats 4000000 in
theorem growI_pos (n : Nat) (h1 : 1 ≤ n) (hn : n ≤ 300000) (w : World) :
    Calls Try.prog 52 #[.slice none 0 0, .int .i64 (n : Int)] w fun e w' => ∃ v, e = .returned v ∧ w'.ownsRow w.heap.size 3 1 v 0 [] ∧ Below w.heap.size w w' := by
  obtain ⟨i0, hi0, hzz0, hs0, hy0⟩ := info_parts info_int
  have hrz : ∀ ty, (Builtin.append_ #[22, 3] ty #[.slice none 0 0, .int .i64 (n : Int)]).run Try.prog w =
      .ok (.slice (some ⟨w.heap.size, 0, none⟩) (0 + n) (grownCap w (0 + n) 0 3)) (w.drew.alloc (.cells ([].toArray ++ Builtin.zeroCells (Value.int .i64 0).cells n ++ Builtin.zeroCells (Value.int .i64 0).cells (grownCap w (0 + n) 0 3 - (0 + n))) 3)) := fun ty =>
    run_append_grow_zeros w 22 3 ty 3 i0 _ .i64 .i64 Try.underlying22 Try.underlying3 hi0 hzz0 none 0 0 [] (run_firstCells_none w.drew i0.size 0 0 0) n (by omega) (by omega) (by omega) (by omega) (by rw [hy0]; omega) (growslice_fits (by omega) (by rw [hy0]; omega))
  have hGn : 0 + n ≤ grownCap w (0 + n) 0 3 := grownCap_ge w _ _ _
  have hGm := grownCap_le_maxLen w (0 + n) 0 3 (by unfold maxLen; omega)
  obtain ⟨G, hG⟩ : ∃ G, G = grownCap w (0 + n) 0 3 := ⟨_, rfl⟩
  rw [← hG] at hrz hGn hGm
  rw [Nat.zero_add] at hrz hGn
  have hsz : ([].toArray ++ Builtin.zeroCells (Value.int .i64 0).cells n ++ Builtin.zeroCells (Value.int .i64 0).cells (G - n)).size = G := by
    simp only [Array.size_append, size_zeroCells]
    simp [Value.cells]
    omega
  obtain ⟨cur, hcur⟩ : ∃ cur, cur = [].toArray ++ Builtin.zeroCells (Value.int .i64 0).cells n ++ Builtin.zeroCells (Value.int .i64 0).cells (G - n) := ⟨_, rfl⟩
  rw [← hcur] at hrz hsz
  clear hcur hG
  have hp0 : decide ((n : Int) < 0) = false := decide_eq_false (by omega)
  have hp1 : decide ((n : Int) > 0) = true := decide_eq_true (by omega)
  have hG63 : G ≤ 9223372036854775807 := by unfold maxLen at hGm; omega
  go_enter Try.func52, Try.ntmps52
  go_wp2_with (at_builtin; refine Lib.wpList_append_run _ rfl _ _ _ _ rfl _ _ rfl rfl _ _ (hrz _) ?_)
  go_ret
  refine ⟨_, rfl, ⟨by simp, Or.inr ⟨w.heap.size, G, cur, rfl, Nat.le_refl _, ?_, Nat.zero_le _, hGm, by omega, by simp⟩⟩, ?_⟩
  · exact heap_alloc_new w.drew _
  · exact (below_dn (Below.refl _ _) 1).alloc (Nat.le_refl _) _

set_option maxRecDepth 100000 in
set_option maxHeartbeats 2000000 in
theorem growI_any (n : Nat) (hn : n ≤ 300000) (w : World) :
    Calls Try.prog 52 #[.slice none 0 0, .int .i64 (n : Int)] w fun e w' => ∃ v, e = .returned v ∧ w'.ownsRow w.heap.size 3 1 v 0 [] ∧ Below w.heap.size w w' := by
  by_cases h1 : 1 ≤ n
  · exact growI_pos n h1 hn w
  · obtain rfl : n = 0 := by omega
    go_enter Try.func52, Try.ntmps52
    go_wp2
    go_ret
    exact ⟨_, rfl, World.ownsRow_nil _ _ _ _, Below.refl _ _⟩

/-- the lengths of the first q lists, and what they hold -/
def isum (n : Nat → Nat) : Nat → Nat
  | 0 => 0
  | q + 1 => isum n q + n q
def icat (n : Nat → Nat) (f : Nat → Nat → Int) : Nat → List Value
  | 0 => []
  | q + 1 => icat n f q ++ intL (f q) (n q)
theorem isum_le (n : Nat → Nat) {m q : Nat} (h : q ≤ m) : isum n q ≤ isum n m := by
  induction m with
  | zero => obtain rfl : q = 0 := by omega
            exact Nat.le_refl _
  | succ m ih =>
    rcases Nat.lt_or_ge q (m + 1) with h' | h'
    · exact Nat.le_trans (ih (by omega)) (by rw [isum]; omega)
    · obtain rfl : q = m + 1 := by omega
      exact Nat.le_refl _

set_option maxRecDepth 100000 in
set_option maxHeartbeats 4000000 in
theorem concatI_any (b m : Nat) (A : Nat → Option Addr) (n k : Nat → Nat) (f : Nat → Nat → Int) (B : Nat) (w : World) (hm : m ≤ 1000) (hc : ∀ j, j < m → w.cell? ⟨b, j, none⟩ = some (.slice (A j) (n j) (k j))) (hb : b < w.heap.size)
    (hA : ∀ j, j < m → IntsAt w w.heap.size (A j) (n j) (f j)) (hN : ∀ j, j < m → A j = none → n j = 0 ∧ k j = 0) (hs : isum n m ≤ 300000) :
    Calls Try.prog 44 #[.slice (some ⟨b, 0, none⟩) m m] w fun e w' => ∃ v, e = .returned v ∧ w'.ownsRow w.heap.size 3 1 v (isum n m) (icat n f m) ∧ Below w.heap.size w w' := by
  obtain ⟨i0, hi0, hzz0, hs0, hy0⟩ := info_parts info_int
  go_enter Try.func44, Try.ntmps44
  go_wp2
  go_loop [3, 11] (fun s i => ∃ q : Nat, q ≤ m ∧ i = .int .i64 q ∧ s = .int .i64 (isum n q : Nat)) (fun _ i => m - (intOf i).toNat)
  case atStart => exact ⟨0, Nat.zero_le _, rfl, rfl⟩
  case round =>
    obtain ⟨q, hq, rfl, rfl⟩ := hrel
    by_cases hlt : q < m
    · have y := hc q hlt
      have l1 : isum n q + n q ≤ 300000 := Nat.le_trans (isum_le n (m := m) (q := q + 1) (by omega)) hs
      have ez := Lib.hid (show ((isum n (q + 1) : Nat) : Int) = (isum n q : Nat) + (n q : Nat) by rw [isum]; omega)
      have d0 : decide (((isum n q : Nat) : Int) + (n q : Nat) < 0) = false := decide_eq_false (by omega)
      have hb1 : (0 : Int) ≤ (q : Int) := by omega
      have hb2 : (q : Int) < (m : Int) := by omega
      go_wp2
      go_round
      case rel => exact ⟨q + 1, by omega, by go_num, by rw [ez.out]⟩
      case measure => simp [intOf]; omega
    · obtain rfl : q = m := by omega
      clear hq hlt
      go_wp2_with (first
        | (go_at_call 52; (with_reducible refine (growI_any (isum n q) hs w).mono ?_); rintro e w1 ⟨v, rfl, ho1, hb1⟩))
      have hz1 := hb1.size
      go_loopw [6, 27] (fun v i wr => ∃ x : Nat, x ≤ q ∧ i = .int .i64 x ∧ wr.ownsRow w.heap.size 3 1 v (isum n x) (icat n f x) ∧ Below w.heap.size w wr) (fun _ i _ => q - (intOf i).toNat)
      case atStart => exact ⟨0, Nat.zero_le _, rfl, ho1, hb1⟩
      case round =>
        clear ho1 hb1
        obtain ⟨x, hx, rfl, hown, hBr⟩ := hrel
        have hsz := hBr.size
        by_cases hlt : x < q
        · have y : _ = _ := (bcell hBr).1 b x hb
          rw [hc x hlt] at y
          have l1 : isum n x + n x ≤ 300000 := Nat.le_trans (isum_le n (m := q) (q := x + 1) (by omega)) hs
          have hb1 : (0 : Int) ≤ (x : Int) := by omega
          have hb2 : (x : Int) < (q : Int) := by omega
          go_wp2_with (first
            | (at_builtin
               (refine append_more rfl (.tmp 31) (.tmp 32) _ rfl w.heap.size 3 i0 _ 1 8 Try.underlying22 hi0 hzz0 hs0 hy0 rfl (by decide) _ (isum n x) (icat n f x) rfl hown (A x) (n x) (k x) (intL (f x) (n x)) rfl (intL_len _ _) (((hA x hlt).keep hBr).src (hN x hlt)) (intL_one _ _) (by simp only [maxLen]; omega) (by omega) (by omega) ?_)
               intro v1 w2 ho2 hg2
               have hB2 : Below w.heap.size w w2 := app_below0 hBr hBr.size (Nat.le_refl _) hown hg2))
          go_roundw
          case rel => exact ⟨x + 1, by omega, by go_num, ho2, hB2⟩
          case measure => simp [intOf]; omega
        · obtain rfl : x = q := by omega
          clear hx hlt
          go_wp2
          go_ret
          exact ⟨_, rfl, hown, hBr⟩
end Go.Proofs.Ytigfdfbjpelcaaa
