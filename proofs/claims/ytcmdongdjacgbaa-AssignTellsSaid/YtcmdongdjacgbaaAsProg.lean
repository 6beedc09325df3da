/- The contracts of assign.isCount, isLit, isTrail, areStarts, Check. -/
import Derived.Test.YtcmdongdjacgbaaAsMem
namespace Go.Proofs.Ytcmdongdjacgbaa
open Go Go.RowKit
set_option linter.unusedVariables false
set_option linter.unusedSimpArgs false

def noVar : Array Value := Array.replicate 4001 (.bool false)
theorem info_arr : (Try.prog.info? 64).map (fun i => (i.zero, i.size, i.bytes)) = some (some (.agg noVar), 4001, 4001) := by kernel_rfl
theorem noVar_at {i : Nat} (h : i < 4001) : noVar[i]? = some (.bool false) := by simp [noVar, h]
theorem zero_arr (w : World) : Sem.run Try.prog (zeroValue 64) w = .ok (.agg noVar) w := by
  obtain ⟨i0, hi0, hzz0, hs0, hy0⟩ := info_parts info_arr
  unfold zeroValue
  simp [Sem.run_bind, typeInfo, hi0, hzz0, go_sem]
/-- a variable stands among the first ones -/
def hv (t : List Int) (j i : Nat) : Bool := (t.take j).any fun y => decide (y / 2 = (i : Int))
theorem hv_iff {t : List Int} {j i : Nat} : hv t j i = true ↔ ∃ q, q < j ∧ q < t.length ∧ t.getD q 0 / 2 = (i : Int) := by
  unfold hv
  simp only [List.any_eq_true, decide_eq_true_eq]
  constructor
  · rintro ⟨y, hy, e⟩
    obtain ⟨q, hq, rfl⟩ := mem_getD hy
    rw [List.length_take] at hq
    rw [getD_take (by omega)] at e
    exact ⟨q, by omega, by omega, e⟩
  · rintro ⟨q, h1, h2, e⟩
    refine ⟨t.getD q 0, ?_, e⟩
    rw [← getD_take (m := j) h1]
    exact getD_mem (by rw [List.length_take]; omega)
theorem hv_zero (t : List Int) (i : Nat) : hv t 0 i = false := by unfold hv; simp
theorem hv_succ {t : List Int} {j : Nat} (hj : j < t.length) (i : Nat) : hv t (j + 1) i = (hv t j i || decide (t.getD j 0 / 2 = (i : Int))) := by
  unfold hv
  rw [List.take_succ_eq_append_getElem hj, List.any_append, getD_at hj]
  simp

theorem isCount14_any (v : Int) (w : World) : Calls Try.prog 20 #[.int .i64 v] w fun e w' => e = .returned (.bool (!decide (v < 0 ∨ 4000 < v))) ∧ w' = w := by
  by_cases h0 : 0 ≤ v
  · by_cases h1 : v ≤ 4000
    · have e : (!decide (v < 0 ∨ 4000 < v)) = true := by simp; omega
      rw [e]
      go_enter Try.func20, Try.ntmps20
      go_wp2
      go_ret
      exact ⟨rfl, rfl⟩
    · have e : (!decide (v < 0 ∨ 4000 < v)) = false := by simp; omega
      rw [e]
      go_enter Try.func20, Try.ntmps20
      go_wp2
      go_ret
      exact ⟨rfl, rfl⟩
  · have e : (!decide (v < 0 ∨ 4000 < v)) = false := by simp; omega
    rw [e]
    go_enter Try.func20, Try.ntmps20
    go_wp2
    go_ret
    exact ⟨rfl, rfl⟩

theorem isLit14_any (v x : Int) (hx : I64 x) (w : World) : Calls Try.prog 35 #[.int .i64 v, .int .i64 x] w fun e w' => e = .returned (.bool (isL v x)) ∧ w' = w := by
  unfold I64 at hx
  by_cases h0 : 2 ≤ x
  · have hq : x.tdiv 2 = x / 2 := Int.tdiv_eq_ediv_of_nonneg (by omega)
    by_cases h1 : x / 2 ≤ v
    · have e : isL v x = true := isL_iff.2 (by omega)
      rw [e]
      go_enter Try.func35, Try.ntmps35
      go_wp2
      go_ret
      exact ⟨rfl, rfl⟩
    · have e : isL v x = false := by rw [← Bool.not_eq_true, isL_iff]; omega
      rw [e]
      go_enter Try.func35, Try.ntmps35
      go_wp2
      go_ret
      exact ⟨rfl, rfl⟩
  · have e : isL v x = false := by rw [← Bool.not_eq_true, isL_iff]; omega
    rw [e]
    go_enter Try.func35, Try.ntmps35
    go_wp2
    go_ret
    exact ⟨rfl, rfl⟩

set_option maxRecDepth 100000 in
set_option maxHeartbeats 4000000 in
theorem isTrail_any (v : Int) (hv0 : 0 ≤ v ∧ v ≤ 4000) (A : Option Addr) (t : List Int) (k : Nat) (w : World) (h : Ia w w.heap.size A t k) (hl : t.length ≤ 100000) (hr : ∀ x ∈ t, I64 x) :
    Calls Try.prog 32 #[.int .i64 v, .slice A t.length k] w fun e w' => e = .returned (.bool (decide (OkT v t))) ∧ Below w.heap.size w w' := by
  have hz := fun w => zero_arr w
  obtain ⟨n, hn⟩ : ∃ n, n = t.length := ⟨_, rfl⟩
  rw [← hn]
  have hl' : n ≤ 100000 := by rw [hn]; exact hl
  obtain ⟨v1, v2⟩ := hv0
  have HH := Lib.hid (And.intro h (And.intro hr hn))
  clear h hl hr hn
  go_enter Try.func32, Try.ntmps32
  go_wp2
  go_loopw [10] (fun i wr => ∃ j : Nat, j ≤ n ∧ i = .int .i64 (j : Int) ∧ (∀ q, q < j → tJ v t q) ∧ (∃ cs, Has wr w.heap.size 64 cs ∧ ∀ i, i < 4001 → cs[i]? = some (.bool (hv t j i))) ∧ Below w.heap.size w wr) (fun i _ => n - (intOf i).toNat)
  case atStart => exact ⟨0, Nat.zero_le _, rfl, fun q hq => absurd hq (Nat.not_lt_zero _), ⟨noVar, Has.new _ _ _, fun i hi => by rw [hv_zero]; exact noVar_at hi⟩, (Below.refl _ _).alloc (Nat.le_refl _) _⟩
  case round =>
    obtain ⟨j, hj, rfl, hok, ⟨cs, hC, hcs0⟩, hB⟩ := hrel
    by_cases hlt : j < n
    · obtain ⟨b, o, rfl, hb0, hcs⟩ := HH.out.1.cells (by have := HH.out.2.2; omega)
      have hjl : j < t.length := by have := HH.out.2.2; omega
      have y0 := hcs j hjl
      have y : wr.cell? ⟨b, o + j, none⟩ = some (.int .i64 (t.getD j 0)) := (hB.cell (cell_lt y0)).trans y0
      have hj1 : (j : Int) < (n : Int) := by omega
      have hj0 : (0 : Int) ≤ (j : Int) := by omega
      have hx := HH.out.2.1 _ (getD_mem hjl)
      obtain ⟨x, hx0⟩ : ∃ x, x = t.getD j 0 := ⟨_, rfl⟩
      rw [← hx0] at y hx
      have D := fun W => isLit14_any v x hx W
      have HX := Lib.hid hx0
      clear hcs hx0 y0
      cases eL : isL v x with
      | false =>
        have HR := Lib.hid (show decide (OkT v t) = false from decide_eq_false (okT_no hjl fun h => by have := h.1; rw [← HX.out, eL] at this; cases this))
        rw [eL] at D
        have HB := Lib.hid hB
        clear hok hC hcs0 hx eL hB
        go_wp2_with (first | (go_at_call 35; (with_reducible refine (D _).mono ?_); rintro e w1 ⟨rfl, hw1⟩; obtain rfl := hw1.symm))
        go_ret
        exact ⟨by rw [HR.out]; rfl, HB.out⟩
      | true =>
        obtain ⟨x1, x2⟩ := isL_iff.1 eL
        have hq : x.tdiv 2 = x / 2 := Int.tdiv_eq_ediv_of_nonneg (by omega)
        have q0 : (0 : Int) ≤ x / 2 := by omega
        have q1 : x / 2 < 4001 := by omega
        rw [eL] at D
        have z : wr.cell? ⟨w.heap.size, (x / 2).toNat, none⟩ = some (.bool (hv t j (x / 2).toNat)) := by
          rw [hC.cell]; exact hcs0 _ (by omega)
        have hfz : wr.frozen? ⟨w.heap.size, (x / 2).toNat, none⟩ = false := hC.fz _
        cases eh : hv t j (x / 2).toNat with
        | true =>
          have HR := Lib.hid (show decide (OkT v t) = false from decide_eq_false (okT_no hjl fun h => by
            obtain ⟨q, hq1, hq2, hq3⟩ := hv_iff.1 eh
            have := h.2 q hq1
            rw [← HX.out] at this
            omega))
          rw [eh] at z
          have HB := Lib.hid hB
          clear hok hC hcs0 hx eL hB eh hfz
          go_wp2_with (first | (go_at_call 35; (with_reducible refine (D _).mono ?_); rintro e w1 ⟨rfl, hw1⟩; obtain rfl := hw1.symm))
          go_ret
          exact ⟨by rw [HR.out]; rfl, HB.out⟩
        | false =>
          have HK := Lib.hid (show ∀ q, q < j + 1 → tJ v t q from fun q hq' => by
            rcases Nat.lt_succ_iff_lt_or_eq.1 hq' with h' | h'
            · exact hok q h'
            · subst h'
              refine ⟨by rw [← HX.out]; exact eL, fun p hp hpe => ?_⟩
              rw [← HX.out] at hpe
              have := hv_iff.2 ⟨p, hp, by omega, show t.getD p 0 / 2 = ((x / 2).toNat : Int) by omega⟩
              rw [eh] at this
              cases this)
          have HC := Lib.hid (show ∃ cs', Has (wr.setCell ⟨w.heap.size, (x / 2).toNat, none⟩ (.bool true)) w.heap.size 64 cs' ∧ ∀ i, i < 4001 → cs'[i]? = some (.bool (hv t (j + 1) i)) from
            ⟨_, hC.set _ _, fun i hi => by
              have hsz : cs.size = 4001 ∨ 4001 < cs.size := by
                have := (Array.getElem?_eq_some_iff.1 (hcs0 4000 (by omega))).1
                omega
              rw [hv_succ hjl, ← HX.out]
              by_cases e : (x / 2).toNat = i
              · subst e
                rw [Array.getElem?_setIfInBounds_self_of_lt (by omega), show decide (x / 2 = ((x / 2).toNat : Int)) = true from decide_eq_true (by omega), Bool.or_true]
              · rw [Array.getElem?_setIfInBounds_ne e, hcs0 i hi, show decide (x / 2 = (i : Int)) = false from decide_eq_false (by omega), Bool.or_false]⟩)
          rw [eh] at z
          have HB := Lib.hid (hB.setCell (p := ⟨w.heap.size, (x / 2).toNat, none⟩) (Nat.le_refl _) (.bool true))
          clear hok hC hcs0 hx eL hB eh
          go_wp2_with (first | (go_at_call 35; (with_reducible refine (D _).mono ?_); rintro e w1 ⟨rfl, hw1⟩; obtain rfl := hw1.symm))
          go_roundw
          case rel => exact ⟨j + 1, by omega, by go_num, HK.out, HC.out, HB.out⟩
          case measure => simp [intOf]; omega
    · have HR := Lib.hid (show decide (OkT v t) = true from decide_eq_true (OkT_iff.2 fun q hq => hok q (by have := HH.out.2.2; omega)))
      have hjn : ¬ (j : Int) < (n : Int) := by omega
      have HB := Lib.hid hB
      clear hok hC hcs0 hB
      go_wp2
      go_ret
      exact ⟨by rw [HR.out]; rfl, HB.out⟩

set_option maxRecDepth 100000 in
set_option maxHeartbeats 4000000 in
theorem areStarts_any (A : Option Addr) (s : List Int) (k : Nat) (m : Nat) (w : World) (h : Ia w w.heap.size A s k) (hl : s.length ≤ 100000) :
    Calls Try.prog 33 #[.slice A s.length k, .int .i64 (m : Int)] w fun e w' => e = .returned (.bool (decide (OkS m s))) ∧ w = w' := by
  obtain ⟨n, hn⟩ : ∃ n, n = s.length := ⟨_, rfl⟩
  rw [← hn]
  have hl' : n ≤ 100000 := by rw [hn]; exact hl
  have HH := Lib.hid (And.intro h hn)
  clear h hl hn
  go_enter Try.func33, Try.ntmps33
  go_wp2
  go_loopw [5, 10] (fun b i wr => ∃ j : Nat, j ≤ n ∧ i = .int .i64 (j : Int) ∧ b = .int .i64 (sb s j) ∧ (∀ q, q < j → sJ m s q) ∧ w = wr) (fun _ i _ => n - (intOf i).toNat)
  case atStart => exact ⟨0, Nat.zero_le _, rfl, rfl, fun q hq => absurd hq (Nat.not_lt_zero _), rfl⟩
  case round =>
    obtain ⟨j, hj, rfl, rfl, hok, rfl⟩ := hrel
    by_cases hlt : j < n
    · obtain ⟨b, o, rfl, hb0, hcs⟩ := HH.out.1.cells (by have := HH.out.2; omega)
      have hjl : j < s.length := by have := HH.out.2; omega
      have y := hcs j hjl
      have hj1 : (j : Int) < (n : Int) := by omega
      have hj0 : (0 : Int) ≤ (j : Int) := by omega
      have HS := Lib.hid (sb_succ s j)
      obtain ⟨x, hx0⟩ : ∃ x, x = s.getD j 0 := ⟨_, rfl⟩
      obtain ⟨p, hp0⟩ : ∃ p, p = sb s j := ⟨_, rfl⟩
      rw [← hx0] at y
      rw [← hp0]
      have HX := Lib.hid (And.intro hx0 hp0)
      clear hcs hx0 hp0
      by_cases h1 : x ≤ p
      · have HR := Lib.hid (show decide (OkS m s) = false from decide_eq_false (okS_no hjl fun h => by have := h.1; rw [← HX.out.1, ← HX.out.2] at this; omega))
        clear hok
        go_wp2
        go_ret
        exact ⟨by rw [HR.out]; rfl, rfl⟩
      · by_cases h2 : (m : Int) ≤ x
        · have HR := Lib.hid (show decide (OkS m s) = false from decide_eq_false (okS_no hjl fun h => by have := h.2; rw [← HX.out.1] at this; omega))
          clear hok
          go_wp2
          go_ret
          exact ⟨by rw [HR.out]; rfl, rfl⟩
        · have HK := Lib.hid (And.intro hok (show sJ m s j from ⟨by rw [← HX.out.1, ← HX.out.2]; omega, by rw [← HX.out.1]; omega⟩))
          clear hok
          go_wp2
          go_roundw
          case rel => exact ⟨j + 1, by omega, by go_num, by rw [HS.out, HX.out.1], fun q hq' => by
            rcases Nat.lt_succ_iff_lt_or_eq.1 hq' with h' | h'
            · exact HK.out.1 q h'
            · subst h'; exact HK.out.2, by trivial⟩
          case measure => simp [intOf]; omega
    · have HR := Lib.hid (show decide (OkS m s) = true from decide_eq_true (OkS_iff.2 fun q hq => hok q (by have := HH.out.2; omega)))
      have hjn : ¬ (j : Int) < (n : Int) := by omega
      clear hok
      go_wp2
      go_ret
      exact ⟨by rw [HR.out]; rfl, rfl⟩

end Go.Proofs.Ytcmdongdjacgbaa
