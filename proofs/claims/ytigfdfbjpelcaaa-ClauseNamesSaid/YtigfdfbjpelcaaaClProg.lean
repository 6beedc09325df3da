/- The contracts of clause.isCount, isLit, Check, Make. -/
import Derived.Test.YtigfdfbjpelcaaaClMem
import Derived.Test.YtigfdfbjpelcaaaValuesRef
namespace Go.Proofs.Ytigfdfbjpelcaaa
open Go Go.RowKit
set_option linter.unusedVariables false
set_option linter.unusedSimpArgs false

theorem isCount_any (v : Int) (w : World) : Calls Try.prog 26 #[.int .i64 v] w fun e w' => e = .returned (.bool (!decide (v < 0 ∨ 4000 < v))) ∧ w' = w := by
  by_cases h0 : 0 ≤ v
  · by_cases h1 : v ≤ 4000
    · have e : (!decide (v < 0 ∨ 4000 < v)) = true := by simp; omega
      rw [e]
      go_enter Try.func26, Try.ntmps26
      go_wp2
      go_ret
      exact ⟨rfl, rfl⟩
    · have e : (!decide (v < 0 ∨ 4000 < v)) = false := by simp; omega
      rw [e]
      go_enter Try.func26, Try.ntmps26
      go_wp2
      go_ret
      exact ⟨rfl, rfl⟩
  · have e : (!decide (v < 0 ∨ 4000 < v)) = false := by simp; omega
    rw [e]
    go_enter Try.func26, Try.ntmps26
    go_wp2
    go_ret
    exact ⟨rfl, rfl⟩

theorem isLit_any (v x : Int) (hx : I64 x) (w : World) : Calls Try.prog 28 #[.int .i64 v, .int .i64 x] w fun e w' => e = .returned (.bool (isL v x)) ∧ w' = w := by
  unfold I64 at hx
  by_cases h0 : 2 ≤ x
  · have hq : x.tdiv 2 = x / 2 := Int.tdiv_eq_ediv_of_nonneg (by omega)
    by_cases h1 : x / 2 ≤ v
    · have e : isL v x = true := isL_iff.2 (by omega)
      rw [e]
      go_enter Try.func28, Try.ntmps28
      go_wp2
      go_ret
      exact ⟨rfl, rfl⟩
    · have e : isL v x = false := by rw [← Bool.not_eq_true, isL_iff]; omega
      rw [e]
      go_enter Try.func28, Try.ntmps28
      go_wp2
      go_ret
      exact ⟨rfl, rfl⟩
  · have e : isL v x = false := by rw [← Bool.not_eq_true, isL_iff]; omega
    rw [e]
    go_enter Try.func28, Try.ntmps28
    go_wp2
    go_ret
    exact ⟨rfl, rfl⟩

set_option maxRecDepth 100000 in
set_option maxHeartbeats 2000000 in
theorem check_any (v : Int) (A : Option Addr) (l : List Int) (k : Nat) (w : World) (h : Ia w w.heap.size A l k) (hl : l.length ≤ 100000) (hr : ∀ x ∈ l, I64 x) :
    Calls Try.prog 15 #[.int .i64 v, .slice A l.length k] w fun e w' => e = .returned (.int .i64 (ckE v l)) ∧ ∃ d, w' = w.drewN d := by
  obtain ⟨n, hn⟩ : ∃ n, n = l.length := ⟨_, rfl⟩
  rw [← hn]
  have hl' : n ≤ 100000 := by rw [hn]; exact hl
  have HH := Lib.hid (And.intro h (And.intro hr hn))
  clear h hl hr hn
  by_cases hv : v < 0 ∨ 4000 < v
  · have ev : (!decide (v < 0 ∨ 4000 < v)) = false := by simp [hv]
    rw [ckE_lo hv]
    go_enter Try.func15, Try.ntmps15
    go_wp2_with (first | (go_at_call 26; (with_reducible refine (isCount_any v w).mono ?_); rintro e w1 ⟨rfl, hw1⟩; obtain rfl := hw1.symm; rw [ev]))
    go_ret
    exact ⟨rfl, 0, rfl⟩
  · have ev : (!decide (v < 0 ∨ 4000 < v)) = true := by simp [hv]
    go_enter Try.func15, Try.ntmps15
    go_wp2_with (first | (go_at_call 26; (with_reducible refine (isCount_any v w).mono ?_); rintro e w1 ⟨rfl, hw1⟩; obtain rfl := hw1.symm; rw [ev]))
    go_loopw [5, 13] (fun b i wr => ∃ j : Nat, j ≤ n ∧ i = .int .i64 (j : Int) ∧ b = .int .i64 (bf l j) ∧ (∀ q, q < j → okJ v l q) ∧ ∃ d, wr = w.drewN d) (fun _ i _ => n - (intOf i).toNat)
    case atStart => exact ⟨0, Nat.zero_le _, rfl, rfl, fun q hq => absurd hq (Nat.not_lt_zero _), 0, rfl⟩
    case round =>
      obtain ⟨j, hj, rfl, rfl, hok, d, rfl⟩ := hrel
      by_cases hlt : j < n
      · obtain ⟨b, o, rfl, hb, hc⟩ := HH.out.1.cells (by have := HH.out.2.2; omega)
        have hjl : j < l.length := by have := HH.out.2.2; omega
        have y := hc j hjl
        have hx := HH.out.2.1 _ (getD_mem hjl)
        have hj1 : (j : Int) < (n : Int) := by omega
        have hj0 : (0 : Int) ≤ (j : Int) := by omega
        obtain ⟨x, hx0⟩ : ∃ x, x = l.getD j 0 := ⟨_, rfl⟩
        rw [← hx0] at y hx
        have hx' := hx
        unfold I64 at hx
        have HX := Lib.hid hx0
        clear hc hx0
        cases eL : isL v x with
        | false =>
          have hck : ckE v l = 8 := by
            unfold ckE
            rw [if_neg hv, if_neg (by rw [okC_no hjl (fun h => by have h1 := h.1; rw [← HX.out, eL] at h1; exact absurd h1 (by decide))]; decide)]
          clear hok
          go_wp2_with (first | (go_at_call 28; (with_reducible refine (isLit_any v x hx' _).mono ?_); rintro e w1 ⟨rfl, hw1⟩; obtain rfl := hw1.symm; rw [eL]))
          go_ret
          rw [hck]
          exact ⟨rfl, _, rfl⟩
        | true =>
          obtain ⟨x1, x2⟩ := isL_iff.1 eL
          have hq : x.tdiv 2 = x / 2 := Int.tdiv_eq_ediv_of_nonneg (by omega)
          obtain ⟨p, hp⟩ : ∃ p, p = bf l j := ⟨_, rfl⟩
          rw [← hp]
          by_cases hle : x / 2 ≤ p
          · have hck : ckE v l = 8 := by
              unfold ckE
              rw [if_neg hv, if_neg (by
                rw [okC_no hjl (fun h => by
                  rcases h.2 with h' | h'
                  · subst h'; rw [show bf l 0 = 0 from rfl] at hp; omega
                  · rw [← HX.out] at h'
                    unfold bf at hp
                    split at hp
                    · omega
                    · omega)]; decide)]
            clear hok
            go_wp2_with (first | (go_at_call 28; (with_reducible refine (isLit_any v x hx' _).mono ?_); rintro e w1 ⟨rfl, hw1⟩; obtain rfl := hw1.symm; rw [eL]))
            go_ret
            rw [hck]
            exact ⟨rfl, _, rfl⟩
          · have hok' : okJ v l j := ⟨by rw [← HX.out]; exact eL, by
              rcases Nat.eq_zero_or_pos j with h' | h'
              · exact Or.inl h'
              · refine Or.inr ?_
                unfold bf at hp
                rw [if_neg (by omega)] at hp
                rw [← HX.out]; omega⟩
            have HK := Lib.hid (And.intro hok hok')
            have hbf : bf l (j + 1) = x / 2 := by unfold bf; rw [if_neg (by omega), Nat.add_sub_cancel, ← HX.out]
            clear hok hok'
            go_wp2_with (first | (go_at_call 28; (with_reducible refine (isLit_any v x hx' _).mono ?_); rintro e w1 ⟨rfl, hw1⟩; obtain rfl := hw1.symm; rw [eL]))
            go_roundw
            case rel => exact ⟨j + 1, by omega, by go_num, by rw [hbf], fun q hq' => by
              rcases Nat.lt_succ_iff_lt_or_eq.1 hq' with h' | h'
              · exact HK.out.1 q h'
              · subst h'; exact HK.out.2, _, rfl⟩
            case measure => simp [intOf]; omega
      · have ej : j = n := by omega
        have hck : ckE v l = 0 := by
          unfold ckE
          rw [if_neg hv, if_pos (okC_yes fun q hq => hok q (by have := HH.out.2.2; omega))]
        clear hok
        have hjn : ¬ (j : Int) < (n : Int) := by omega
        go_wp2
        go_ret
        exact ⟨rfl, _, rfl⟩

end Go.Proofs.Ytigfdfbjpelcaaa
