/- For a valid assignment of at most 200 literals and a literal: it and its negation are never both true; they are true and false, or neither, and have the same level. No conditions. -/
import Derived.Test.YtcefphdabomlpaaAsGuard
namespace Go.Proofs.Ytcefphdabomlpaa.assignValues
open Go.ChangeShapes Go.WideShapes Go.ChangeAt Go.RowKit
set_option linter.unusedVariables false
set_option linter.unusedSimpArgs false

theorem ng_ng {x : Int} (h : 2 ≤ x) : ng (ng x) = x := by unfold ng; split <;> split <;> omega
theorem isL_ng {v x : Int} (h : isL v x = true) : isL v (ng x) = true := by have := isL_iff.1 h; rw [isL_iff]; unfold ng; split <;> omega
/-- the three ways -/
theorem three {v : Int} {t s : List Int} {x : Int} (hO : OkA v t s) (hL : isL v x = true) :
    (isv t x = 1 ∧ isv t (ng x) = 0 ∧ hs t x = true ∧ lE v t s x = 0) ∨ (isv t x = 0 ∧ isv t (ng x) = 1 ∧ hs t x = false ∧ lE v t s x = 0) ∨ (isv t x = 2 ∧ isv t (ng x) = 2 ∧ lE v t s x = 6) := by
  have h2 := (isL_iff.1 hL).1
  by_cases h1 : x ∈ t
  · have hn : ng x ∉ t := fun h => ng_ne x (hO.2.1.eq h h1 (ng_half x))
    refine Or.inl ⟨by unfold isv; rw [if_pos h1], by unfold isv; rw [if_neg hn, ng_ng h2, if_pos h1], hs_iff.2 h1, lE_0.2 ⟨hO, hL, vin_iff.2 ⟨x, h1, rfl⟩⟩⟩
  · by_cases h3 : ng x ∈ t
    · exact Or.inr (Or.inl ⟨by unfold isv; rw [if_neg h1, if_pos h3], by unfold isv; rw [if_pos h3], hs_no.2 h1, lE_0.2 ⟨hO, hL, vin_iff.2 ⟨_, h3, ng_half x⟩⟩⟩)
    · have e : vin t x = false := isv_none.1 (by unfold isv; rw [if_neg h1, if_neg h3])
      refine Or.inr (Or.inr ⟨isv_none.2 e, isv_none.2 (vin_no.2 fun y hy => by rw [ng_half]; exact vin_no.1 e y hy), by unfold lE; rw [if_pos hO, if_pos hL, e]; rfl⟩)
theorem lv_ng {v : Int} {t s : List Int} {x : Int} (hO : OkA v t s) (hL : isL v x = true) : lV v t s (ng x) = lV v t s x ∧ lE v t s (ng x) = lE v t s x := by
  have ev : vin t (ng x) = vin t x := by unfold vin; simp only [ng_half]
  have e1 : lE v t s (ng x) = lE v t s x := by unfold lE; rw [ev, isL_ng hL, hL]
  exact ⟨by unfold lV; rw [e1, plc_ng hO.2.1], e1⟩

theorem own : ownKnob Try.prog.godebug = none := by kernel_rfl

set_option maxRecDepth 100000 in
set_option maxHeartbeats 4000000 in
theorem walk (a0 : Int) (A0 : Option Addr) (t0 : List Int) (k0 : Nat) (B0 : Option Addr) (s0 : List Int) (q0 : Nat) (a1 : Int) (w : World) (w0 : (Lit.int .i64 a0).wf = true) (hm0 : Ia w w.heap.size A0 t0 k0) (hr0 : ∀ x ∈ t0, I64 x) (hK0 : k0 ≤ maxLen) (hn0 : Ia w w.heap.size B0 s0 q0) (hs0 : ∀ x ∈ s0, I64 x) (hQ0 : q0 ≤ maxLen) (w1 : (Lit.int .i64 a1).wf = true) :
    Calls Try.prog 7 #[.agg #[.int .i64 a0, .slice A0 t0.length k0, .slice B0 s0.length q0], .int .i64 a1] w fun e w' => e = .returned (.bool true) ∧ Below w.heap.size w w' := by
  have hv0 := i64_of w0
  have hv1 := i64_of w1
  clear w0 w1
  have hk0 : k0 ≤ 9223372036854775807 ∧ q0 ≤ 9223372036854775807 := ⟨hK0, hQ0⟩
  obtain ⟨n, hn⟩ : ∃ n, n = t0.length := ⟨_, rfl⟩
  obtain ⟨m, hm⟩ : ∃ m, m = s0.length := ⟨_, rfl⟩
  have hn63 : n ≤ 9223372036854775807 := by have := hm0.c; omega
  have hm63 : m ≤ 9223372036854775807 := by have := hn0.c; omega
  have hNw := Nw.arg hm0 hn0 hn hm
  rw [← hn, ← hm]
  have DA := alive14_any (w.alloc (.cells #[.int .i64 a0, .slice A0 n k0, .slice B0 m q0] 24))
  have DG := fun W => rGreat14_any a0 A0 n k0 B0 m q0 W hn63 hm63
  by_cases hg : 200 < n ∨ 200 < m
  · rw [show decide (200 < n ∨ 200 < m) = true from decide_eq_true hg] at DG
    clear hm0 hr0 hK0 hn0 hs0 hQ0 hn hm hk0 hNw hg hn63 hm63
    go_enter Try.func7, Try.ntmps7
    go_wp2_with (first
      | (go_at_call 26; (with_reducible refine DA.mono ?_); rintro e w3 ⟨rfl, hb3⟩
         have c0 := bx_cell hb3 0
         have c1 := bx_cell hb3 1
         have c2 := bx_cell hb3 2
         have HC3 := Lib.hid hb3
         have HB3 := Lib.hid (bx_bn hb3)
         clear hb3)
      | (go_at_call 9; (with_reducible refine (DG w3).mono ?_); rintro e w4 ⟨rfl, hb4⟩
         have d0 := bx_cell (bn HC3.out hb4) 0
         have d1 := bx_cell (bn HC3.out hb4) 1
         have d2 := bx_cell (bn HC3.out hb4) 2
         have HC4 := Lib.hid (bn HC3.out hb4)
         have HB4 := Lib.hid (bn HB3.out hb4)
         clear hb4))
    go_ret
    exact ⟨rfl, HB4.out⟩
  · rw [show decide (200 < n ∨ 200 < m) = false from decide_eq_false hg] at DG
    have DC := fun (W : World) (hb : Below w.heap.size w W) => (hNw.on hb).rcheck (by omega) (by omega) a0
    by_cases hO : OkA a0 t0 s0
    case neg =>
      rw [aE_no hO] at DC
      clear hm0 hr0 hK0 hn0 hs0 hQ0 hn hm hk0 hNw hg hn63 hm63 hO
      go_enter Try.func7, Try.ntmps7
      go_wp2_with (first
        | (go_at_call 26; (with_reducible refine DA.mono ?_); rintro e w3 ⟨rfl, hb3⟩
           have c0 := bx_cell hb3 0
           have c1 := bx_cell hb3 1
           have c2 := bx_cell hb3 2
           have HC3 := Lib.hid hb3
           have HB3 := Lib.hid (bx_bn hb3)
           clear hb3)
        | (go_at_call 9; (with_reducible refine (DG w3).mono ?_); rintro e w4 ⟨rfl, hb4⟩
           have d0 := bx_cell (bn HC3.out hb4) 0
           have d1 := bx_cell (bn HC3.out hb4) 1
           have d2 := bx_cell (bn HC3.out hb4) 2
           have HC4 := Lib.hid (bn HC3.out hb4)
           have HB4 := Lib.hid (bn HB3.out hb4)
           clear hb4)
        | (go_at_call 24; (with_reducible refine (DC w4 HB4.out).mono ?_); rintro e w5 ⟨rfl, hb5⟩
           have e0 := bx_cell (bn HC4.out hb5) 0
           have e1 := bx_cell (bn HC4.out hb5) 1
           have e2 := bx_cell (bn HC4.out hb5) 2
           have HC5 := Lib.hid (bn HC4.out hb5)
           have HB5 := Lib.hid (bn HB4.out hb5)
           clear hb5))
      go_ret
      exact ⟨rfl, HB5.out⟩
    case pos =>
      rw [aE_yes hO] at DC
      have DT := fun W => rLit_any a0 a1 (by have := hO.1; omega) W
      cases hL : isL a0 a1 with
      | false =>
        rw [hL] at DT
        clear hm0 hr0 hK0 hn0 hs0 hQ0 hn hm hk0 hNw hg hn63 hm63 hO hL
        go_enter Try.func7, Try.ntmps7
        go_wp2_with (first
          | (go_at_call 26; (with_reducible refine DA.mono ?_); rintro e w3 ⟨rfl, hb3⟩
             have c0 := bx_cell hb3 0
             have c1 := bx_cell hb3 1
             have c2 := bx_cell hb3 2
             have HC3 := Lib.hid hb3
             have HB3 := Lib.hid (bx_bn hb3)
             clear hb3)
          | (go_at_call 9; (with_reducible refine (DG w3).mono ?_); rintro e w4 ⟨rfl, hb4⟩
             have d0 := bx_cell (bn HC3.out hb4) 0
             have d1 := bx_cell (bn HC3.out hb4) 1
             have d2 := bx_cell (bn HC3.out hb4) 2
             have HC4 := Lib.hid (bn HC3.out hb4)
             have HB4 := Lib.hid (bn HB3.out hb4)
             clear hb4)
          | (go_at_call 24; (with_reducible refine (DC w4 HB4.out).mono ?_); rintro e w5 ⟨rfl, hb5⟩
             have e0 := bx_cell (bn HC4.out hb5) 0
             have e1 := bx_cell (bn HC4.out hb5) 1
             have e2 := bx_cell (bn HC4.out hb5) 2
             have HC5 := Lib.hid (bn HC4.out hb5)
             have HB5 := Lib.hid (bn HB4.out hb5)
             clear hb5)
          | (go_at_call 27; (with_reducible refine (DT _).mono ?_); rintro e w6 ⟨rfl, rfl⟩))
        go_ret
        exact ⟨rfl, HB5.out⟩
      | true =>
        rw [hL] at DT
        have hng := isL_ng hL
        have hr1 := isL_iff.1 hL
        have hr2 := isL_iff.1 hng
        have DN := fun W => rNot_any a1 (by have := hO.1; omega) W
        have DV := fun (W : World) (hb : Below w.heap.size w W) => (hNw.on hb).value (by omega) (by omega) hO a1 hv1
        have DV2 := fun (W : World) (hb : Below w.heap.size w W) => (hNw.on hb).value (by omega) (by omega) hO (ng a1) (by have := hO.1; unfold I64; omega)
        have DL := fun (W : World) (hb : Below w.heap.size w W) => (hNw.on hb).level (by omega) (by omega) hO a1 hv1
        have DL2 := fun (W : World) (hb : Below w.heap.size w W) => (hNw.on hb).level (by omega) (by omega) hO (ng a1) (by have := hO.1; unfold I64; omega)
        have DH := fun (W : World) (hb : Below w.heap.size w W) => rHas_any A0 t0 k0 a1 W.heap.size W (hNw.on hb).ti (by omega)
        rw [← hn] at DH
        have e1 : wE a0 t0 s0 a1 = 0 := wE_0.2 ⟨hO, hL⟩
        have e2 : wE a0 t0 s0 (ng a1) = 0 := wE_0.2 ⟨hO, hng⟩
        have e3 : vV a0 t0 s0 a1 = isv t0 a1 := by unfold vV; rw [if_pos e1]
        have e4 : vV a0 t0 s0 (ng a1) = isv t0 (ng a1) := by unfold vV; rw [if_pos e2]
        obtain ⟨e5, e6⟩ := lv_ng hO hL
        rw [e3, e1] at DV
        rw [e4, e2] at DV2
        rw [e5, e6] at DL2
        have h3 := three hO hL
        obtain ⟨lv, hlv⟩ : ∃ lv, lv = lV a0 t0 s0 a1 := ⟨_, rfl⟩
        rw [← hlv] at DL DL2
        obtain ⟨y, hy⟩ : ∃ y, y = ng a1 := ⟨_, rfl⟩
        rw [← hy] at DN DV2 DL2 h3
        have f1 : (lv == lv) = true := by simp
        have f2 : (lv != lv) = false := by simp
        clear e1 e2 e3 e4 e5 e6 hlv hy hr1 hr2 hng
        clear hm0 hr0 hK0 hn0 hs0 hQ0 hn hm hk0 hNw hg hn63 hm63 hO hL hv0 hv1
        rcases h3 with ⟨h1, h2, h4, h5⟩ | ⟨h1, h2, h4, h5⟩ | ⟨h1, h2, h5⟩
        · rw [h1] at DV
          rw [h2] at DV2
          rw [h5] at DL DL2
          rw [h4] at DH
          clear h1 h2 h4 h5
          go_enter Try.func7, Try.ntmps7
          go_wp2_with (first
            | (go_at_call 26; (with_reducible refine DA.mono ?_); rintro e w3 ⟨rfl, hb3⟩
               have c0 := bx_cell hb3 0
               have c1 := bx_cell hb3 1
               have c2 := bx_cell hb3 2
               have HC3 := Lib.hid hb3
               have HB3 := Lib.hid (bx_bn hb3)
               clear hb3)
            | (go_at_call 9; (with_reducible refine (DG w3).mono ?_); rintro e w4 ⟨rfl, hb4⟩
               have d0 := bx_cell (bn HC3.out hb4) 0
               have d1 := bx_cell (bn HC3.out hb4) 1
               have d2 := bx_cell (bn HC3.out hb4) 2
               have HC4 := Lib.hid (bn HC3.out hb4)
               have HB4 := Lib.hid (bn HB3.out hb4)
               clear hb4)
            | (go_at_call 24; (with_reducible refine (DC w4 HB4.out).mono ?_); rintro e w5 ⟨rfl, hb5⟩
               have e0 := bx_cell (bn HC4.out hb5) 0
               have e1 := bx_cell (bn HC4.out hb5) 1
               have e2 := bx_cell (bn HC4.out hb5) 2
               have HC5 := Lib.hid (bn HC4.out hb5)
               have HB5 := Lib.hid (bn HB4.out hb5)
               clear hb5)
            | (go_at_call 27; (with_reducible refine (DT _).mono ?_); rintro e w6 ⟨rfl, rfl⟩)
            | (go_at_call 17; (with_reducible refine (DV w5 HB5.out).mono ?_); rintro e w7 ⟨rfl, hb7⟩
               have HC7 := Lib.hid (bn HC5.out hb7)
               have HB7 := Lib.hid (bn HB5.out hb7)
               clear hb7))
          have hS0 : (fun W : World => W.cell? ⟨w.heap.size, 0, none⟩ = some (.int .i64 a0) ∧ W.cell? ⟨w.heap.size, 1, none⟩ = some (.slice A0 n k0) ∧ W.cell? ⟨w.heap.size, 2, none⟩ = some (.slice B0 m q0)) w7.drew := ⟨bx_cell HC7.out 0, bx_cell HC7.out 1, bx_cell HC7.out 2⟩
          refine wp_slots (fun f => Sz f 111 ∧ Slot f 1 (.int .i64 a1) ∧ Slot f 2 (.pointer (some ⟨w.heap.size, 0, none⟩)) ∧ Slot f 5 (.bool true) ∧ Slot f 6 (.int .u8 1) ∧ Slot f 7 (.int .i64 0)) ⟨⟨rfl, rfl⟩, ⟨rfl⟩, ⟨rfl⟩, ⟨rfl⟩, ⟨rfl⟩, ⟨rfl⟩⟩ fun a0' hA0 hR => ?_
          obtain ⟨hZ, hs1, hs2, hs5, hs6, hs7⟩ := hR
          clear hA0
          refine wp_region_T (fun W : World => W.cell? ⟨w.heap.size, 0, none⟩ = some (.int .i64 a0) ∧ W.cell? ⟨w.heap.size, 1, none⟩ = some (.slice A0 n k0) ∧ W.cell? ⟨w.heap.size, 2, none⟩ = some (.slice B0 m q0)) 9 (by kernel_rfl) ?_
          refine WT.h ?_
          (refine wt_take1 0 2 (v := ?_) rfl rfl (by kernel_rfl) (by kernel_rfl) (by kernel_rfl) (by kernel_rfl) (fun _ _ _ h => h) rfl hS0 (by (repeat (first | (refine slot_hit (N := 111) ?_ (by rfl); (repeat (refine sz_put ?_)); assumption; done) | (apply slot_miss; focus rfl))); all_goals assumption) (fun ev hk hv0 w hS => ?_) ?_; rotate_left; focus (obtain ⟨j0, j1, j2⟩ := hS; go_simp; rfl)); (refine wt_move 1 1 rfl rfl (by kernel_rfl) (by kernel_rfl) (by kernel_rfl) (by kernel_rfl) (fun _ _ _ h => h) rfl hS0 (by (repeat (first | (refine slot_hit (N := 111) ?_ (by rfl); (repeat (refine sz_put ?_)); assumption; done) | (apply slot_miss; focus rfl))); all_goals assumption) rfl ?_)
          refine wt_call1 2 42 (by kernel_rfl) rfl rfl rfl (by (repeat (first | (refine slot_hit (N := 111) ?_ (by rfl); (repeat (refine sz_put ?_)); assumption; done) | (apply slot_miss; focus rfl))); all_goals assumption) (f := ?_) (args := ?_) (fun ev hk hkf hv0 => ?_) ?_; rotate_left 2; focus (go_simp; first | rfl | (constructor <;> rfl))
          refine (DN _).mono ?_
          rintro e w8 ⟨rfl, rfl⟩
          refine ⟨_, rfl, fun _ => hS0, ?_⟩
          refine wt_call2 3 41 43 (by kernel_rfl) rfl rfl rfl (by (repeat (first | (refine slot_hit (N := 111) ?_ (by rfl); (repeat (refine sz_put ?_)); assumption; done) | (apply slot_miss; focus rfl))); all_goals assumption) (by (repeat (first | (refine slot_hit (N := 111) ?_ (by rfl); (repeat (refine sz_put ?_)); assumption; done) | (apply slot_miss; focus rfl))); all_goals assumption) (f := ?_) (args := ?_) (fun ev hk hkf hv0 hv1 => ?_) ?_; rotate_left 2; focus (go_simp; first | rfl | (constructor <;> rfl))
          refine (DV2 _ (below_dn HB7.out 1)).mono ?_
          rintro e w9 ⟨rfl, hb9⟩
          have hC9 := bn HC7.out (bn (below_dn (Below.refl _ _) 1) hb9)
          have HC9 := Lib.hid hC9
          have HB9 := Lib.hid (bn HB7.out (bn (below_dn (Below.refl _ _) 1) hb9))
          have hS0 : (fun W : World => W.cell? ⟨w.heap.size, 0, none⟩ = some (.int .i64 a0) ∧ W.cell? ⟨w.heap.size, 1, none⟩ = some (.slice A0 n k0) ∧ W.cell? ⟨w.heap.size, 2, none⟩ = some (.slice B0 m q0)) w9 := ⟨bx_cell hC9 0, bx_cell hC9 1, bx_cell hC9 2⟩
          refine ⟨_, rfl, fun _ => hS0, ?_⟩
          clear hb9 hC9
          (refine wt_move 4 44 rfl rfl (by kernel_rfl) (by kernel_rfl) (by kernel_rfl) (by kernel_rfl) (fun _ _ _ h => h) rfl hS0 (by (repeat (first | (refine slot_hit (N := 111) ?_ (by rfl); (repeat (refine sz_put ?_)); assumption; done) | (apply slot_miss; focus rfl))); all_goals assumption) rfl ?_); (refine wt_take1 5 40 (v := ?_) rfl rfl (by kernel_rfl) (by kernel_rfl) (by kernel_rfl) (by kernel_rfl) (fun _ _ _ h => h) rfl hS0 (by (repeat (first | (refine slot_hit (N := 111) ?_ (by rfl); (repeat (refine sz_put ?_)); assumption; done) | (apply slot_miss; focus rfl))); all_goals assumption) (fun ev hk hv0 w hS => ?_) ?_; rotate_left; focus (obtain ⟨j0, j1, j2⟩ := hS; go_simp; rfl)); (refine wt_take1 6 40 (v := ?_) rfl rfl (by kernel_rfl) (by kernel_rfl) (by kernel_rfl) (by kernel_rfl) (fun _ _ _ h => h) rfl hS0 (by (repeat (first | (refine slot_hit (N := 111) ?_ (by rfl); (repeat (refine sz_put ?_)); assumption; done) | (apply slot_miss; focus rfl))); all_goals assumption) (fun ev hk hv0 w hS => ?_) ?_; rotate_left; focus (obtain ⟨j0, j1, j2⟩ := hS; go_simp; rfl)); (refine wt_assign 7 45 rfl rfl (by kernel_rfl) (by kernel_rfl) (by kernel_rfl) (by kernel_rfl) (fun _ _ _ h => h) rfl hS0 (by (repeat (first | (refine slot_hit (N := 111) ?_ (by rfl); (repeat (refine sz_put ?_)); assumption; done) | (apply slot_miss; focus rfl))); all_goals assumption) rfl ?_); (refine wt_assign 8 46 rfl rfl (by kernel_rfl) (by kernel_rfl) (by kernel_rfl) (by kernel_rfl) (fun _ _ _ h => h) rfl hS0 (by (repeat (first | (refine slot_hit (N := 111) ?_ (by rfl); (repeat (refine sz_put ?_)); assumption; done) | (apply slot_miss; focus rfl))); all_goals assumption) rfl ?_)
          refine wt_known (N := 111) (by kernel_rfl) (by (repeat (refine sz_put ?_)); assumption) [(1, .int .i64 a1), (2, .pointer (some ⟨w.heap.size, 0, none⟩)), (5, .bool true), (6, .int .u8 1), (7, .int .i64 0), (8, .int .u8 0), (9, .int .i64 0)] ⟨(by (repeat (first | (refine slot_hit (N := 111) ?_ (by rfl); (repeat (refine sz_put ?_)); assumption; done) | (apply slot_miss; focus rfl))); all_goals assumption), (by (repeat (first | (refine slot_hit (N := 111) ?_ (by rfl); (repeat (refine sz_put ?_)); assumption; done) | (apply slot_miss; focus rfl))); all_goals assumption), (by (repeat (first | (refine slot_hit (N := 111) ?_ (by rfl); (repeat (refine sz_put ?_)); assumption; done) | (apply slot_miss; focus rfl))); all_goals assumption), (by (repeat (first | (refine slot_hit (N := 111) ?_ (by rfl); (repeat (refine sz_put ?_)); assumption; done) | (apply slot_miss; focus rfl))); all_goals assumption), (by (repeat (first | (refine slot_hit (N := 111) ?_ (by rfl); (repeat (refine sz_put ?_)); assumption; done) | (apply slot_miss; focus rfl))); all_goals assumption), (by (repeat (first | (refine slot_hit (N := 111) ?_ (by rfl); (repeat (refine sz_put ?_)); assumption; done) | (apply slot_miss; focus rfl))); all_goals assumption), (by (repeat (first | (refine slot_hit (N := 111) ?_ (by rfl); (repeat (refine sz_put ?_)); assumption; done) | (apply slot_miss; focus rfl))); all_goals assumption), trivial⟩ fun fv fl hfl => ?_; obtain rfl : fl = [fv 0, (.int .i64 a1 : Value), (.pointer (some ⟨w.heap.size, 0, none⟩) : Value), fv 3, fv 4, (.bool true : Value), (.int .u8 1 : Value), (.int .i64 0 : Value), (.int .u8 0 : Value), (.int .i64 0 : Value), fv 10, fv 11, fv 12, fv 13, fv 14, fv 15, fv 16, fv 17, fv 18, fv 19, fv 20, fv 21, fv 22, fv 23, fv 24, fv 25, fv 26, fv 27, fv 28, fv 29, fv 30, fv 31, fv 32, fv 33, fv 34, fv 35, fv 36, fv 37, fv 38, fv 39, fv 40, fv 41, fv 42, fv 43, fv 44, fv 45, fv 46, fv 47, fv 48, fv 49, fv 50, fv 51, fv 52, fv 53, fv 54, fv 55, fv 56, fv 57, fv 58, fv 59, fv 60, fv 61, fv 62, fv 63, fv 64, fv 65, fv 66, fv 67, fv 68, fv 69, fv 70, fv 71, fv 72, fv 73, fv 74, fv 75, fv 76, fv 77, fv 78, fv 79, fv 80, fv 81, fv 82, fv 83, fv 84, fv 85, fv 86, fv 87, fv 88, fv 89, fv 90, fv 91, fv 92, fv 93, fv 94, fv 95, fv 96, fv 97, fv 98, fv 99, fv 100, fv 101, fv 102, fv 103, fv 104, fv 105, fv 106, fv 107, fv 108, fv 109, fv 110] := hfl.symm.trans (by kernel_rfl); clear hfl
          have c90 := bx_cell HC9.out 0
          have c91 := bx_cell HC9.out 1
          have c92 := bx_cell HC9.out 2
          clear hS0
          go_wp2_with (first
            | (go_at_call 19; (with_reducible refine (DL w9 HB9.out).mono ?_); rintro e w10 ⟨rfl, hb10⟩
               have HC10 := Lib.hid (bn HC9.out hb10)
               have HB10 := Lib.hid (bn HB9.out hb10)
               clear hb10))
          have hS0 : (fun W : World => W.cell? ⟨w.heap.size, 0, none⟩ = some (.int .i64 a0) ∧ W.cell? ⟨w.heap.size, 1, none⟩ = some (.slice A0 n k0) ∧ W.cell? ⟨w.heap.size, 2, none⟩ = some (.slice B0 m q0)) w10.drew := ⟨bx_cell HC10.out 0, bx_cell HC10.out 1, bx_cell HC10.out 2⟩
          refine wp_slots (fun f => Sz f 111 ∧ Slot f 1 (.int .i64 a1) ∧ Slot f 2 (.pointer (some ⟨w.heap.size, 0, none⟩)) ∧ Slot f 5 (.bool true) ∧ Slot f 6 (.int .u8 1) ∧ Slot f 7 (.int .i64 0) ∧ Slot f 8 (.int .u8 0) ∧ Slot f 9 (.int .i64 0) ∧ Slot f 10 (.int .i64 lv) ∧ Slot f 11 (.int .i64 0)) ⟨⟨rfl, rfl⟩, ⟨rfl⟩, ⟨rfl⟩, ⟨rfl⟩, ⟨rfl⟩, ⟨rfl⟩, ⟨rfl⟩, ⟨rfl⟩, ⟨rfl⟩, ⟨rfl⟩⟩ fun a0' hA0 hR => ?_
          obtain ⟨hZ, hs1, hs2, hs5, hs6, hs7, hs8, hs9, hs10, hs11⟩ := hR
          clear hA0
          refine wp_region_T (fun W : World => W.cell? ⟨w.heap.size, 0, none⟩ = some (.int .i64 a0) ∧ W.cell? ⟨w.heap.size, 1, none⟩ = some (.slice A0 n k0) ∧ W.cell? ⟨w.heap.size, 2, none⟩ = some (.slice B0 m q0)) 9 (by kernel_rfl) ?_
          refine WT.h ?_
          (refine wt_take1 0 2 (v := ?_) rfl rfl (by kernel_rfl) (by kernel_rfl) (by kernel_rfl) (by kernel_rfl) (fun _ _ _ h => h) rfl hS0 (by (repeat (first | (refine slot_hit (N := 111) ?_ (by rfl); (repeat (refine sz_put ?_)); assumption; done) | (apply slot_miss; focus rfl))); all_goals assumption) (fun ev hk hv0 w hS => ?_) ?_; rotate_left; focus (obtain ⟨j0, j1, j2⟩ := hS; go_simp; rfl)); (refine wt_move 1 1 rfl rfl (by kernel_rfl) (by kernel_rfl) (by kernel_rfl) (by kernel_rfl) (fun _ _ _ h => h) rfl hS0 (by (repeat (first | (refine slot_hit (N := 111) ?_ (by rfl); (repeat (refine sz_put ?_)); assumption; done) | (apply slot_miss; focus rfl))); all_goals assumption) rfl ?_)
          refine wt_call1 2 55 (by kernel_rfl) rfl rfl rfl (by (repeat (first | (refine slot_hit (N := 111) ?_ (by rfl); (repeat (refine sz_put ?_)); assumption; done) | (apply slot_miss; focus rfl))); all_goals assumption) (f := ?_) (args := ?_) (fun ev hk hkf hv0 => ?_) ?_; rotate_left 2; focus (go_simp; first | rfl | (constructor <;> rfl))
          refine (DN _).mono ?_
          rintro e w11 ⟨rfl, rfl⟩
          refine ⟨_, rfl, fun _ => hS0, ?_⟩
          refine wt_call2 3 54 56 (by kernel_rfl) rfl rfl rfl (by (repeat (first | (refine slot_hit (N := 111) ?_ (by rfl); (repeat (refine sz_put ?_)); assumption; done) | (apply slot_miss; focus rfl))); all_goals assumption) (by (repeat (first | (refine slot_hit (N := 111) ?_ (by rfl); (repeat (refine sz_put ?_)); assumption; done) | (apply slot_miss; focus rfl))); all_goals assumption) (f := ?_) (args := ?_) (fun ev hk hkf hv0 hv1 => ?_) ?_; rotate_left 2; focus (go_simp; first | rfl | (constructor <;> rfl))
          refine (DL2 _ (below_dn HB10.out 1)).mono ?_
          rintro e w12 ⟨rfl, hb12⟩
          have hC12 := bn HC10.out (bn (below_dn (Below.refl _ _) 1) hb12)
          have HC12 := Lib.hid hC12
          have HB12 := Lib.hid (bn HB10.out (bn (below_dn (Below.refl _ _) 1) hb12))
          have hS0 : (fun W : World => W.cell? ⟨w.heap.size, 0, none⟩ = some (.int .i64 a0) ∧ W.cell? ⟨w.heap.size, 1, none⟩ = some (.slice A0 n k0) ∧ W.cell? ⟨w.heap.size, 2, none⟩ = some (.slice B0 m q0)) w12 := ⟨bx_cell hC12 0, bx_cell hC12 1, bx_cell hC12 2⟩
          refine ⟨_, rfl, fun _ => hS0, ?_⟩
          clear hb12 hC12
          (refine wt_move 4 57 rfl rfl (by kernel_rfl) (by kernel_rfl) (by kernel_rfl) (by kernel_rfl) (fun _ _ _ h => h) rfl hS0 (by (repeat (first | (refine slot_hit (N := 111) ?_ (by rfl); (repeat (refine sz_put ?_)); assumption; done) | (apply slot_miss; focus rfl))); all_goals assumption) rfl ?_); (refine wt_take1 5 53 (v := ?_) rfl rfl (by kernel_rfl) (by kernel_rfl) (by kernel_rfl) (by kernel_rfl) (fun _ _ _ h => h) rfl hS0 (by (repeat (first | (refine slot_hit (N := 111) ?_ (by rfl); (repeat (refine sz_put ?_)); assumption; done) | (apply slot_miss; focus rfl))); all_goals assumption) (fun ev hk hv0 w hS => ?_) ?_; rotate_left; focus (obtain ⟨j0, j1, j2⟩ := hS; go_simp; rfl)); (refine wt_take1 6 53 (v := ?_) rfl rfl (by kernel_rfl) (by kernel_rfl) (by kernel_rfl) (by kernel_rfl) (fun _ _ _ h => h) rfl hS0 (by (repeat (first | (refine slot_hit (N := 111) ?_ (by rfl); (repeat (refine sz_put ?_)); assumption; done) | (apply slot_miss; focus rfl))); all_goals assumption) (fun ev hk hv0 w hS => ?_) ?_; rotate_left; focus (obtain ⟨j0, j1, j2⟩ := hS; go_simp; rfl)); (refine wt_assign 7 58 rfl rfl (by kernel_rfl) (by kernel_rfl) (by kernel_rfl) (by kernel_rfl) (fun _ _ _ h => h) rfl hS0 (by (repeat (first | (refine slot_hit (N := 111) ?_ (by rfl); (repeat (refine sz_put ?_)); assumption; done) | (apply slot_miss; focus rfl))); all_goals assumption) rfl ?_); (refine wt_assign 8 59 rfl rfl (by kernel_rfl) (by kernel_rfl) (by kernel_rfl) (by kernel_rfl) (fun _ _ _ h => h) rfl hS0 (by (repeat (first | (refine slot_hit (N := 111) ?_ (by rfl); (repeat (refine sz_put ?_)); assumption; done) | (apply slot_miss; focus rfl))); all_goals assumption) rfl ?_)
          refine wt_known (N := 111) (by kernel_rfl) (by (repeat (refine sz_put ?_)); assumption) [(1, .int .i64 a1), (2, .pointer (some ⟨w.heap.size, 0, none⟩)), (5, .bool true), (6, .int .u8 1), (7, .int .i64 0), (8, .int .u8 0), (9, .int .i64 0), (10, .int .i64 lv), (11, .int .i64 0), (12, .int .i64 lv), (13, .int .i64 0)] ⟨(by (repeat (first | (refine slot_hit (N := 111) ?_ (by rfl); (repeat (refine sz_put ?_)); assumption; done) | (apply slot_miss; focus rfl))); all_goals assumption), (by (repeat (first | (refine slot_hit (N := 111) ?_ (by rfl); (repeat (refine sz_put ?_)); assumption; done) | (apply slot_miss; focus rfl))); all_goals assumption), (by (repeat (first | (refine slot_hit (N := 111) ?_ (by rfl); (repeat (refine sz_put ?_)); assumption; done) | (apply slot_miss; focus rfl))); all_goals assumption), (by (repeat (first | (refine slot_hit (N := 111) ?_ (by rfl); (repeat (refine sz_put ?_)); assumption; done) | (apply slot_miss; focus rfl))); all_goals assumption), (by (repeat (first | (refine slot_hit (N := 111) ?_ (by rfl); (repeat (refine sz_put ?_)); assumption; done) | (apply slot_miss; focus rfl))); all_goals assumption), (by (repeat (first | (refine slot_hit (N := 111) ?_ (by rfl); (repeat (refine sz_put ?_)); assumption; done) | (apply slot_miss; focus rfl))); all_goals assumption), (by (repeat (first | (refine slot_hit (N := 111) ?_ (by rfl); (repeat (refine sz_put ?_)); assumption; done) | (apply slot_miss; focus rfl))); all_goals assumption), (by (repeat (first | (refine slot_hit (N := 111) ?_ (by rfl); (repeat (refine sz_put ?_)); assumption; done) | (apply slot_miss; focus rfl))); all_goals assumption), (by (repeat (first | (refine slot_hit (N := 111) ?_ (by rfl); (repeat (refine sz_put ?_)); assumption; done) | (apply slot_miss; focus rfl))); all_goals assumption), (by (repeat (first | (refine slot_hit (N := 111) ?_ (by rfl); (repeat (refine sz_put ?_)); assumption; done) | (apply slot_miss; focus rfl))); all_goals assumption), (by (repeat (first | (refine slot_hit (N := 111) ?_ (by rfl); (repeat (refine sz_put ?_)); assumption; done) | (apply slot_miss; focus rfl))); all_goals assumption), trivial⟩ fun fv fl hfl => ?_; obtain rfl : fl = [fv 0, (.int .i64 a1 : Value), (.pointer (some ⟨w.heap.size, 0, none⟩) : Value), fv 3, fv 4, (.bool true : Value), (.int .u8 1 : Value), (.int .i64 0 : Value), (.int .u8 0 : Value), (.int .i64 0 : Value), (.int .i64 lv : Value), (.int .i64 0 : Value), (.int .i64 lv : Value), (.int .i64 0 : Value), fv 14, fv 15, fv 16, fv 17, fv 18, fv 19, fv 20, fv 21, fv 22, fv 23, fv 24, fv 25, fv 26, fv 27, fv 28, fv 29, fv 30, fv 31, fv 32, fv 33, fv 34, fv 35, fv 36, fv 37, fv 38, fv 39, fv 40, fv 41, fv 42, fv 43, fv 44, fv 45, fv 46, fv 47, fv 48, fv 49, fv 50, fv 51, fv 52, fv 53, fv 54, fv 55, fv 56, fv 57, fv 58, fv 59, fv 60, fv 61, fv 62, fv 63, fv 64, fv 65, fv 66, fv 67, fv 68, fv 69, fv 70, fv 71, fv 72, fv 73, fv 74, fv 75, fv 76, fv 77, fv 78, fv 79, fv 80, fv 81, fv 82, fv 83, fv 84, fv 85, fv 86, fv 87, fv 88, fv 89, fv 90, fv 91, fv 92, fv 93, fv 94, fv 95, fv 96, fv 97, fv 98, fv 99, fv 100, fv 101, fv 102, fv 103, fv 104, fv 105, fv 106, fv 107, fv 108, fv 109, fv 110] := hfl.symm.trans (by kernel_rfl); clear hfl
          have c120 := bx_cell HC12.out 0
          have c121 := bx_cell HC12.out 1
          have c122 := bx_cell HC12.out 2
          clear hS0
          go_wp2_with (first
            | (go_at_call 29; (with_reducible refine (DH w12 HB12.out).mono ?_); rintro e w13 ⟨rfl, rfl⟩))
          go_ret
          exact ⟨rfl, HB12.out⟩
        · rw [h1] at DV
          rw [h2] at DV2
          rw [h5] at DL DL2
          rw [h4] at DH
          clear h1 h2 h4 h5
          go_enter Try.func7, Try.ntmps7
          go_wp2_with (first
            | (go_at_call 26; (with_reducible refine DA.mono ?_); rintro e w3 ⟨rfl, hb3⟩
               have c0 := bx_cell hb3 0
               have c1 := bx_cell hb3 1
               have c2 := bx_cell hb3 2
               have HC3 := Lib.hid hb3
               have HB3 := Lib.hid (bx_bn hb3)
               clear hb3)
            | (go_at_call 9; (with_reducible refine (DG w3).mono ?_); rintro e w4 ⟨rfl, hb4⟩
               have d0 := bx_cell (bn HC3.out hb4) 0
               have d1 := bx_cell (bn HC3.out hb4) 1
               have d2 := bx_cell (bn HC3.out hb4) 2
               have HC4 := Lib.hid (bn HC3.out hb4)
               have HB4 := Lib.hid (bn HB3.out hb4)
               clear hb4)
            | (go_at_call 24; (with_reducible refine (DC w4 HB4.out).mono ?_); rintro e w5 ⟨rfl, hb5⟩
               have e0 := bx_cell (bn HC4.out hb5) 0
               have e1 := bx_cell (bn HC4.out hb5) 1
               have e2 := bx_cell (bn HC4.out hb5) 2
               have HC5 := Lib.hid (bn HC4.out hb5)
               have HB5 := Lib.hid (bn HB4.out hb5)
               clear hb5)
            | (go_at_call 27; (with_reducible refine (DT _).mono ?_); rintro e w6 ⟨rfl, rfl⟩)
            | (go_at_call 17; (with_reducible refine (DV w5 HB5.out).mono ?_); rintro e w7 ⟨rfl, hb7⟩
               have HC7 := Lib.hid (bn HC5.out hb7)
               have HB7 := Lib.hid (bn HB5.out hb7)
               clear hb7))
          have hS0 : (fun W : World => W.cell? ⟨w.heap.size, 0, none⟩ = some (.int .i64 a0) ∧ W.cell? ⟨w.heap.size, 1, none⟩ = some (.slice A0 n k0) ∧ W.cell? ⟨w.heap.size, 2, none⟩ = some (.slice B0 m q0)) w7.drew := ⟨bx_cell HC7.out 0, bx_cell HC7.out 1, bx_cell HC7.out 2⟩
          refine wp_slots (fun f => Sz f 111 ∧ Slot f 1 (.int .i64 a1) ∧ Slot f 2 (.pointer (some ⟨w.heap.size, 0, none⟩)) ∧ Slot f 5 (.bool true) ∧ Slot f 6 (.int .u8 0) ∧ Slot f 7 (.int .i64 0)) ⟨⟨rfl, rfl⟩, ⟨rfl⟩, ⟨rfl⟩, ⟨rfl⟩, ⟨rfl⟩, ⟨rfl⟩⟩ fun a0' hA0 hR => ?_
          obtain ⟨hZ, hs1, hs2, hs5, hs6, hs7⟩ := hR
          clear hA0
          refine wp_region_T (fun W : World => W.cell? ⟨w.heap.size, 0, none⟩ = some (.int .i64 a0) ∧ W.cell? ⟨w.heap.size, 1, none⟩ = some (.slice A0 n k0) ∧ W.cell? ⟨w.heap.size, 2, none⟩ = some (.slice B0 m q0)) 9 (by kernel_rfl) ?_
          refine WT.h ?_
          (refine wt_take1 0 2 (v := ?_) rfl rfl (by kernel_rfl) (by kernel_rfl) (by kernel_rfl) (by kernel_rfl) (fun _ _ _ h => h) rfl hS0 (by (repeat (first | (refine slot_hit (N := 111) ?_ (by rfl); (repeat (refine sz_put ?_)); assumption; done) | (apply slot_miss; focus rfl))); all_goals assumption) (fun ev hk hv0 w hS => ?_) ?_; rotate_left; focus (obtain ⟨j0, j1, j2⟩ := hS; go_simp; rfl)); (refine wt_move 1 1 rfl rfl (by kernel_rfl) (by kernel_rfl) (by kernel_rfl) (by kernel_rfl) (fun _ _ _ h => h) rfl hS0 (by (repeat (first | (refine slot_hit (N := 111) ?_ (by rfl); (repeat (refine sz_put ?_)); assumption; done) | (apply slot_miss; focus rfl))); all_goals assumption) rfl ?_)
          refine wt_call1 2 42 (by kernel_rfl) rfl rfl rfl (by (repeat (first | (refine slot_hit (N := 111) ?_ (by rfl); (repeat (refine sz_put ?_)); assumption; done) | (apply slot_miss; focus rfl))); all_goals assumption) (f := ?_) (args := ?_) (fun ev hk hkf hv0 => ?_) ?_; rotate_left 2; focus (go_simp; first | rfl | (constructor <;> rfl))
          refine (DN _).mono ?_
          rintro e w8 ⟨rfl, rfl⟩
          refine ⟨_, rfl, fun _ => hS0, ?_⟩
          refine wt_call2 3 41 43 (by kernel_rfl) rfl rfl rfl (by (repeat (first | (refine slot_hit (N := 111) ?_ (by rfl); (repeat (refine sz_put ?_)); assumption; done) | (apply slot_miss; focus rfl))); all_goals assumption) (by (repeat (first | (refine slot_hit (N := 111) ?_ (by rfl); (repeat (refine sz_put ?_)); assumption; done) | (apply slot_miss; focus rfl))); all_goals assumption) (f := ?_) (args := ?_) (fun ev hk hkf hv0 hv1 => ?_) ?_; rotate_left 2; focus (go_simp; first | rfl | (constructor <;> rfl))
          refine (DV2 _ (below_dn HB7.out 1)).mono ?_
          rintro e w9 ⟨rfl, hb9⟩
          have hC9 := bn HC7.out (bn (below_dn (Below.refl _ _) 1) hb9)
          have HC9 := Lib.hid hC9
          have HB9 := Lib.hid (bn HB7.out (bn (below_dn (Below.refl _ _) 1) hb9))
          have hS0 : (fun W : World => W.cell? ⟨w.heap.size, 0, none⟩ = some (.int .i64 a0) ∧ W.cell? ⟨w.heap.size, 1, none⟩ = some (.slice A0 n k0) ∧ W.cell? ⟨w.heap.size, 2, none⟩ = some (.slice B0 m q0)) w9 := ⟨bx_cell hC9 0, bx_cell hC9 1, bx_cell hC9 2⟩
          refine ⟨_, rfl, fun _ => hS0, ?_⟩
          clear hb9 hC9
          (refine wt_move 4 44 rfl rfl (by kernel_rfl) (by kernel_rfl) (by kernel_rfl) (by kernel_rfl) (fun _ _ _ h => h) rfl hS0 (by (repeat (first | (refine slot_hit (N := 111) ?_ (by rfl); (repeat (refine sz_put ?_)); assumption; done) | (apply slot_miss; focus rfl))); all_goals assumption) rfl ?_); (refine wt_take1 5 40 (v := ?_) rfl rfl (by kernel_rfl) (by kernel_rfl) (by kernel_rfl) (by kernel_rfl) (fun _ _ _ h => h) rfl hS0 (by (repeat (first | (refine slot_hit (N := 111) ?_ (by rfl); (repeat (refine sz_put ?_)); assumption; done) | (apply slot_miss; focus rfl))); all_goals assumption) (fun ev hk hv0 w hS => ?_) ?_; rotate_left; focus (obtain ⟨j0, j1, j2⟩ := hS; go_simp; rfl)); (refine wt_take1 6 40 (v := ?_) rfl rfl (by kernel_rfl) (by kernel_rfl) (by kernel_rfl) (by kernel_rfl) (fun _ _ _ h => h) rfl hS0 (by (repeat (first | (refine slot_hit (N := 111) ?_ (by rfl); (repeat (refine sz_put ?_)); assumption; done) | (apply slot_miss; focus rfl))); all_goals assumption) (fun ev hk hv0 w hS => ?_) ?_; rotate_left; focus (obtain ⟨j0, j1, j2⟩ := hS; go_simp; rfl)); (refine wt_assign 7 45 rfl rfl (by kernel_rfl) (by kernel_rfl) (by kernel_rfl) (by kernel_rfl) (fun _ _ _ h => h) rfl hS0 (by (repeat (first | (refine slot_hit (N := 111) ?_ (by rfl); (repeat (refine sz_put ?_)); assumption; done) | (apply slot_miss; focus rfl))); all_goals assumption) rfl ?_); (refine wt_assign 8 46 rfl rfl (by kernel_rfl) (by kernel_rfl) (by kernel_rfl) (by kernel_rfl) (fun _ _ _ h => h) rfl hS0 (by (repeat (first | (refine slot_hit (N := 111) ?_ (by rfl); (repeat (refine sz_put ?_)); assumption; done) | (apply slot_miss; focus rfl))); all_goals assumption) rfl ?_)
          refine wt_known (N := 111) (by kernel_rfl) (by (repeat (refine sz_put ?_)); assumption) [(1, .int .i64 a1), (2, .pointer (some ⟨w.heap.size, 0, none⟩)), (5, .bool true), (6, .int .u8 0), (7, .int .i64 0), (8, .int .u8 1), (9, .int .i64 0)] ⟨(by (repeat (first | (refine slot_hit (N := 111) ?_ (by rfl); (repeat (refine sz_put ?_)); assumption; done) | (apply slot_miss; focus rfl))); all_goals assumption), (by (repeat (first | (refine slot_hit (N := 111) ?_ (by rfl); (repeat (refine sz_put ?_)); assumption; done) | (apply slot_miss; focus rfl))); all_goals assumption), (by (repeat (first | (refine slot_hit (N := 111) ?_ (by rfl); (repeat (refine sz_put ?_)); assumption; done) | (apply slot_miss; focus rfl))); all_goals assumption), (by (repeat (first | (refine slot_hit (N := 111) ?_ (by rfl); (repeat (refine sz_put ?_)); assumption; done) | (apply slot_miss; focus rfl))); all_goals assumption), (by (repeat (first | (refine slot_hit (N := 111) ?_ (by rfl); (repeat (refine sz_put ?_)); assumption; done) | (apply slot_miss; focus rfl))); all_goals assumption), (by (repeat (first | (refine slot_hit (N := 111) ?_ (by rfl); (repeat (refine sz_put ?_)); assumption; done) | (apply slot_miss; focus rfl))); all_goals assumption), (by (repeat (first | (refine slot_hit (N := 111) ?_ (by rfl); (repeat (refine sz_put ?_)); assumption; done) | (apply slot_miss; focus rfl))); all_goals assumption), trivial⟩ fun fv fl hfl => ?_; obtain rfl : fl = [fv 0, (.int .i64 a1 : Value), (.pointer (some ⟨w.heap.size, 0, none⟩) : Value), fv 3, fv 4, (.bool true : Value), (.int .u8 0 : Value), (.int .i64 0 : Value), (.int .u8 1 : Value), (.int .i64 0 : Value), fv 10, fv 11, fv 12, fv 13, fv 14, fv 15, fv 16, fv 17, fv 18, fv 19, fv 20, fv 21, fv 22, fv 23, fv 24, fv 25, fv 26, fv 27, fv 28, fv 29, fv 30, fv 31, fv 32, fv 33, fv 34, fv 35, fv 36, fv 37, fv 38, fv 39, fv 40, fv 41, fv 42, fv 43, fv 44, fv 45, fv 46, fv 47, fv 48, fv 49, fv 50, fv 51, fv 52, fv 53, fv 54, fv 55, fv 56, fv 57, fv 58, fv 59, fv 60, fv 61, fv 62, fv 63, fv 64, fv 65, fv 66, fv 67, fv 68, fv 69, fv 70, fv 71, fv 72, fv 73, fv 74, fv 75, fv 76, fv 77, fv 78, fv 79, fv 80, fv 81, fv 82, fv 83, fv 84, fv 85, fv 86, fv 87, fv 88, fv 89, fv 90, fv 91, fv 92, fv 93, fv 94, fv 95, fv 96, fv 97, fv 98, fv 99, fv 100, fv 101, fv 102, fv 103, fv 104, fv 105, fv 106, fv 107, fv 108, fv 109, fv 110] := hfl.symm.trans (by kernel_rfl); clear hfl
          have c90 := bx_cell HC9.out 0
          have c91 := bx_cell HC9.out 1
          have c92 := bx_cell HC9.out 2
          clear hS0
          go_wp2_with (first
            | (go_at_call 19; (with_reducible refine (DL w9 HB9.out).mono ?_); rintro e w10 ⟨rfl, hb10⟩
               have HC10 := Lib.hid (bn HC9.out hb10)
               have HB10 := Lib.hid (bn HB9.out hb10)
               clear hb10))
          have hS0 : (fun W : World => W.cell? ⟨w.heap.size, 0, none⟩ = some (.int .i64 a0) ∧ W.cell? ⟨w.heap.size, 1, none⟩ = some (.slice A0 n k0) ∧ W.cell? ⟨w.heap.size, 2, none⟩ = some (.slice B0 m q0)) w10.drew := ⟨bx_cell HC10.out 0, bx_cell HC10.out 1, bx_cell HC10.out 2⟩
          refine wp_slots (fun f => Sz f 111 ∧ Slot f 1 (.int .i64 a1) ∧ Slot f 2 (.pointer (some ⟨w.heap.size, 0, none⟩)) ∧ Slot f 5 (.bool true) ∧ Slot f 6 (.int .u8 0) ∧ Slot f 7 (.int .i64 0) ∧ Slot f 8 (.int .u8 1) ∧ Slot f 9 (.int .i64 0) ∧ Slot f 10 (.int .i64 lv) ∧ Slot f 11 (.int .i64 0)) ⟨⟨rfl, rfl⟩, ⟨rfl⟩, ⟨rfl⟩, ⟨rfl⟩, ⟨rfl⟩, ⟨rfl⟩, ⟨rfl⟩, ⟨rfl⟩, ⟨rfl⟩, ⟨rfl⟩⟩ fun a0' hA0 hR => ?_
          obtain ⟨hZ, hs1, hs2, hs5, hs6, hs7, hs8, hs9, hs10, hs11⟩ := hR
          clear hA0
          refine wp_region_T (fun W : World => W.cell? ⟨w.heap.size, 0, none⟩ = some (.int .i64 a0) ∧ W.cell? ⟨w.heap.size, 1, none⟩ = some (.slice A0 n k0) ∧ W.cell? ⟨w.heap.size, 2, none⟩ = some (.slice B0 m q0)) 9 (by kernel_rfl) ?_
          refine WT.h ?_
          (refine wt_take1 0 2 (v := ?_) rfl rfl (by kernel_rfl) (by kernel_rfl) (by kernel_rfl) (by kernel_rfl) (fun _ _ _ h => h) rfl hS0 (by (repeat (first | (refine slot_hit (N := 111) ?_ (by rfl); (repeat (refine sz_put ?_)); assumption; done) | (apply slot_miss; focus rfl))); all_goals assumption) (fun ev hk hv0 w hS => ?_) ?_; rotate_left; focus (obtain ⟨j0, j1, j2⟩ := hS; go_simp; rfl)); (refine wt_move 1 1 rfl rfl (by kernel_rfl) (by kernel_rfl) (by kernel_rfl) (by kernel_rfl) (fun _ _ _ h => h) rfl hS0 (by (repeat (first | (refine slot_hit (N := 111) ?_ (by rfl); (repeat (refine sz_put ?_)); assumption; done) | (apply slot_miss; focus rfl))); all_goals assumption) rfl ?_)
          refine wt_call1 2 55 (by kernel_rfl) rfl rfl rfl (by (repeat (first | (refine slot_hit (N := 111) ?_ (by rfl); (repeat (refine sz_put ?_)); assumption; done) | (apply slot_miss; focus rfl))); all_goals assumption) (f := ?_) (args := ?_) (fun ev hk hkf hv0 => ?_) ?_; rotate_left 2; focus (go_simp; first | rfl | (constructor <;> rfl))
          refine (DN _).mono ?_
          rintro e w11 ⟨rfl, rfl⟩
          refine ⟨_, rfl, fun _ => hS0, ?_⟩
          refine wt_call2 3 54 56 (by kernel_rfl) rfl rfl rfl (by (repeat (first | (refine slot_hit (N := 111) ?_ (by rfl); (repeat (refine sz_put ?_)); assumption; done) | (apply slot_miss; focus rfl))); all_goals assumption) (by (repeat (first | (refine slot_hit (N := 111) ?_ (by rfl); (repeat (refine sz_put ?_)); assumption; done) | (apply slot_miss; focus rfl))); all_goals assumption) (f := ?_) (args := ?_) (fun ev hk hkf hv0 hv1 => ?_) ?_; rotate_left 2; focus (go_simp; first | rfl | (constructor <;> rfl))
          refine (DL2 _ (below_dn HB10.out 1)).mono ?_
          rintro e w12 ⟨rfl, hb12⟩
          have hC12 := bn HC10.out (bn (below_dn (Below.refl _ _) 1) hb12)
          have HC12 := Lib.hid hC12
          have HB12 := Lib.hid (bn HB10.out (bn (below_dn (Below.refl _ _) 1) hb12))
          have hS0 : (fun W : World => W.cell? ⟨w.heap.size, 0, none⟩ = some (.int .i64 a0) ∧ W.cell? ⟨w.heap.size, 1, none⟩ = some (.slice A0 n k0) ∧ W.cell? ⟨w.heap.size, 2, none⟩ = some (.slice B0 m q0)) w12 := ⟨bx_cell hC12 0, bx_cell hC12 1, bx_cell hC12 2⟩
          refine ⟨_, rfl, fun _ => hS0, ?_⟩
          clear hb12 hC12
          (refine wt_move 4 57 rfl rfl (by kernel_rfl) (by kernel_rfl) (by kernel_rfl) (by kernel_rfl) (fun _ _ _ h => h) rfl hS0 (by (repeat (first | (refine slot_hit (N := 111) ?_ (by rfl); (repeat (refine sz_put ?_)); assumption; done) | (apply slot_miss; focus rfl))); all_goals assumption) rfl ?_); (refine wt_take1 5 53 (v := ?_) rfl rfl (by kernel_rfl) (by kernel_rfl) (by kernel_rfl) (by kernel_rfl) (fun _ _ _ h => h) rfl hS0 (by (repeat (first | (refine slot_hit (N := 111) ?_ (by rfl); (repeat (refine sz_put ?_)); assumption; done) | (apply slot_miss; focus rfl))); all_goals assumption) (fun ev hk hv0 w hS => ?_) ?_; rotate_left; focus (obtain ⟨j0, j1, j2⟩ := hS; go_simp; rfl)); (refine wt_take1 6 53 (v := ?_) rfl rfl (by kernel_rfl) (by kernel_rfl) (by kernel_rfl) (by kernel_rfl) (fun _ _ _ h => h) rfl hS0 (by (repeat (first | (refine slot_hit (N := 111) ?_ (by rfl); (repeat (refine sz_put ?_)); assumption; done) | (apply slot_miss; focus rfl))); all_goals assumption) (fun ev hk hv0 w hS => ?_) ?_; rotate_left; focus (obtain ⟨j0, j1, j2⟩ := hS; go_simp; rfl)); (refine wt_assign 7 58 rfl rfl (by kernel_rfl) (by kernel_rfl) (by kernel_rfl) (by kernel_rfl) (fun _ _ _ h => h) rfl hS0 (by (repeat (first | (refine slot_hit (N := 111) ?_ (by rfl); (repeat (refine sz_put ?_)); assumption; done) | (apply slot_miss; focus rfl))); all_goals assumption) rfl ?_); (refine wt_assign 8 59 rfl rfl (by kernel_rfl) (by kernel_rfl) (by kernel_rfl) (by kernel_rfl) (fun _ _ _ h => h) rfl hS0 (by (repeat (first | (refine slot_hit (N := 111) ?_ (by rfl); (repeat (refine sz_put ?_)); assumption; done) | (apply slot_miss; focus rfl))); all_goals assumption) rfl ?_)
          refine wt_known (N := 111) (by kernel_rfl) (by (repeat (refine sz_put ?_)); assumption) [(1, .int .i64 a1), (2, .pointer (some ⟨w.heap.size, 0, none⟩)), (5, .bool true), (6, .int .u8 0), (7, .int .i64 0), (8, .int .u8 1), (9, .int .i64 0), (10, .int .i64 lv), (11, .int .i64 0), (12, .int .i64 lv), (13, .int .i64 0)] ⟨(by (repeat (first | (refine slot_hit (N := 111) ?_ (by rfl); (repeat (refine sz_put ?_)); assumption; done) | (apply slot_miss; focus rfl))); all_goals assumption), (by (repeat (first | (refine slot_hit (N := 111) ?_ (by rfl); (repeat (refine sz_put ?_)); assumption; done) | (apply slot_miss; focus rfl))); all_goals assumption), (by (repeat (first | (refine slot_hit (N := 111) ?_ (by rfl); (repeat (refine sz_put ?_)); assumption; done) | (apply slot_miss; focus rfl))); all_goals assumption), (by (repeat (first | (refine slot_hit (N := 111) ?_ (by rfl); (repeat (refine sz_put ?_)); assumption; done) | (apply slot_miss; focus rfl))); all_goals assumption), (by (repeat (first | (refine slot_hit (N := 111) ?_ (by rfl); (repeat (refine sz_put ?_)); assumption; done) | (apply slot_miss; focus rfl))); all_goals assumption), (by (repeat (first | (refine slot_hit (N := 111) ?_ (by rfl); (repeat (refine sz_put ?_)); assumption; done) | (apply slot_miss; focus rfl))); all_goals assumption), (by (repeat (first | (refine slot_hit (N := 111) ?_ (by rfl); (repeat (refine sz_put ?_)); assumption; done) | (apply slot_miss; focus rfl))); all_goals assumption), (by (repeat (first | (refine slot_hit (N := 111) ?_ (by rfl); (repeat (refine sz_put ?_)); assumption; done) | (apply slot_miss; focus rfl))); all_goals assumption), (by (repeat (first | (refine slot_hit (N := 111) ?_ (by rfl); (repeat (refine sz_put ?_)); assumption; done) | (apply slot_miss; focus rfl))); all_goals assumption), (by (repeat (first | (refine slot_hit (N := 111) ?_ (by rfl); (repeat (refine sz_put ?_)); assumption; done) | (apply slot_miss; focus rfl))); all_goals assumption), (by (repeat (first | (refine slot_hit (N := 111) ?_ (by rfl); (repeat (refine sz_put ?_)); assumption; done) | (apply slot_miss; focus rfl))); all_goals assumption), trivial⟩ fun fv fl hfl => ?_; obtain rfl : fl = [fv 0, (.int .i64 a1 : Value), (.pointer (some ⟨w.heap.size, 0, none⟩) : Value), fv 3, fv 4, (.bool true : Value), (.int .u8 0 : Value), (.int .i64 0 : Value), (.int .u8 1 : Value), (.int .i64 0 : Value), (.int .i64 lv : Value), (.int .i64 0 : Value), (.int .i64 lv : Value), (.int .i64 0 : Value), fv 14, fv 15, fv 16, fv 17, fv 18, fv 19, fv 20, fv 21, fv 22, fv 23, fv 24, fv 25, fv 26, fv 27, fv 28, fv 29, fv 30, fv 31, fv 32, fv 33, fv 34, fv 35, fv 36, fv 37, fv 38, fv 39, fv 40, fv 41, fv 42, fv 43, fv 44, fv 45, fv 46, fv 47, fv 48, fv 49, fv 50, fv 51, fv 52, fv 53, fv 54, fv 55, fv 56, fv 57, fv 58, fv 59, fv 60, fv 61, fv 62, fv 63, fv 64, fv 65, fv 66, fv 67, fv 68, fv 69, fv 70, fv 71, fv 72, fv 73, fv 74, fv 75, fv 76, fv 77, fv 78, fv 79, fv 80, fv 81, fv 82, fv 83, fv 84, fv 85, fv 86, fv 87, fv 88, fv 89, fv 90, fv 91, fv 92, fv 93, fv 94, fv 95, fv 96, fv 97, fv 98, fv 99, fv 100, fv 101, fv 102, fv 103, fv 104, fv 105, fv 106, fv 107, fv 108, fv 109, fv 110] := hfl.symm.trans (by kernel_rfl); clear hfl
          have c120 := bx_cell HC12.out 0
          have c121 := bx_cell HC12.out 1
          have c122 := bx_cell HC12.out 2
          clear hS0
          go_wp2_with (first
            | (go_at_call 29; (with_reducible refine (DH w12 HB12.out).mono ?_); rintro e w13 ⟨rfl, rfl⟩))
          go_ret
          exact ⟨rfl, HB12.out⟩
        · rw [h1] at DV
          rw [h2] at DV2
          rw [h5] at DL DL2
          clear h1 h2 DH h5
          go_enter Try.func7, Try.ntmps7
          go_wp2_with (first
            | (go_at_call 26; (with_reducible refine DA.mono ?_); rintro e w3 ⟨rfl, hb3⟩
               have c0 := bx_cell hb3 0
               have c1 := bx_cell hb3 1
               have c2 := bx_cell hb3 2
               have HC3 := Lib.hid hb3
               have HB3 := Lib.hid (bx_bn hb3)
               clear hb3)
            | (go_at_call 9; (with_reducible refine (DG w3).mono ?_); rintro e w4 ⟨rfl, hb4⟩
               have d0 := bx_cell (bn HC3.out hb4) 0
               have d1 := bx_cell (bn HC3.out hb4) 1
               have d2 := bx_cell (bn HC3.out hb4) 2
               have HC4 := Lib.hid (bn HC3.out hb4)
               have HB4 := Lib.hid (bn HB3.out hb4)
               clear hb4)
            | (go_at_call 24; (with_reducible refine (DC w4 HB4.out).mono ?_); rintro e w5 ⟨rfl, hb5⟩
               have e0 := bx_cell (bn HC4.out hb5) 0
               have e1 := bx_cell (bn HC4.out hb5) 1
               have e2 := bx_cell (bn HC4.out hb5) 2
               have HC5 := Lib.hid (bn HC4.out hb5)
               have HB5 := Lib.hid (bn HB4.out hb5)
               clear hb5)
            | (go_at_call 27; (with_reducible refine (DT _).mono ?_); rintro e w6 ⟨rfl, rfl⟩)
            | (go_at_call 17; (with_reducible refine (DV w5 HB5.out).mono ?_); rintro e w7 ⟨rfl, hb7⟩
               have HC7 := Lib.hid (bn HC5.out hb7)
               have HB7 := Lib.hid (bn HB5.out hb7)
               clear hb7))
          have hS0 : (fun W : World => W.cell? ⟨w.heap.size, 0, none⟩ = some (.int .i64 a0) ∧ W.cell? ⟨w.heap.size, 1, none⟩ = some (.slice A0 n k0) ∧ W.cell? ⟨w.heap.size, 2, none⟩ = some (.slice B0 m q0)) w7.drew := ⟨bx_cell HC7.out 0, bx_cell HC7.out 1, bx_cell HC7.out 2⟩
          refine wp_slots (fun f => Sz f 111 ∧ Slot f 1 (.int .i64 a1) ∧ Slot f 2 (.pointer (some ⟨w.heap.size, 0, none⟩)) ∧ Slot f 5 (.bool true) ∧ Slot f 6 (.int .u8 2) ∧ Slot f 7 (.int .i64 0)) ⟨⟨rfl, rfl⟩, ⟨rfl⟩, ⟨rfl⟩, ⟨rfl⟩, ⟨rfl⟩, ⟨rfl⟩⟩ fun a0' hA0 hR => ?_
          obtain ⟨hZ, hs1, hs2, hs5, hs6, hs7⟩ := hR
          clear hA0
          refine wp_region_T (fun W : World => W.cell? ⟨w.heap.size, 0, none⟩ = some (.int .i64 a0) ∧ W.cell? ⟨w.heap.size, 1, none⟩ = some (.slice A0 n k0) ∧ W.cell? ⟨w.heap.size, 2, none⟩ = some (.slice B0 m q0)) 9 (by kernel_rfl) ?_
          refine WT.h ?_
          (refine wt_take1 0 2 (v := ?_) rfl rfl (by kernel_rfl) (by kernel_rfl) (by kernel_rfl) (by kernel_rfl) (fun _ _ _ h => h) rfl hS0 (by (repeat (first | (refine slot_hit (N := 111) ?_ (by rfl); (repeat (refine sz_put ?_)); assumption; done) | (apply slot_miss; focus rfl))); all_goals assumption) (fun ev hk hv0 w hS => ?_) ?_; rotate_left; focus (obtain ⟨j0, j1, j2⟩ := hS; go_simp; rfl)); (refine wt_move 1 1 rfl rfl (by kernel_rfl) (by kernel_rfl) (by kernel_rfl) (by kernel_rfl) (fun _ _ _ h => h) rfl hS0 (by (repeat (first | (refine slot_hit (N := 111) ?_ (by rfl); (repeat (refine sz_put ?_)); assumption; done) | (apply slot_miss; focus rfl))); all_goals assumption) rfl ?_)
          refine wt_call1 2 42 (by kernel_rfl) rfl rfl rfl (by (repeat (first | (refine slot_hit (N := 111) ?_ (by rfl); (repeat (refine sz_put ?_)); assumption; done) | (apply slot_miss; focus rfl))); all_goals assumption) (f := ?_) (args := ?_) (fun ev hk hkf hv0 => ?_) ?_; rotate_left 2; focus (go_simp; first | rfl | (constructor <;> rfl))
          refine (DN _).mono ?_
          rintro e w8 ⟨rfl, rfl⟩
          refine ⟨_, rfl, fun _ => hS0, ?_⟩
          refine wt_call2 3 41 43 (by kernel_rfl) rfl rfl rfl (by (repeat (first | (refine slot_hit (N := 111) ?_ (by rfl); (repeat (refine sz_put ?_)); assumption; done) | (apply slot_miss; focus rfl))); all_goals assumption) (by (repeat (first | (refine slot_hit (N := 111) ?_ (by rfl); (repeat (refine sz_put ?_)); assumption; done) | (apply slot_miss; focus rfl))); all_goals assumption) (f := ?_) (args := ?_) (fun ev hk hkf hv0 hv1 => ?_) ?_; rotate_left 2; focus (go_simp; first | rfl | (constructor <;> rfl))
          refine (DV2 _ (below_dn HB7.out 1)).mono ?_
          rintro e w9 ⟨rfl, hb9⟩
          have hC9 := bn HC7.out (bn (below_dn (Below.refl _ _) 1) hb9)
          have HC9 := Lib.hid hC9
          have HB9 := Lib.hid (bn HB7.out (bn (below_dn (Below.refl _ _) 1) hb9))
          have hS0 : (fun W : World => W.cell? ⟨w.heap.size, 0, none⟩ = some (.int .i64 a0) ∧ W.cell? ⟨w.heap.size, 1, none⟩ = some (.slice A0 n k0) ∧ W.cell? ⟨w.heap.size, 2, none⟩ = some (.slice B0 m q0)) w9 := ⟨bx_cell hC9 0, bx_cell hC9 1, bx_cell hC9 2⟩
          refine ⟨_, rfl, fun _ => hS0, ?_⟩
          clear hb9 hC9
          (refine wt_move 4 44 rfl rfl (by kernel_rfl) (by kernel_rfl) (by kernel_rfl) (by kernel_rfl) (fun _ _ _ h => h) rfl hS0 (by (repeat (first | (refine slot_hit (N := 111) ?_ (by rfl); (repeat (refine sz_put ?_)); assumption; done) | (apply slot_miss; focus rfl))); all_goals assumption) rfl ?_); (refine wt_take1 5 40 (v := ?_) rfl rfl (by kernel_rfl) (by kernel_rfl) (by kernel_rfl) (by kernel_rfl) (fun _ _ _ h => h) rfl hS0 (by (repeat (first | (refine slot_hit (N := 111) ?_ (by rfl); (repeat (refine sz_put ?_)); assumption; done) | (apply slot_miss; focus rfl))); all_goals assumption) (fun ev hk hv0 w hS => ?_) ?_; rotate_left; focus (obtain ⟨j0, j1, j2⟩ := hS; go_simp; rfl)); (refine wt_take1 6 40 (v := ?_) rfl rfl (by kernel_rfl) (by kernel_rfl) (by kernel_rfl) (by kernel_rfl) (fun _ _ _ h => h) rfl hS0 (by (repeat (first | (refine slot_hit (N := 111) ?_ (by rfl); (repeat (refine sz_put ?_)); assumption; done) | (apply slot_miss; focus rfl))); all_goals assumption) (fun ev hk hv0 w hS => ?_) ?_; rotate_left; focus (obtain ⟨j0, j1, j2⟩ := hS; go_simp; rfl)); (refine wt_assign 7 45 rfl rfl (by kernel_rfl) (by kernel_rfl) (by kernel_rfl) (by kernel_rfl) (fun _ _ _ h => h) rfl hS0 (by (repeat (first | (refine slot_hit (N := 111) ?_ (by rfl); (repeat (refine sz_put ?_)); assumption; done) | (apply slot_miss; focus rfl))); all_goals assumption) rfl ?_); (refine wt_assign 8 46 rfl rfl (by kernel_rfl) (by kernel_rfl) (by kernel_rfl) (by kernel_rfl) (fun _ _ _ h => h) rfl hS0 (by (repeat (first | (refine slot_hit (N := 111) ?_ (by rfl); (repeat (refine sz_put ?_)); assumption; done) | (apply slot_miss; focus rfl))); all_goals assumption) rfl ?_)
          refine wt_known (N := 111) (by kernel_rfl) (by (repeat (refine sz_put ?_)); assumption) [(1, .int .i64 a1), (2, .pointer (some ⟨w.heap.size, 0, none⟩)), (5, .bool true), (6, .int .u8 2), (7, .int .i64 0), (8, .int .u8 2), (9, .int .i64 0)] ⟨(by (repeat (first | (refine slot_hit (N := 111) ?_ (by rfl); (repeat (refine sz_put ?_)); assumption; done) | (apply slot_miss; focus rfl))); all_goals assumption), (by (repeat (first | (refine slot_hit (N := 111) ?_ (by rfl); (repeat (refine sz_put ?_)); assumption; done) | (apply slot_miss; focus rfl))); all_goals assumption), (by (repeat (first | (refine slot_hit (N := 111) ?_ (by rfl); (repeat (refine sz_put ?_)); assumption; done) | (apply slot_miss; focus rfl))); all_goals assumption), (by (repeat (first | (refine slot_hit (N := 111) ?_ (by rfl); (repeat (refine sz_put ?_)); assumption; done) | (apply slot_miss; focus rfl))); all_goals assumption), (by (repeat (first | (refine slot_hit (N := 111) ?_ (by rfl); (repeat (refine sz_put ?_)); assumption; done) | (apply slot_miss; focus rfl))); all_goals assumption), (by (repeat (first | (refine slot_hit (N := 111) ?_ (by rfl); (repeat (refine sz_put ?_)); assumption; done) | (apply slot_miss; focus rfl))); all_goals assumption), (by (repeat (first | (refine slot_hit (N := 111) ?_ (by rfl); (repeat (refine sz_put ?_)); assumption; done) | (apply slot_miss; focus rfl))); all_goals assumption), trivial⟩ fun fv fl hfl => ?_; obtain rfl : fl = [fv 0, (.int .i64 a1 : Value), (.pointer (some ⟨w.heap.size, 0, none⟩) : Value), fv 3, fv 4, (.bool true : Value), (.int .u8 2 : Value), (.int .i64 0 : Value), (.int .u8 2 : Value), (.int .i64 0 : Value), fv 10, fv 11, fv 12, fv 13, fv 14, fv 15, fv 16, fv 17, fv 18, fv 19, fv 20, fv 21, fv 22, fv 23, fv 24, fv 25, fv 26, fv 27, fv 28, fv 29, fv 30, fv 31, fv 32, fv 33, fv 34, fv 35, fv 36, fv 37, fv 38, fv 39, fv 40, fv 41, fv 42, fv 43, fv 44, fv 45, fv 46, fv 47, fv 48, fv 49, fv 50, fv 51, fv 52, fv 53, fv 54, fv 55, fv 56, fv 57, fv 58, fv 59, fv 60, fv 61, fv 62, fv 63, fv 64, fv 65, fv 66, fv 67, fv 68, fv 69, fv 70, fv 71, fv 72, fv 73, fv 74, fv 75, fv 76, fv 77, fv 78, fv 79, fv 80, fv 81, fv 82, fv 83, fv 84, fv 85, fv 86, fv 87, fv 88, fv 89, fv 90, fv 91, fv 92, fv 93, fv 94, fv 95, fv 96, fv 97, fv 98, fv 99, fv 100, fv 101, fv 102, fv 103, fv 104, fv 105, fv 106, fv 107, fv 108, fv 109, fv 110] := hfl.symm.trans (by kernel_rfl); clear hfl
          have c90 := bx_cell HC9.out 0
          have c91 := bx_cell HC9.out 1
          have c92 := bx_cell HC9.out 2
          clear hS0
          go_wp2_with (first
            | (go_at_call 19; (with_reducible refine (DL w9 HB9.out).mono ?_); rintro e w10 ⟨rfl, hb10⟩
               have HC10 := Lib.hid (bn HC9.out hb10)
               have HB10 := Lib.hid (bn HB9.out hb10)
               clear hb10))
          have hS0 : (fun W : World => W.cell? ⟨w.heap.size, 0, none⟩ = some (.int .i64 a0) ∧ W.cell? ⟨w.heap.size, 1, none⟩ = some (.slice A0 n k0) ∧ W.cell? ⟨w.heap.size, 2, none⟩ = some (.slice B0 m q0)) w10.drew := ⟨bx_cell HC10.out 0, bx_cell HC10.out 1, bx_cell HC10.out 2⟩
          refine wp_slots (fun f => Sz f 111 ∧ Slot f 1 (.int .i64 a1) ∧ Slot f 2 (.pointer (some ⟨w.heap.size, 0, none⟩)) ∧ Slot f 5 (.bool true) ∧ Slot f 6 (.int .u8 2) ∧ Slot f 7 (.int .i64 0) ∧ Slot f 8 (.int .u8 2) ∧ Slot f 9 (.int .i64 0) ∧ Slot f 10 (.int .i64 lv) ∧ Slot f 11 (.int .i64 6)) ⟨⟨rfl, rfl⟩, ⟨rfl⟩, ⟨rfl⟩, ⟨rfl⟩, ⟨rfl⟩, ⟨rfl⟩, ⟨rfl⟩, ⟨rfl⟩, ⟨rfl⟩, ⟨rfl⟩⟩ fun a0' hA0 hR => ?_
          obtain ⟨hZ, hs1, hs2, hs5, hs6, hs7, hs8, hs9, hs10, hs11⟩ := hR
          clear hA0
          refine wp_region_T (fun W : World => W.cell? ⟨w.heap.size, 0, none⟩ = some (.int .i64 a0) ∧ W.cell? ⟨w.heap.size, 1, none⟩ = some (.slice A0 n k0) ∧ W.cell? ⟨w.heap.size, 2, none⟩ = some (.slice B0 m q0)) 9 (by kernel_rfl) ?_
          refine WT.h ?_
          (refine wt_take1 0 2 (v := ?_) rfl rfl (by kernel_rfl) (by kernel_rfl) (by kernel_rfl) (by kernel_rfl) (fun _ _ _ h => h) rfl hS0 (by (repeat (first | (refine slot_hit (N := 111) ?_ (by rfl); (repeat (refine sz_put ?_)); assumption; done) | (apply slot_miss; focus rfl))); all_goals assumption) (fun ev hk hv0 w hS => ?_) ?_; rotate_left; focus (obtain ⟨j0, j1, j2⟩ := hS; go_simp; rfl)); (refine wt_move 1 1 rfl rfl (by kernel_rfl) (by kernel_rfl) (by kernel_rfl) (by kernel_rfl) (fun _ _ _ h => h) rfl hS0 (by (repeat (first | (refine slot_hit (N := 111) ?_ (by rfl); (repeat (refine sz_put ?_)); assumption; done) | (apply slot_miss; focus rfl))); all_goals assumption) rfl ?_)
          refine wt_call1 2 55 (by kernel_rfl) rfl rfl rfl (by (repeat (first | (refine slot_hit (N := 111) ?_ (by rfl); (repeat (refine sz_put ?_)); assumption; done) | (apply slot_miss; focus rfl))); all_goals assumption) (f := ?_) (args := ?_) (fun ev hk hkf hv0 => ?_) ?_; rotate_left 2; focus (go_simp; first | rfl | (constructor <;> rfl))
          refine (DN _).mono ?_
          rintro e w11 ⟨rfl, rfl⟩
          refine ⟨_, rfl, fun _ => hS0, ?_⟩
          refine wt_call2 3 54 56 (by kernel_rfl) rfl rfl rfl (by (repeat (first | (refine slot_hit (N := 111) ?_ (by rfl); (repeat (refine sz_put ?_)); assumption; done) | (apply slot_miss; focus rfl))); all_goals assumption) (by (repeat (first | (refine slot_hit (N := 111) ?_ (by rfl); (repeat (refine sz_put ?_)); assumption; done) | (apply slot_miss; focus rfl))); all_goals assumption) (f := ?_) (args := ?_) (fun ev hk hkf hv0 hv1 => ?_) ?_; rotate_left 2; focus (go_simp; first | rfl | (constructor <;> rfl))
          refine (DL2 _ (below_dn HB10.out 1)).mono ?_
          rintro e w12 ⟨rfl, hb12⟩
          have hC12 := bn HC10.out (bn (below_dn (Below.refl _ _) 1) hb12)
          have HC12 := Lib.hid hC12
          have HB12 := Lib.hid (bn HB10.out (bn (below_dn (Below.refl _ _) 1) hb12))
          have hS0 : (fun W : World => W.cell? ⟨w.heap.size, 0, none⟩ = some (.int .i64 a0) ∧ W.cell? ⟨w.heap.size, 1, none⟩ = some (.slice A0 n k0) ∧ W.cell? ⟨w.heap.size, 2, none⟩ = some (.slice B0 m q0)) w12 := ⟨bx_cell hC12 0, bx_cell hC12 1, bx_cell hC12 2⟩
          refine ⟨_, rfl, fun _ => hS0, ?_⟩
          clear hb12 hC12
          (refine wt_move 4 57 rfl rfl (by kernel_rfl) (by kernel_rfl) (by kernel_rfl) (by kernel_rfl) (fun _ _ _ h => h) rfl hS0 (by (repeat (first | (refine slot_hit (N := 111) ?_ (by rfl); (repeat (refine sz_put ?_)); assumption; done) | (apply slot_miss; focus rfl))); all_goals assumption) rfl ?_); (refine wt_take1 5 53 (v := ?_) rfl rfl (by kernel_rfl) (by kernel_rfl) (by kernel_rfl) (by kernel_rfl) (fun _ _ _ h => h) rfl hS0 (by (repeat (first | (refine slot_hit (N := 111) ?_ (by rfl); (repeat (refine sz_put ?_)); assumption; done) | (apply slot_miss; focus rfl))); all_goals assumption) (fun ev hk hv0 w hS => ?_) ?_; rotate_left; focus (obtain ⟨j0, j1, j2⟩ := hS; go_simp; rfl)); (refine wt_take1 6 53 (v := ?_) rfl rfl (by kernel_rfl) (by kernel_rfl) (by kernel_rfl) (by kernel_rfl) (fun _ _ _ h => h) rfl hS0 (by (repeat (first | (refine slot_hit (N := 111) ?_ (by rfl); (repeat (refine sz_put ?_)); assumption; done) | (apply slot_miss; focus rfl))); all_goals assumption) (fun ev hk hv0 w hS => ?_) ?_; rotate_left; focus (obtain ⟨j0, j1, j2⟩ := hS; go_simp; rfl)); (refine wt_assign 7 58 rfl rfl (by kernel_rfl) (by kernel_rfl) (by kernel_rfl) (by kernel_rfl) (fun _ _ _ h => h) rfl hS0 (by (repeat (first | (refine slot_hit (N := 111) ?_ (by rfl); (repeat (refine sz_put ?_)); assumption; done) | (apply slot_miss; focus rfl))); all_goals assumption) rfl ?_); (refine wt_assign 8 59 rfl rfl (by kernel_rfl) (by kernel_rfl) (by kernel_rfl) (by kernel_rfl) (fun _ _ _ h => h) rfl hS0 (by (repeat (first | (refine slot_hit (N := 111) ?_ (by rfl); (repeat (refine sz_put ?_)); assumption; done) | (apply slot_miss; focus rfl))); all_goals assumption) rfl ?_)
          refine wt_known (N := 111) (by kernel_rfl) (by (repeat (refine sz_put ?_)); assumption) [(1, .int .i64 a1), (2, .pointer (some ⟨w.heap.size, 0, none⟩)), (5, .bool true), (6, .int .u8 2), (7, .int .i64 0), (8, .int .u8 2), (9, .int .i64 0), (10, .int .i64 lv), (11, .int .i64 6), (12, .int .i64 lv), (13, .int .i64 6)] ⟨(by (repeat (first | (refine slot_hit (N := 111) ?_ (by rfl); (repeat (refine sz_put ?_)); assumption; done) | (apply slot_miss; focus rfl))); all_goals assumption), (by (repeat (first | (refine slot_hit (N := 111) ?_ (by rfl); (repeat (refine sz_put ?_)); assumption; done) | (apply slot_miss; focus rfl))); all_goals assumption), (by (repeat (first | (refine slot_hit (N := 111) ?_ (by rfl); (repeat (refine sz_put ?_)); assumption; done) | (apply slot_miss; focus rfl))); all_goals assumption), (by (repeat (first | (refine slot_hit (N := 111) ?_ (by rfl); (repeat (refine sz_put ?_)); assumption; done) | (apply slot_miss; focus rfl))); all_goals assumption), (by (repeat (first | (refine slot_hit (N := 111) ?_ (by rfl); (repeat (refine sz_put ?_)); assumption; done) | (apply slot_miss; focus rfl))); all_goals assumption), (by (repeat (first | (refine slot_hit (N := 111) ?_ (by rfl); (repeat (refine sz_put ?_)); assumption; done) | (apply slot_miss; focus rfl))); all_goals assumption), (by (repeat (first | (refine slot_hit (N := 111) ?_ (by rfl); (repeat (refine sz_put ?_)); assumption; done) | (apply slot_miss; focus rfl))); all_goals assumption), (by (repeat (first | (refine slot_hit (N := 111) ?_ (by rfl); (repeat (refine sz_put ?_)); assumption; done) | (apply slot_miss; focus rfl))); all_goals assumption), (by (repeat (first | (refine slot_hit (N := 111) ?_ (by rfl); (repeat (refine sz_put ?_)); assumption; done) | (apply slot_miss; focus rfl))); all_goals assumption), (by (repeat (first | (refine slot_hit (N := 111) ?_ (by rfl); (repeat (refine sz_put ?_)); assumption; done) | (apply slot_miss; focus rfl))); all_goals assumption), (by (repeat (first | (refine slot_hit (N := 111) ?_ (by rfl); (repeat (refine sz_put ?_)); assumption; done) | (apply slot_miss; focus rfl))); all_goals assumption), trivial⟩ fun fv fl hfl => ?_; obtain rfl : fl = [fv 0, (.int .i64 a1 : Value), (.pointer (some ⟨w.heap.size, 0, none⟩) : Value), fv 3, fv 4, (.bool true : Value), (.int .u8 2 : Value), (.int .i64 0 : Value), (.int .u8 2 : Value), (.int .i64 0 : Value), (.int .i64 lv : Value), (.int .i64 6 : Value), (.int .i64 lv : Value), (.int .i64 6 : Value), fv 14, fv 15, fv 16, fv 17, fv 18, fv 19, fv 20, fv 21, fv 22, fv 23, fv 24, fv 25, fv 26, fv 27, fv 28, fv 29, fv 30, fv 31, fv 32, fv 33, fv 34, fv 35, fv 36, fv 37, fv 38, fv 39, fv 40, fv 41, fv 42, fv 43, fv 44, fv 45, fv 46, fv 47, fv 48, fv 49, fv 50, fv 51, fv 52, fv 53, fv 54, fv 55, fv 56, fv 57, fv 58, fv 59, fv 60, fv 61, fv 62, fv 63, fv 64, fv 65, fv 66, fv 67, fv 68, fv 69, fv 70, fv 71, fv 72, fv 73, fv 74, fv 75, fv 76, fv 77, fv 78, fv 79, fv 80, fv 81, fv 82, fv 83, fv 84, fv 85, fv 86, fv 87, fv 88, fv 89, fv 90, fv 91, fv 92, fv 93, fv 94, fv 95, fv 96, fv 97, fv 98, fv 99, fv 100, fv 101, fv 102, fv 103, fv 104, fv 105, fv 106, fv 107, fv 108, fv 109, fv 110] := hfl.symm.trans (by kernel_rfl); clear hfl
          have c120 := bx_cell HC12.out 0
          have c121 := bx_cell HC12.out 1
          have c122 := bx_cell HC12.out 2
          clear hS0
          go_wp2_with (first
            | (go_at_call 29; (with_reducible refine (DH w12 HB12.out).mono ?_); rintro e w13 ⟨rfl, rfl⟩))
          go_ret
          exact ⟨rfl, HB12.out⟩

set_option maxRecDepth 100000 in
theorem lifted (os : Os) (started : os.Started) (H : Type) (enc : TypeId × Value → H) :
    ReturnsInHanded {} Try.checked os 7 .any (Rows.assignValuesSpec.pre6 enc Try.prog Try.f7 Rows.assignValuesRow.domain false) (Rows.assignValuesSpec.post enc Try.prog Try.f7 false true false false) := by
  refine returnsInHanded_of_change (C := Try.checked) own started (by kernel_rfl) Try.func7
    (ChangeSpec.witness6 (enc := enc) (C := Try.checked) false ⟨#[], #[.agg #[.int .i64 0, .slice none 0 0, .slice none 0 0], .int .i64 0], []⟩ 12 (by kernel_rfl) (by kernel_rfl) (by kernel_rfl) (by kernel_rfl)) ?_
  intro W base args ds gs before hval0 hW hcnd _
  have hval : ∀ (j : Nat) t v, Try.f7.params[j]? = some t → args[j]? = some v → Value.okWide Try.prog W .any base t v := hval0
  have hW' := hW
  have hlt : ∀ x ∈ before, x.block < W.heap.size := fun x hx => by simpa using hW'.lt x hx
  obtain ⟨p, q, hA0, hV, rfl, hfz, hnd⟩ := hW
  have hA : DataW.TrodAll enc Try.prog W 0 (fun _ => true) true Try.f7.params.toList args.toList ds p := hA0
  rw [Try.params7] at hA hval
  obtain ⟨v0, vs0, d0, ds0, b0, q0, hargs, rfl, rfl, h0, r0⟩ := trodAll_cons hA
  obtain ⟨v1, vs1, d1, ds1, b1, q1, rfl, rfl, rfl, h1, r1⟩ := trodAll_cons r0
  obtain ⟨rfl, rfl, rfl⟩ := trodAll_nil r1
  obtain rfl : args = #[v0, v1] := by cases args; simp_all
  obtain ⟨rfl, rfl⟩ := trodVars_none hV
  obtain ⟨a0, A0, t0, k0, B0, s0, q0, rfl, w0, hm0, hK0, hr0, hn0, hQ0, hs0⟩ := open_as (hval 0 24 v0 rfl rfl) h0
  obtain ⟨a1, rfl, rfl, rfl, w1⟩ := open_int Try.underlying3 (hval 1 3 v1 rfl rfl) h1
  have hlo : laidOutB Try.prog = true := by kernel_rfl
  clear hA0 hval0
  simp only [List.append_nil] at hW' hlt
  refine (walk a0 A0 t0 k0 B0 s0 q0 a1 W w0 hm0 hr0 hK0 hn0 hs0 hQ0 w1).mono fun e W' ⟨he, hb⟩ => ?_
  subst he
  have hback := (trodAll_cons_mk (arg_back (W' := W') hlo (by kernel_rfl) (of_decide_eq_true (by kernel_rfl)) h0 hb (fun x hx => hlt x (by simp [hx]))) (trodAll_cons_mk (shut_int (enc := enc) (w := W') (base := 0) (spare := fun b => decide (b < W.heap.size)) (held := true) Try.underlying3 w1) trodAll_mk0))
  simp only [List.append_nil, List.nil_append] at hback
  exact ⟨_, rfl, law_post hW' (trodAll_cons_mk (shut_bool Try.underlying4 _) trodAll_mk0) hback rfl hb⟩

theorem over : Rows.assignValuesRow.holds Try.pinned (OpenSpec.ofChange Rows.assignValuesSpec) :=
  OpenClaim.holds_of_wide 7 Try.f7 rfl rfl rfl rfl rfl rfl rfl ⟨rfl, rfl, rfl, rfl, rfl⟩ rfl rfl rfl rfl rfl (by kernel_rfl) Try.func7 (by kernel_rfl)
    (of_decide_eq_true (by kernel_rfl)) (by unfold Func.isWrapper; first | (rw [if_pos (by decide +kernel)]; kernel_rfl) | (rw [if_neg (by decide +kernel)]; exact ⟨rfl, rfl⟩))
    (fun os started H enc _ => lifted os started H enc)

theorem proved : Rows.AssignValuesSaid :=
  over
end Go.Proofs.Ytcefphdabomlpaa.assignValues
