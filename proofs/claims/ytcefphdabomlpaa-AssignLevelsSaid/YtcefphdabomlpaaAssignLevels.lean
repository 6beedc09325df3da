/- For a valid assignment of at most 200 literals and a literal: levels never decrease along the literals, and increase just at decisions; implying changes no level, deciding makes one more. No conditions. -/
import Derived.Test.YtcefphdabomlpaaAsGuard
namespace Go.Proofs.Ytcefphdabomlpaa.assignLevels
open Go.ChangeShapes Go.WideShapes Go.ChangeAt Go.RowKit
set_option linter.unusedVariables false
set_option linter.unusedSimpArgs false

theorem atL_step {n : Nat} {s : List Int} (h : OkS n s) (j : Nat) : atL s (j : Int) = atL s ((j : Int) - 1) + (if hs s (j : Int) = true then 1 else 0) := by
  have := atL_succ h ((j : Int) - 1)
  rw [show (j : Int) - 1 + 1 = (j : Int) by omega] at this
  rw [this]
  by_cases e : (j : Int) ∈ s
  · rw [if_pos e, if_pos (hs_iff.2 e)]
  · rw [if_neg e, if_neg (by rw [hs_no.2 e]; decide)]
/-- the level of the j-th literal -/
theorem lv_at {v : Int} {t s : List Int} (hO : OkA v t s) {j : Nat} (hj : j < t.length) : lV v t s (t.getD j 0) = (atL s (j : Int) : Nat) ∧ lE v t s (t.getD j 0) = 0 := by
  have e : lE v t s (t.getD j 0) = 0 := lE_0.2 ⟨hO, hO.2.1.1 _ (getD_mem hj), vin_iff.2 ⟨_, getD_mem hj, rfl⟩⟩
  exact ⟨by unfold lV; rw [if_pos e, plc_at hO.2.1 hj rfl], e⟩
theorem lv_last {v : Int} {t s : List Int} {x : Int} (hO : OkA v (t ++ [x]) s) {n : Nat} (hn : n = t.length) : lV v (t ++ [x]) s x = (atL s (n : Int) : Nat) ∧ lE v (t ++ [x]) s x = 0 := by
  have h := lv_at hO (j := n) (by rw [List.length_append, hn]; simp)
  have e : (t ++ [x]).getD n 0 = x := by rw [hn]; simp
  rwa [e] at h
theorem atL_app {n : Nat} {s : List Int} (h : OkS n s) : atL (s ++ [(n : Int)]) (n : Int) = s.length + 1 ∧ atL s (n : Int) = s.length := by
  have e := atL_all h (i := (n : Int)) (by omega)
  refine ⟨?_, e⟩
  unfold atL at e ⊢
  rw [List.countP_append, e]
  simp

theorem own : ownKnob Try.prog.godebug = none := by kernel_rfl

set_option maxRecDepth 100000 in
set_option maxHeartbeats 4000000 in
theorem walk (a0 : Int) (A0 : Option Addr) (t0 : List Int) (k0 : Nat) (B0 : Option Addr) (s0 : List Int) (q0 : Nat) (a1 : Int) (w : World) (w0 : (Lit.int .i64 a0).wf = true) (hm0 : Ia w w.heap.size A0 t0 k0) (hr0 : ∀ x ∈ t0, I64 x) (hK0 : k0 ≤ maxLen) (hn0 : Ia w w.heap.size B0 s0 q0) (hs0 : ∀ x ∈ s0, I64 x) (hQ0 : q0 ≤ maxLen) (w1 : (Lit.int .i64 a1).wf = true) :
    Calls Try.prog 8 #[.agg #[.int .i64 a0, .slice A0 t0.length k0, .slice B0 s0.length q0], .int .i64 a1] w fun e w' => e = .returned (.bool true) ∧ Below w.heap.size w w' := by
  have hv0 := i64_of w0
  have hv1 := i64_of w1
  clear w0 w1
  have hk0 : k0 ≤ 9223372036854775807 ∧ q0 ≤ 9223372036854775807 := ⟨hK0, hQ0⟩
  obtain ⟨n, hn⟩ : ∃ n, n = t0.length := ⟨_, rfl⟩
  obtain ⟨m, hm⟩ : ∃ m, m = s0.length := ⟨_, rfl⟩
  have hn63 : n ≤ 9223372036854775807 := by have := hm0.c; omega
  have hm63 : m ≤ 9223372036854775807 := by have := hn0.c; omega
  have hNw := Nw.arg hm0 hn0 hn hm
  rw [← hn, ← hm]
  have DA := alive14_any (w.alloc (.cells #[.int .i64 a0, .slice A0 n k0, .slice B0 m q0] 24))
  have DG := fun W => rGreat14_any a0 A0 n k0 B0 m q0 W hn63 hm63
  by_cases hg : 200 < n ∨ 200 < m
  · rw [show decide (200 < n ∨ 200 < m) = true from decide_eq_true hg] at DG
    clear hm0 hr0 hK0 hn0 hs0 hQ0 hn hm hk0 hNw hg hn63 hm63
    go_enter Try.func8, Try.ntmps8
    go_wp2_with (first
      | (go_at_call 26; (with_reducible refine DA.mono ?_); rintro e w3 ⟨rfl, hb3⟩
         have c0 := bx_cell hb3 0
         have c1 := bx_cell hb3 1
         have c2 := bx_cell hb3 2
         have HC3 := Lib.hid hb3
         have HB3 := Lib.hid (bx_bn hb3)
         clear hb3)
      | (go_at_call 9; (with_reducible refine (DG w3).mono ?_); rintro e w4 ⟨rfl, hb4⟩
         have d0 := bx_cell (bn HC3.out hb4) 0
         have d1 := bx_cell (bn HC3.out hb4) 1
         have d2 := bx_cell (bn HC3.out hb4) 2
         have HC4 := Lib.hid (bn HC3.out hb4)
         have HB4 := Lib.hid (bn HB3.out hb4)
         clear hb4))
    go_ret
    exact ⟨rfl, HB4.out⟩
  · rw [show decide (200 < n ∨ 200 < m) = false from decide_eq_false hg] at DG
    have DC := fun (W : World) (hb : Below w.heap.size w W) => (hNw.on hb).rcheck (by omega) (by omega) a0
    by_cases hO : OkA a0 t0 s0
    case neg =>
      rw [aE_no hO] at DC
      clear hm0 hr0 hK0 hn0 hs0 hQ0 hn hm hk0 hNw hg hn63 hm63 hO
      go_enter Try.func8, Try.ntmps8
      go_wp2_with (first
        | (go_at_call 26; (with_reducible refine DA.mono ?_); rintro e w3 ⟨rfl, hb3⟩
           have c0 := bx_cell hb3 0
           have c1 := bx_cell hb3 1
           have c2 := bx_cell hb3 2
           have HC3 := Lib.hid hb3
           have HB3 := Lib.hid (bx_bn hb3)
           clear hb3)
        | (go_at_call 9; (with_reducible refine (DG w3).mono ?_); rintro e w4 ⟨rfl, hb4⟩
           have d0 := bx_cell (bn HC3.out hb4) 0
           have d1 := bx_cell (bn HC3.out hb4) 1
           have d2 := bx_cell (bn HC3.out hb4) 2
           have HC4 := Lib.hid (bn HC3.out hb4)
           have HB4 := Lib.hid (bn HB3.out hb4)
           clear hb4)
        | (go_at_call 24; (with_reducible refine (DC w4 HB4.out).mono ?_); rintro e w5 ⟨rfl, hb5⟩
           have e0 := bx_cell (bn HC4.out hb5) 0
           have e1 := bx_cell (bn HC4.out hb5) 1
           have e2 := bx_cell (bn HC4.out hb5) 2
           have HC5 := Lib.hid (bn HC4.out hb5)
           have HB5 := Lib.hid (bn HB4.out hb5)
           clear hb5))
      go_ret
      exact ⟨rfl, HB5.out⟩
    case pos =>
      rw [aE_yes hO] at DC
      have hOS : OkS n s0 := by rw [hn]; exact hO.2.2
      have DL := fun (W : World) (hb : Below w.heap.size w W) (j : Nat) (hj : j < n) => (hNw.on hb).level (by omega) (by omega) hO (t0.getD j 0) (hO.i64 _ (getD_mem (by omega)))
      have DH := fun (W : World) (hb : Below w.heap.size w W) (y : Int) => rHas_any B0 s0 q0 y W.heap.size W (hNw.on hb).si (by omega)
      rw [← hm] at DH
      have hm200 : m ≤ 200 := by omega
      have hn200 : n ≤ 200 := by omega
      have DDA := fun (W : World) (hb : Below w.heap.size w W) => (hNw.on hb).decideA (by omega) (by omega) hO a1 hv1
      have DIA := fun (W : World) (hb : Below w.heap.size w W) => (hNw.on hb).implyA (by omega) (by omega) hO a1 hv1
      have HD := Lib.hid (And.intro DL (And.intro DH (And.intro DDA DIA)))
      have HO := Lib.hid (And.intro hO (And.intro hOS (And.intro hn (And.intro hm (And.intro hNw hv1)))))
      have HI := Lib.hid hm0
      have hlast0 : (0 : Int) = (atL s0 (((0 : Nat) : Int) - 1) : Nat) := by rw [show ((0 : Nat) : Int) - 1 = -1 by omega, atL_neg hOS]; rfl
      have HL0 := Lib.hid hlast0
      clear DL DH DDA DIA hOS hlast0
      clear hm0 hr0 hK0 hn0 hs0 hQ0 hn hm hk0 hNw hg hn63 hm63 hO hv0 hv1
      go_enter Try.func8, Try.ntmps8
      go_wp2_with (first
        | (go_at_call 26; (with_reducible refine DA.mono ?_); rintro e w3 ⟨rfl, hb3⟩
           have c0 := bx_cell hb3 0
           have c1 := bx_cell hb3 1
           have c2 := bx_cell hb3 2
           have HC3 := Lib.hid hb3
           have HB3 := Lib.hid (bx_bn hb3)
           clear hb3)
        | (go_at_call 9; (with_reducible refine (DG w3).mono ?_); rintro e w4 ⟨rfl, hb4⟩
           have d0 := bx_cell (bn HC3.out hb4) 0
           have d1 := bx_cell (bn HC3.out hb4) 1
           have d2 := bx_cell (bn HC3.out hb4) 2
           have HC4 := Lib.hid (bn HC3.out hb4)
           have HB4 := Lib.hid (bn HB3.out hb4)
           clear hb4)
        | (go_at_call 24; (with_reducible refine (DC w4 HB4.out).mono ?_); rintro e w5 ⟨rfl, hb5⟩
           have e0 := bx_cell (bn HC4.out hb5) 0
           have e1 := bx_cell (bn HC4.out hb5) 1
           have e2 := bx_cell (bn HC4.out hb5) 2
           have HC5 := Lib.hid (bn HC4.out hb5)
           have HB5 := Lib.hid (bn HB4.out hb5)
           clear hb5))
      go_loopw [6, 7] (fun la i wr => ∃ j : Nat, j ≤ n ∧ i = .int .i64 (j : Int) ∧ la = .int .i64 (atL s0 ((j : Int) - 1) : Nat) ∧ Below w.heap.size w wr ∧ Has wr w.heap.size 24 #[.int .i64 a0, .slice A0 n k0, .slice B0 m q0]) (fun _ i _ => n - (intOf i).toNat)
      case atStart => exact ⟨0, Nat.zero_le _, rfl, by rw [← HL0.out], HB5.out, (Has.new w _ _).keep HC5.out (Has.new w _ _).lt⟩
      case round =>
        obtain ⟨j, hj, rfl, rfl, hB, hC⟩ := hrel
        have r0 : wr.cell? ⟨w.heap.size, 0, none⟩ = some (.int .i64 a0) := hC.cell 0
        have r1 : wr.cell? ⟨w.heap.size, 1, none⟩ = some (.slice A0 n k0) := hC.cell 1
        have r2 : wr.cell? ⟨w.heap.size, 2, none⟩ = some (.slice B0 m q0) := hC.cell 2
        have hla : atL s0 ((j : Int) - 1) ≤ 200 := Nat.le_trans (atL_le _ _) (by have := HO.out.2.2.2.1; omega)
        by_cases hlt : j < n
        · obtain ⟨b, o, rfl, hb0, hcs⟩ := HI.out.cells (by have := HO.out.2.2.1; omega)
          have hjl : j < t0.length := by have := HO.out.2.2.1; omega
          have y0 := hcs j hjl
          have yy := (hB.cell (cell_lt y0)).trans y0
          have hj1 : (j : Int) < (n : Int) := by omega
          have hj0 : (0 : Int) ≤ (j : Int) := by omega
          have D1 := HD.out.1 wr.drew (below_dn hB 1) j hlt
          rw [(lv_at HO.out.1 hjl).1, (lv_at HO.out.1 hjl).2] at D1
          have hst := atL_step HO.out.2.1 j
          have hlb : atL s0 (j : Int) ≤ 200 := Nat.le_trans (atL_le _ _) (by have := HO.out.2.2.2.1; omega)
          obtain ⟨x, hx⟩ : ∃ x, x = t0.getD j 0 := ⟨_, rfl⟩
          rw [← hx] at yy D1
          obtain ⟨la, hla0⟩ : ∃ la, la = atL s0 ((j : Int) - 1) := ⟨_, rfl⟩
          obtain ⟨lb, hlb0⟩ : ∃ lb, lb = atL s0 (j : Int) := ⟨_, rfl⟩
          rw [← hla0] at hst hla ⊢
          rw [← hlb0] at hst hlb D1
          have HE := Lib.hid hlb0
          have hS0 : (fun W : World => W.cell? ⟨w.heap.size, 0, none⟩ = some (.int .i64 a0) ∧ W.cell? ⟨w.heap.size, 1, none⟩ = some (.slice (some ⟨b, o, none⟩) n k0) ∧ W.cell? ⟨w.heap.size, 2, none⟩ = some (.slice B0 m q0) ∧ W.cell? ⟨b, o + j, none⟩ = some (.int .i64 x)) wr.drew := ⟨r0, r1, r2, yy⟩
          have HK := Lib.hid (And.intro hB (And.intro hC (fun W (hb : Below wr.heap.size wr W) => ((hb.cell (cell_lt yy)).trans yy : W.cell? ⟨b, o + j, none⟩ = some (.int .i64 x)))))
          have HS := Lib.hid hst
          clear hB hC hcs y0 hx hla0 hlb0 hst
          go_wp2
          refine wp_slots (fun f => Sz f 145 ∧ Slot f 2 (.pointer (some ⟨w.heap.size, 0, none⟩)) ∧ Slot f 7 (.int .i64 (j : Int))) ⟨⟨rfl, rfl⟩, ⟨rfl⟩, ⟨rfl⟩⟩ fun a0' hA0 hR => ?_
          obtain ⟨hZ, hs2, hs7⟩ := hR
          have HA := Lib.hid hA0
          clear hA0 r0 r1 r2 yy
          refine wp_region_T (fun W : World => W.cell? ⟨w.heap.size, 0, none⟩ = some (.int .i64 a0) ∧ W.cell? ⟨w.heap.size, 1, none⟩ = some (.slice (some ⟨b, o, none⟩) n k0) ∧ W.cell? ⟨w.heap.size, 2, none⟩ = some (.slice B0 m q0) ∧ W.cell? ⟨b, o + j, none⟩ = some (.int .i64 x)) 12 (by kernel_rfl) ?_
          refine WT.h ?_
          (refine wt_take1 0 2 (v := ?_) rfl rfl (by kernel_rfl) (by kernel_rfl) (by kernel_rfl) (by kernel_rfl) (fun _ _ _ h => h) rfl hS0 (by (repeat (first | (refine slot_hit (N := 145) ?_ (by rfl); (repeat (refine sz_put ?_)); assumption; done) | (apply slot_miss; focus rfl))); all_goals assumption) (fun ev hk hv0 w hS => ?_) ?_; rotate_left; focus (obtain ⟨j0, j1, j2, j3⟩ := hS; go_simp; rfl)); (refine wt_take1 1 2 (v := ?_) rfl rfl (by kernel_rfl) (by kernel_rfl) (by kernel_rfl) (by kernel_rfl) (fun _ _ _ h => h) rfl hS0 (by (repeat (first | (refine slot_hit (N := 145) ?_ (by rfl); (repeat (refine sz_put ?_)); assumption; done) | (apply slot_miss; focus rfl))); all_goals assumption) (fun ev hk hv0 w hS => ?_) ?_; rotate_left; focus (obtain ⟨j0, j1, j2, j3⟩ := hS; go_simp; rfl)); (refine wt_take1 2 41 (v := ?_) rfl rfl (by kernel_rfl) (by kernel_rfl) (by kernel_rfl) (by kernel_rfl) (fun _ _ _ h => h) rfl hS0 (by (repeat (first | (refine slot_hit (N := 145) ?_ (by rfl); (repeat (refine sz_put ?_)); assumption; done) | (apply slot_miss; focus rfl))); all_goals assumption) (fun ev hk hv0 w hS => ?_) ?_; rotate_left; focus (obtain ⟨j0, j1, j2, j3⟩ := hS; go_simp; rfl)); (refine wt_move 3 7 rfl rfl (by kernel_rfl) (by kernel_rfl) (by kernel_rfl) (by kernel_rfl) (fun _ _ _ h => h) rfl hS0 (by (repeat (first | (refine slot_hit (N := 145) ?_ (by rfl); (repeat (refine sz_put ?_)); assumption; done) | (apply slot_miss; focus rfl))); all_goals assumption) rfl ?_); (refine wt_take2 4 42 43 (v := ?_) rfl rfl (by kernel_rfl) (by kernel_rfl) (by kernel_rfl) (by kernel_rfl) (fun _ _ _ h => h) rfl hS0 (by (repeat (first | (refine slot_hit (N := 145) ?_ (by rfl); (repeat (refine sz_put ?_)); assumption; done) | (apply slot_miss; focus rfl))); all_goals assumption) (by (repeat (first | (refine slot_hit (N := 145) ?_ (by rfl); (repeat (refine sz_put ?_)); assumption; done) | (apply slot_miss; focus rfl))); all_goals assumption) (fun ev hk hv0 hv1 w hS => ?_) ?_; rotate_left; focus (obtain ⟨j0, j1, j2, j3⟩ := hS; go_simp; rfl)); (refine wt_take1 5 44 (v := ?_) rfl rfl (by kernel_rfl) (by kernel_rfl) (by kernel_rfl) (by kernel_rfl) (fun _ _ _ h => h) rfl hS0 (by (repeat (first | (refine slot_hit (N := 145) ?_ (by rfl); (repeat (refine sz_put ?_)); assumption; done) | (apply slot_miss; focus rfl))); all_goals assumption) (fun ev hk hv0 w hS => ?_) ?_; rotate_left; focus (obtain ⟨j0, j1, j2, j3⟩ := hS; go_simp; rfl))
          refine wt_call2 6 40 45 (by kernel_rfl) rfl rfl rfl (by (repeat (first | (refine slot_hit (N := 145) ?_ (by rfl); (repeat (refine sz_put ?_)); assumption; done) | (apply slot_miss; focus rfl))); all_goals assumption) (by (repeat (first | (refine slot_hit (N := 145) ?_ (by rfl); (repeat (refine sz_put ?_)); assumption; done) | (apply slot_miss; focus rfl))); all_goals assumption) (f := ?_) (args := ?_) (fun ev hk hkf hv0 hv1 => ?_) ?_; rotate_left 2; focus (go_simp; first | rfl | (constructor <;> rfl))
          refine D1.mono ?_
          rintro e w6 ⟨rfl, hb6⟩
          have hb6' := bn (below_dn (Below.refl _ _) 1) hb6
          have hC6 := HK.out.2.1.keep hb6' HK.out.2.1.lt
          have hS0 : (fun W : World => W.cell? ⟨w.heap.size, 0, none⟩ = some (.int .i64 a0) ∧ W.cell? ⟨w.heap.size, 1, none⟩ = some (.slice (some ⟨b, o, none⟩) n k0) ∧ W.cell? ⟨w.heap.size, 2, none⟩ = some (.slice B0 m q0) ∧ W.cell? ⟨b, o + j, none⟩ = some (.int .i64 x)) w6 := ⟨hC6.cell 0, hC6.cell 1, hC6.cell 2, HK.out.2.2 w6 hb6'⟩
          refine ⟨_, rfl, fun _ => hS0, ?_⟩
          have HW := Lib.hid (And.intro (bn HK.out.1 hb6') hC6)
          clear hb6 hb6' hC6 D1
          (refine wt_move 7 46 rfl rfl (by kernel_rfl) (by kernel_rfl) (by kernel_rfl) (by kernel_rfl) (fun _ _ _ h => h) rfl hS0 (by (repeat (first | (refine slot_hit (N := 145) ?_ (by rfl); (repeat (refine sz_put ?_)); assumption; done) | (apply slot_miss; focus rfl))); all_goals assumption) rfl ?_); (refine wt_take1 8 39 (v := ?_) rfl rfl (by kernel_rfl) (by kernel_rfl) (by kernel_rfl) (by kernel_rfl) (fun _ _ _ h => h) rfl hS0 (by (repeat (first | (refine slot_hit (N := 145) ?_ (by rfl); (repeat (refine sz_put ?_)); assumption; done) | (apply slot_miss; focus rfl))); all_goals assumption) (fun ev hk hv0 w hS => ?_) ?_; rotate_left; focus (obtain ⟨j0, j1, j2, j3⟩ := hS; go_simp; rfl)); (refine wt_take1 9 39 (v := ?_) rfl rfl (by kernel_rfl) (by kernel_rfl) (by kernel_rfl) (by kernel_rfl) (fun _ _ _ h => h) rfl hS0 (by (repeat (first | (refine slot_hit (N := 145) ?_ (by rfl); (repeat (refine sz_put ?_)); assumption; done) | (apply slot_miss; focus rfl))); all_goals assumption) (fun ev hk hv0 w hS => ?_) ?_; rotate_left; focus (obtain ⟨j0, j1, j2, j3⟩ := hS; go_simp; rfl)); (refine wt_assign 10 47 rfl rfl (by kernel_rfl) (by kernel_rfl) (by kernel_rfl) (by kernel_rfl) (fun _ _ _ h => h) rfl hS0 (by (repeat (first | (refine slot_hit (N := 145) ?_ (by rfl); (repeat (refine sz_put ?_)); assumption; done) | (apply slot_miss; focus rfl))); all_goals assumption) rfl ?_); (refine wt_assign 11 48 rfl rfl (by kernel_rfl) (by kernel_rfl) (by kernel_rfl) (by kernel_rfl) (fun _ _ _ h => h) rfl hS0 (by (repeat (first | (refine slot_hit (N := 145) ?_ (by rfl); (repeat (refine sz_put ?_)); assumption; done) | (apply slot_miss; focus rfl))); all_goals assumption) rfl ?_)
          refine wt_done (by kernel_rfl) (NoPanic.normal ?_) _
          have ha := HA.out
          subst ha
          clear hs2 hs7 hZ hS0
          have r0 : w6.cell? ⟨w.heap.size, 0, none⟩ = some (.int .i64 a0) := HW.out.2.cell 0
          have r1 : w6.cell? ⟨w.heap.size, 1, none⟩ = some (.slice (some ⟨b, o, none⟩) n k0) := HW.out.2.cell 1
          have r2 : w6.cell? ⟨w.heap.size, 2, none⟩ = some (.slice B0 m q0) := HW.out.2.cell 2
          have D2 := HD.out.2.1 w6 HW.out.1 (j : Int)
          cases hh : hs s0 (j : Int) with
          | true =>
            rw [hh] at D2
            have e1 : lb = la + 1 := by rw [HS.out, hh]; rfl
            subst e1
            clear hh
            have f1 : ((la : Int) + 1 != (la : Int) + 1) = false := by simp
            go_wp2_with (first
              | (go_at_call 29; (with_reducible refine D2.mono ?_); rintro e w7 ⟨rfl, rfl⟩))
            go_roundw
            case rel => exact ⟨j + 1, by omega, by go_num, by rw [show ((j + 1 : Nat) : Int) - 1 = (j : Int) by omega, ← HE.out]; go_num, HW.out.1, HW.out.2⟩
            case measure => simp [intOf]; omega
          | false =>
            rw [hh] at D2
            have e1 : lb = la := by rw [HS.out, hh]; rfl
            subst e1
            clear hh
            have f1 : ((lb : Int) != (lb : Int)) = false := by simp
            go_wp2_with (first
              | (go_at_call 29; (with_reducible refine D2.mono ?_); rintro e w7 ⟨rfl, rfl⟩))
            go_roundw
            case rel => exact ⟨j + 1, by omega, by go_num, by rw [show ((j + 1 : Nat) : Int) - 1 = (j : Int) by omega, ← HE.out], HW.out.1, HW.out.2⟩
            case measure => simp [intOf]; omega
        · obtain rfl : j = n := by omega
          have hlast : atL s0 ((j : Int) - 1) = m := by rw [atL_all HO.out.2.1 (by omega)]; exact HO.out.2.2.2.1.symm
          rw [hlast]
          have DD := HD.out.2.2.1 wr hB
          have DI := HD.out.2.2.2
          have hC' := hC
          have f1 : ((m : Int) != (m : Int)) = false := by simp
          have hjn : ¬ (j : Int) < (j : Int) := by omega
          by_cases hp : pE a0 t0 s0 a1 = 0
          · obtain ⟨_, hL, hin⟩ := pE_0.1 hp
            obtain ⟨p1, p2, p3, p4⟩ := p_yes hp
            rw [p1, p2, p3, hp, ← HO.out.2.2.1] at DD
            rw [p1, p2, p4, hp] at DI
            have oD := HO.out.1.decided hL hin
            have oI := HO.out.1.implied hL hin
            rw [← HO.out.2.2.1] at oD
            obtain ⟨l1, l2⟩ := lv_last oD HO.out.2.2.1
            obtain ⟨l3, l4⟩ := lv_last oI HO.out.2.2.1
            obtain ⟨g1, g2⟩ := atL_app HO.out.2.1
            rw [g1, ← HO.out.2.2.2.1] at l1
            rw [g2, ← HO.out.2.2.2.1] at l3
            have DD' := DD.mono fun e w' h => h.nw (n := j + 1) (m := m + 1) (by rw [List.length_append, ← HO.out.2.2.1]; rfl) (by rw [List.length_append, ← HO.out.2.2.2.1]; rfl)
            have DI' := fun W hb => (DI W hb).mono fun e w' h => h.nw (n := j + 1) (m := m) (by rw [List.length_append, ← HO.out.2.2.1]; rfl) HO.out.2.2.2.1
            have HLb := Lib.hid fun (b : Nat) (W : World) (A B : Option Addr) (k q : Nat) (h : Nw b W A (j + 1) k (t0 ++ [a1]) B (m + 1) q (s0 ++ [(j : Int)])) => h.level (v := a0) (by omega) (by omega) oD a1 HO.out.2.2.2.2.2
            have HLc := Lib.hid fun (b : Nat) (W : World) (A B : Option Addr) (k q : Nat) (h : Nw b W A (j + 1) k (t0 ++ [a1]) B m q s0) => h.level (v := a0) (by omega) (by omega) oI a1 HO.out.2.2.2.2.2
            rw [l1, l2] at HLb
            rw [l3, l4] at HLc
            have HK := Lib.hid (And.intro hB hC)
            clear hlast DD DI hp hL hin p1 p2 p3 p4 oD oI l1 l2 l3 l4 g1 g2 hB hC hC'
            go_wp2_with (first
              | (go_at_call 13; (with_reducible refine DD'.mono ?_); rintro e w7 ⟨A7, k7, B7, q7, rfl, hN7, hb7⟩
                 have hx7 := bn hb7 (bx_on w7 (.cells #[.int .i64 a0, .slice A7 (j + 1) k7, .slice B7 (m + 1) q7] 24))
                 have hC7 := HK.out.2.keep hx7 HK.out.2.lt
                 have u0 := hC7.cell 0
                 have u1 := hC7.cell 1
                 have u2 := hC7.cell 2
                 have DI7 := DI' _ (bn HK.out.1 hx7)
                 have HK7 := Lib.hid (And.intro (bn HK.out.1 hx7) (And.intro hC7 (And.intro (hN7.on (bx_on w7 (.cells #[.int .i64 a0, .slice A7 (j + 1) k7, .slice B7 (m + 1) q7] 24))) (Bs.new w7 (.int .i64 a0) (.slice A7 (j + 1) k7) (.slice B7 (m + 1) q7)))))
                 clear hN7 hb7 hx7 hC7)
              | (go_at_call 15; (with_reducible refine DI7.mono ?_); rintro e w8 ⟨A8, k8, B8, q8, rfl, hN8, hb8⟩
                 have hx8 := bn hb8 (bx_on w8 (.cells #[.int .i64 a0, .slice A8 (j + 1) k8, .slice B8 m q8] 24))
                 have hC8 := HK7.out.2.1.keep hx8 HK7.out.2.1.lt
                 have v0 := hC8.cell 0
                 have v1 := hC8.cell 1
                 have v2 := hC8.cell 2
                 have hBb := HK7.out.2.2.2.on hx8
                 obtain ⟨y0, y1, y2⟩ := hBb.c
                 have DLb := HLb.out _ _ A7 B7 k7 q7 (HK7.out.2.2.1.on hx8)
                 have HK8 := Lib.hid (And.intro (bn HK7.out.1 hx8) (And.intro hC8 (And.intro hBb (And.intro (hN8.on (bx_on w8 (.cells #[.int .i64 a0, .slice A8 (j + 1) k8, .slice B8 m q8] 24))) (Bs.new w8 (.int .i64 a0) (.slice A8 (j + 1) k8) (.slice B8 m q8))))))
                 clear hN8 hb8 hx8 hC8 hBb)
              | (go_at_call 19; (with_reducible refine DLb.mono ?_); rintro e w9 ⟨rfl, hb9⟩
                 have hBc := HK8.out.2.2.2.2.on hb9
                 obtain ⟨z0, z1, z2⟩ := hBc.c
                 have DLc := HLc.out _ _ A8 B8 k8 q8 (HK8.out.2.2.2.1.on hb9)
                 have HK9 := Lib.hid (And.intro (bn HK8.out.1 hb9) (And.intro (HK8.out.2.1.keep hb9 HK8.out.2.1.lt) (And.intro (HK8.out.2.2.1.on hb9) hBc)))
                 clear hb9 hBc)
              | (go_at_call 19; (with_reducible refine DLc.mono ?_); rintro e w10 ⟨rfl, hb10⟩
                 have hC10 := HK9.out.2.1.keep hb10 HK9.out.2.1.lt
                 have x0 := hC10.cell 0
                 have x1 := hC10.cell 1
                 have x2 := hC10.cell 2
                 obtain ⟨m0, m1, m2⟩ := (HK9.out.2.2.1.on hb10).c
                 obtain ⟨o0, o1, o2⟩ := (HK9.out.2.2.2.on hb10).c
                 have HK10 := Lib.hid (bn HK9.out.1 hb10)
                 clear hb10 hC10))
            go_ret
            exact ⟨by first | rfl | simp, HK10.out⟩
          · have p0 := fun d => p_no (v := a0) (t := t0) (s := s0) (x := a1) (d := d) hp
            rw [(p0 true).1, (p0 true).2.1, (p0 true).2.2] at DD
            rw [(p0 false).1, (p0 false).2.1, (p0 false).2.2] at DI
            have e2 : (pE a0 t0 s0 a1 != 0) = true := by simpa using hp
            obtain ⟨u, hu⟩ : ∃ u, u = pE a0 t0 s0 a1 := ⟨_, rfl⟩
            rw [← hu] at DD DI e2
            have DD' := DD.mono fun e w' h => h.nw (n := 0) (m := 0) rfl rfl
            have DI' := fun W hb => (DI W hb).mono fun e w' h => h.nw (n := 0) (m := 0) rfl rfl
            have f2 : (u != u) = false := by simp
            have HK := Lib.hid (And.intro hB hC)
            clear hlast DD DI hp p0 hu hB hC hC'
            go_wp2_with (first
              | (go_at_call 13; (with_reducible refine DD'.mono ?_); rintro e w7 ⟨A7, k7, B7, q7, rfl, hN7, hb7⟩
                 have hx7 := bn hb7 (bx_on w7 (.cells #[.int .i64 0, .slice A7 0 k7, .slice B7 0 q7] 24))
                 have hC7 := HK.out.2.keep hx7 HK.out.2.lt
                 have u0 := hC7.cell 0
                 have u1 := hC7.cell 1
                 have u2 := hC7.cell 2
                 have DI7 := DI' _ (bn HK.out.1 hx7)
                 have HK7 := Lib.hid (And.intro (bn HK.out.1 hx7) hC7)
                 clear hN7 hb7 hx7 hC7)
              | (go_at_call 15; (with_reducible refine DI7.mono ?_); rintro e w8 ⟨A8, k8, B8, q8, rfl, hN8, hb8⟩
                 have hx8 := bn hb8 (bx_on w8 (.cells #[.int .i64 0, .slice A8 0 k8, .slice B8 0 q8] 24))
                 have hC8 := HK7.out.2.keep hx8 HK7.out.2.lt
                 have v0 := hC8.cell 0
                 have v1 := hC8.cell 1
                 have v2 := hC8.cell 2
                 have HK8 := Lib.hid (bn HK7.out.1 hx8)
                 clear hN8 hb8 hx8 hC8))
            go_ret
            exact ⟨rfl, HK8.out⟩

set_option maxRecDepth 100000 in
theorem lifted (os : Os) (started : os.Started) (H : Type) (enc : TypeId × Value → H) :
    ReturnsInHanded {} Try.checked os 8 .any (Rows.assignLevelsSpec.pre6 enc Try.prog Try.f8 Rows.assignLevelsRow.domain false) (Rows.assignLevelsSpec.post enc Try.prog Try.f8 false true false false) := by
  refine returnsInHanded_of_change (C := Try.checked) own started (by kernel_rfl) Try.func8
    (ChangeSpec.witness6 (enc := enc) (C := Try.checked) false ⟨#[], #[.agg #[.int .i64 0, .slice none 0 0, .slice none 0 0], .int .i64 0], []⟩ 12 (by kernel_rfl) (by kernel_rfl) (by kernel_rfl) (by kernel_rfl)) ?_
  intro W base args ds gs before hval0 hW hcnd _
  have hval : ∀ (j : Nat) t v, Try.f8.params[j]? = some t → args[j]? = some v → Value.okWide Try.prog W .any base t v := hval0
  have hW' := hW
  have hlt : ∀ x ∈ before, x.block < W.heap.size := fun x hx => by simpa using hW'.lt x hx
  obtain ⟨p, q, hA0, hV, rfl, hfz, hnd⟩ := hW
  have hA : DataW.TrodAll enc Try.prog W 0 (fun _ => true) true Try.f8.params.toList args.toList ds p := hA0
  rw [Try.params8] at hA hval
  obtain ⟨v0, vs0, d0, ds0, b0, q0, hargs, rfl, rfl, h0, r0⟩ := trodAll_cons hA
  obtain ⟨v1, vs1, d1, ds1, b1, q1, rfl, rfl, rfl, h1, r1⟩ := trodAll_cons r0
  obtain ⟨rfl, rfl, rfl⟩ := trodAll_nil r1
  obtain rfl : args = #[v0, v1] := by cases args; simp_all
  obtain ⟨rfl, rfl⟩ := trodVars_none hV
  obtain ⟨a0, A0, t0, k0, B0, s0, q0, rfl, w0, hm0, hK0, hr0, hn0, hQ0, hs0⟩ := open_as (hval 0 24 v0 rfl rfl) h0
  obtain ⟨a1, rfl, rfl, rfl, w1⟩ := open_int Try.underlying3 (hval 1 3 v1 rfl rfl) h1
  have hlo : laidOutB Try.prog = true := by kernel_rfl
  clear hA0 hval0
  simp only [List.append_nil] at hW' hlt
  refine (walk a0 A0 t0 k0 B0 s0 q0 a1 W w0 hm0 hr0 hK0 hn0 hs0 hQ0 w1).mono fun e W' ⟨he, hb⟩ => ?_
  subst he
  have hback := (trodAll_cons_mk (arg_back (W' := W') hlo (by kernel_rfl) (of_decide_eq_true (by kernel_rfl)) h0 hb (fun x hx => hlt x (by simp [hx]))) (trodAll_cons_mk (shut_int (enc := enc) (w := W') (base := 0) (spare := fun b => decide (b < W.heap.size)) (held := true) Try.underlying3 w1) trodAll_mk0))
  simp only [List.append_nil, List.nil_append] at hback
  exact ⟨_, rfl, law_post hW' (trodAll_cons_mk (shut_bool Try.underlying4 _) trodAll_mk0) hback rfl hb⟩

theorem over : Rows.assignLevelsRow.holds Try.pinned (OpenSpec.ofChange Rows.assignLevelsSpec) :=
  OpenClaim.holds_of_wide 8 Try.f8 rfl rfl rfl rfl rfl rfl rfl ⟨rfl, rfl, rfl, rfl, rfl⟩ rfl rfl rfl rfl rfl (by kernel_rfl) Try.func8 (by kernel_rfl)
    (of_decide_eq_true (by kernel_rfl)) (by unfold Func.isWrapper; first | (rw [if_pos (by decide +kernel)]; kernel_rfl) | (rw [if_neg (by decide +kernel)]; exact ⟨rfl, rfl⟩))
    (fun os started H enc _ => lifted os started H enc)

theorem proved : Rows.AssignLevelsSaid :=
  over
end Go.Proofs.Ytcefphdabomlpaa.assignLevels
