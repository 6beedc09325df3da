/- The chapter's examples of layer 6: a run's states, resets, constraints, witnesses, runs that are not right, and each error. No conditions. -/
import Derived.Test.YtpobkemgbbgolaaTracesNamesKit
import Derived.Test.YtpobkemgbbgolaaHeadTail
import Derived.Test.YtpobkemgbbgolaaGatesFrame
import Derived.Deep.DeepCutAuto
import Derived.Deep.CutBlock
namespace Go.Proofs.Ytpobkemgbbgolaa.tracesNames
open Go.ChangeShapes Go.WideShapes Go.ChangeAt Go.RowKit
set_option linter.unusedVariables false
set_option linter.unusedSimpArgs false


theorem own : ownKnob Try.prog.godebug = none := by kernel_rfl

set_option maxRecDepth 100000 in
set_option maxHeartbeats 40000000 in
theorem walk  (w : World)  :
    Calls Try.prog 3 #[] w fun e w' => e = .returned (.bool true) ∧ Below w.heap.size w w' := by
  have hmk : ∀ w : World, (Instr.makeSlice 30 (.int .i64 101) (.int .i64 101)).run Try.prog w = .ok (.slice (some ⟨w.heap.size, 0, none⟩) 101 101) (w.alloc (.cells (madeCells #[.slice none 0 0] 101) 29)) := fun w =>
    run_make_row' 30 29 (.slice none 0 0) 24 Try.underlying30 info_bools rfl _ _ 101 (by omega) (by omega) w
  go_enter Try.func3, Try.ntmps3
  go_upto_region 2 with (fail)
  go_cut [2] (fun u2 wx => u2 = .pointer (some ⟨w.heap.size + 1 + 1 + 1 + 1 + 1 + 1 + 1 + 1 + 1, 0, none⟩) ∧ NAt wx w.heap.size ∧ Below w.heap.size w wx)
  case first =>
    go_wp2
    go_meet
    exact ⟨rfl, ⟨((((((((((Has.new' _ _ (by simp)).al _).al _).al _).al _).al _).al _).al _).al _).al _), (((((((((Has.new' _ _ (by simp)).al _).al _).al _).al _).al _).al _).al _).al _), ((((((((Has.new' _ _ (by simp)).al _).al _).al _).al _).al _).al _).al _), (((((((Has.new' _ _ (by simp)).al _).al _).al _).al _).al _).al _), ((((((Has.new' _ _ (by simp)).al _).al _).al _).al _).al _), (((((Has.new' _ _ (by simp)).al _).al _).al _).al _), ((((Has.new' _ _ (by simp)).al _).al _).al _), (((Has.new' _ _ (by simp)).al _).al _), ((Has.new' _ _ (by simp)).al _), (Has.new' _ _ (by simp))⟩, by go_grown⟩
  case rest =>
    obtain ⟨rfl, hN0, hB0⟩ := hcut
    obtain ⟨x0, x1, x2, x3, x4, x5, x6, xz⟩ := hN0.cells
    go_wp2_with (first
      | (go_at_call 4; (with_reducible refine (nStates _ _ hN0).mono ?_); rintro e w1 ⟨A3, k3, rfl, hS1, hb1⟩; have hK1 : NK w w1 A3 := ⟨Below.step hB0 hB0.size hb1, hN0.to hb1, hS1⟩; clear x0 x1 x2 x3 x4 x5 x6 xz; obtain ⟨x0, x1, x2, x3, x4, x5, x6, xz⟩ := hK1.n.cells)
      | (go_at_call 5; (with_reducible refine (nRight _ _ hK1.n).mono ?_); rintro e w2 ⟨rfl, hb2⟩; have hK2 := hK1.to hb2; clear x0 x1 x2 x3 x4 x5 x6 xz; obtain ⟨x0, x1, x2, x3, x4, x5, x6, xz⟩ := hK2.n.cells)
      | (go_at_call 6; (with_reducible refine (nWitness _ _ hK2.n).mono ?_); rintro e w3 ⟨rfl, hb3⟩; have hK3 := hK2.to hb3; clear x0 x1 x2 x3 x4 x5 x6 xz; obtain ⟨x0, x1, x2, x3, x4, x5, x6, xz⟩ := hK3.n.cells))
    go_cut [9] (fun u9 wx => ∃ b9, u9 = .pointer (some ⟨b9, 0, none⟩) ∧ Has wx b9 32 #[.slice (some ⟨w.heap.size + 1 + 1 + 1 + 1, 0, none⟩) 3 3, .slice (some ⟨w.heap.size + 1 + 1 + 1 + 1 + 1 + 1 + 1 + 1, 0, none⟩) 2 3] ∧ NK w wx A3)
    case first =>
      have hS0 : (fun w' : World => w'.cell? ⟨w.heap.size + 1 + 1 + 1 + 1 + 1 + 1 + 1 + 1 + 1, 0, none⟩ = some (.slice (some ⟨w.heap.size + 1 + 1 + 1 + 1, 0, none⟩) 3 3) ∧ w'.cell? ⟨w.heap.size + 1 + 1 + 1 + 1 + 1 + 1 + 1 + 1 + 1, 1, none⟩ = some (.slice (some ⟨w.heap.size + 1 + 1 + 1 + 1 + 1 + 1 + 1 + 1, 0, none⟩) 3 3)) w3.drew := ⟨x5, x6⟩
      refine wp_slots (fun f => Sz f 268 ∧ Slot f 2 (.pointer (some ⟨w.heap.size + 1 + 1 + 1 + 1 + 1 + 1 + 1 + 1 + 1, 0, none⟩))) ⟨⟨rfl, rfl⟩, ⟨rfl⟩⟩ fun a0 hA0 hR => ?_
      obtain ⟨hZ, hs2⟩ := hR
      have HA := Lib.hid hA0
      clear hA0
      refine wp_region_T (fun w' : World => w'.cell? ⟨w.heap.size + 1 + 1 + 1 + 1 + 1 + 1 + 1 + 1 + 1, 0, none⟩ = some (.slice (some ⟨w.heap.size + 1 + 1 + 1 + 1, 0, none⟩) 3 3) ∧ w'.cell? ⟨w.heap.size + 1 + 1 + 1 + 1 + 1 + 1 + 1 + 1 + 1, 1, none⟩ = some (.slice (some ⟨w.heap.size + 1 + 1 + 1 + 1 + 1 + 1 + 1 + 1, 0, none⟩) 3 3)) 7 (by kernel_rfl) ?_
      refine WT.h ?_
      (refine wt_take1 0 2 (v := ?_) rfl rfl (by kernel_rfl) (by kernel_rfl) (by kernel_rfl) (by kernel_rfl) (fun _ _ _ h => h) rfl hS0 (by (repeat (first | (refine slot_hit (N := 268) ?_ (by rfl); (repeat (refine sz_put ?_)); assumption; done) | (apply slot_miss; focus rfl))); all_goals assumption) (fun ev hk hv0 w hS => ?_) ?_; rotate_left; focus (obtain ⟨j0, j1⟩ := hS; go_simp; rfl)); (refine wt_take1 1 68 (v := ?_) rfl rfl (by kernel_rfl) (by kernel_rfl) (by kernel_rfl) (by kernel_rfl) (fun _ _ _ h => h) rfl hS0 (by (repeat (first | (refine slot_hit (N := 268) ?_ (by rfl); (repeat (refine sz_put ?_)); assumption; done) | (apply slot_miss; focus rfl))); all_goals assumption) (fun ev hk hv0 w hS => ?_) ?_; rotate_left; focus (obtain ⟨j0, j1⟩ := hS; go_simp; rfl)); (refine wt_take1 2 2 (v := ?_) rfl rfl (by kernel_rfl) (by kernel_rfl) (by kernel_rfl) (by kernel_rfl) (fun _ _ _ h => h) rfl hS0 (by (repeat (first | (refine slot_hit (N := 268) ?_ (by rfl); (repeat (refine sz_put ?_)); assumption; done) | (apply slot_miss; focus rfl))); all_goals assumption) (fun ev hk hv0 w hS => ?_) ?_; rotate_left; focus (obtain ⟨j0, j1⟩ := hS; go_simp; rfl)); (refine wt_take1 3 70 (v := ?_) rfl rfl (by kernel_rfl) (by kernel_rfl) (by kernel_rfl) (by kernel_rfl) (fun _ _ _ h => h) rfl hS0 (by (repeat (first | (refine slot_hit (N := 268) ?_ (by rfl); (repeat (refine sz_put ?_)); assumption; done) | (apply slot_miss; focus rfl))); all_goals assumption) (fun ev hk hv0 w hS => ?_) ?_; rotate_left; focus (obtain ⟨j0, j1⟩ := hS; go_simp; rfl)); (refine wt_take1 4 71 (v := ?_) rfl rfl (by kernel_rfl) (by kernel_rfl) (by kernel_rfl) (by kernel_rfl) (fun _ _ _ h => h) rfl hS0 (by (repeat (first | (refine slot_hit (N := 268) ?_ (by rfl); (repeat (refine sz_put ?_)); assumption; done) | (apply slot_miss; focus rfl))); all_goals assumption) (fun ev hk hv0 w hS => ?_) ?_; rotate_left; focus (obtain ⟨j0, j1⟩ := hS; go_simp; rfl)); (refine wt_take2 5 69 72 (v := ?_) rfl rfl (by kernel_rfl) (by kernel_rfl) (by kernel_rfl) (by kernel_rfl) (fun _ _ _ h => h) rfl hS0 (by (repeat (first | (refine slot_hit (N := 268) ?_ (by rfl); (repeat (refine sz_put ?_)); assumption; done) | (apply slot_miss; focus rfl))); all_goals assumption) (by (repeat (first | (refine slot_hit (N := 268) ?_ (by rfl); (repeat (refine sz_put ?_)); assumption; done) | (apply slot_miss; focus rfl))); all_goals assumption) (fun ev hk hv0 hv1 w hS => ?_) ?_; rotate_left; focus (obtain ⟨j0, j1⟩ := hS; go_simp; rfl))
      refine wt_val0 6  (by kernel_rfl) rfl rfl rfl  (v := ?_) (w' := ?_) (fun ev hk  => ?_) ?_; rotate_left 2; focus (go_simp; first | rfl | (constructor <;> rfl))
      refine ⟨fun _ => ⟨ca hS0.1 _, ca hS0.2 _⟩, ?_⟩
      refine wt_act2 7 9 73 (by kernel_rfl) rfl rfl rfl (by (repeat (first | (refine slot_hit (N := 268) ?_ (by rfl); (repeat (refine sz_put ?_)); assumption; done) | (apply slot_miss; focus rfl))); all_goals assumption) (by (repeat (first | (refine slot_hit (N := 268) ?_ (by rfl); (repeat (refine sz_put ?_)); assumption; done) | (apply slot_miss; focus rfl))); all_goals assumption) (w' := ?_) (fun ev hk hv0 hv1 => ?_) ?_; rotate_left; focus (go_simp; rfl)
      refine ⟨fun h => absurd h (by decide), ?_⟩
      refine wt_done (by kernel_rfl) (NoPanic.normal ?_) _
      have ha := HA.out
      subst ha
      clear hZ hs2 hS0
      go_wp2
      go_meet
      exact ⟨_, rfl, (Has.new' w3 _ rfl : Has (w3.alloc _) _ _ _), (hK3.al _).dn⟩
    case rest =>
      obtain ⟨b9, rfl, hT9, hK4⟩ := hcut
      clear x0 x1 x2 x3 x4 x5 x6 xz
      obtain ⟨x0, x1, x2, x3, x4, x5, x6, xz⟩ := hK4.n.cells
      have z0 := hT9.cell 0
      have z1 := hT9.cell 1
      have z2 := hT9.lt
      clear hT9
      go_wp2_with (first
        | (go_at_call 6; (with_reducible refine (nWitness2 _ _ hK4.n).mono ?_); rintro e w5 ⟨rfl, hb5⟩; have hK5 := hK4.to hb5; clear x0 x1 x2 x3 x4 x5 x6 xz z0 z1 z2; obtain ⟨x0, x1, x2, x3, x4, x5, x6, xz⟩ := hK5.n.cells)
        | (go_at_call 7; (with_reducible refine (nCut _ _ hK5.n).mono ?_); rintro e w6 ⟨A12, n12, k12, B12, l12, rfl, hb6⟩; have hK6 := hK5.to hb6; clear x0 x1 x2 x3 x4 x5 x6 xz))
      go_loopw [16] (fun i wr => ∃ q : Nat, q ≤ 3 ∧ i = .int .i64 q ∧ NK2 w wr A3 w6.heap.size #[.slice A12 n12 k12, .slice B12 1 l12] (w6.heap.size + 1 + 1 + 1 + 1) (w6.heap.size + 1 + 1 + 1 + 1 + 1)) (fun i _ => 3 - (intOf i).toNat)
      case atStart =>
        refine ⟨0, by omega, rfl, ⟨(((((hK6.al _).al _).al _).al _).al _).al _, (((((Has.new' _ _ rfl).al _).al _).al _).al _).al _, nF_rows ((((Has.new' _ _ (by simp)).al _).al _).al _ |>.al _) (((Has.new' _ _ (by simp)).al _).al _ |>.al _) ((Has.new' _ _ (by simp)).al _ |>.al _) ((Has.new' _ _ (by simp)).al _), bls_of_has (Has.new' _ _ (by simp)) fun j hj => by rcases lt3n hj with rfl | rfl | rfl <;> rfl⟩⟩
      case round =>
        clear hK6
        obtain ⟨q, hq, rfl, hK⟩ := hrel
        obtain ⟨x0, x1, x2, x3, x4, x5, x6, xz⟩ := hK.k.n.cells
        by_cases hlt : q < 3
        · obtain ⟨a, hA, hab, hcs⟩ := hK.f (by omega)
          cases hA
          obtain ⟨A', k', y0, hA', _⟩ := hcs q hlt
          have e0 : (⟨w6.heap.size + 1 + 1 + 1 + 1, 0, none⟩ : Addr).add q = ⟨w6.heap.size + 1 + 1 + 1 + 1, q, none⟩ := by unfold Addr.add; split <;> simp_all
          rw [e0] at y0
          obtain ⟨x, hx⟩ : ∃ x, x = decide (q = 0) := ⟨_, rfl⟩
          have HF := Lib.hid (fun (W : World) (hW : NAt W w.heap.size) (h : BlsAt W W.heap.size A' 3 (nF q)) => nFirst w.heap.size W hW q hlt A' k' h)
          have HX := Lib.hid hx
          have hq0 : (0 : Int) ≤ (q : Int) := by omega
          have hq1 : (q : Int) < 3 := by omega
          have hq2 : q < 3 := hlt
          clear hcs e0 hx
          go_wp2
          go_cut [17, 18] (fun u17 u18 wx => u17 = .bool x ∧ u18 = .int .i64 0 ∧ NK2 w wx A3 w6.heap.size #[.slice A12 n12 k12, .slice B12 1 l12] (w6.heap.size + 1 + 1 + 1 + 1) (w6.heap.size + 1 + 1 + 1 + 1 + 1))
          case first =>
            have hS0 : (fun w' : World => (w'.cell? ⟨w.heap.size + 1 + 1 + 1, 0, none⟩ = some (.int .i64 1) ∧ w'.cell? ⟨w.heap.size + 1 + 1 + 1, 1, none⟩ = some (.slice (some ⟨w.heap.size, 0, none⟩) 3 3) ∧ w'.cell? ⟨w.heap.size + 1 + 1 + 1, 2, none⟩ = some (.slice none 0 0) ∧ w'.cell? ⟨w.heap.size + 1 + 1 + 1, 3, none⟩ = some (.slice (some ⟨w.heap.size + 1, 0, none⟩) 3 3) ∧ w'.cell? ⟨w.heap.size + 1 + 1 + 1, 4, none⟩ = some (.slice (some ⟨w.heap.size + 1 + 1, 0, none⟩) 1 1)) ∧ w'.cell? ⟨w6.heap.size + 1 + 1 + 1 + 1, q, none⟩ = some (.slice A' 3 k')) wr.drew := ⟨⟨x0, x1, x2, x3, x4⟩, y0⟩
            refine wp_slots (fun f => Sz f 268 ∧ Slot f 1 (.pointer (some ⟨w.heap.size + 1 + 1 + 1, 0, none⟩)) ∧ Slot f 14 (.slice (some ⟨w6.heap.size + 1 + 1 + 1 + 1, 0, none⟩) 3 3) ∧ Slot f 16 (.int .i64 (q : Int))) ⟨⟨rfl, rfl⟩, ⟨rfl⟩, ⟨rfl⟩, ⟨rfl⟩⟩ fun a0 hA0 hR => ?_
            obtain ⟨hZ, hs1, hs14, hs16⟩ := hR
            have HA := Lib.hid hA0
            clear hA0 x0 x1 x2 x3 x4 x5 x6 xz y0
            refine wp_region_T (fun w' : World => (w'.cell? ⟨w.heap.size + 1 + 1 + 1, 0, none⟩ = some (.int .i64 1) ∧ w'.cell? ⟨w.heap.size + 1 + 1 + 1, 1, none⟩ = some (.slice (some ⟨w.heap.size, 0, none⟩) 3 3) ∧ w'.cell? ⟨w.heap.size + 1 + 1 + 1, 2, none⟩ = some (.slice none 0 0) ∧ w'.cell? ⟨w.heap.size + 1 + 1 + 1, 3, none⟩ = some (.slice (some ⟨w.heap.size + 1, 0, none⟩) 3 3) ∧ w'.cell? ⟨w.heap.size + 1 + 1 + 1, 4, none⟩ = some (.slice (some ⟨w.heap.size + 1 + 1, 0, none⟩) 1 1)) ∧ w'.cell? ⟨w6.heap.size + 1 + 1 + 1 + 1, q, none⟩ = some (.slice A' 3 k')) 11 (by kernel_rfl) ?_
            refine WT.h ?_
            (refine wt_take1 0 1 (v := ?_) rfl rfl (by kernel_rfl) (by kernel_rfl) (by kernel_rfl) (by kernel_rfl) (fun _ _ _ h => h) rfl hS0 (by (repeat (first | (refine slot_hit (N := 268) ?_ (by rfl); (repeat (refine sz_put ?_)); assumption; done) | (apply slot_miss; focus rfl))); all_goals assumption) (fun ev hk hv0 w hS => ?_) ?_; rotate_left; focus (obtain ⟨⟨j0, j1, j2, j3, j4⟩, j5⟩ := hS; go_simp; rfl)); (refine wt_move 1 14 rfl rfl (by kernel_rfl) (by kernel_rfl) (by kernel_rfl) (by kernel_rfl) (fun _ _ _ h => h) rfl hS0 (by (repeat (first | (refine slot_hit (N := 268) ?_ (by rfl); (repeat (refine sz_put ?_)); assumption; done) | (apply slot_miss; focus rfl))); all_goals assumption) rfl ?_); (refine wt_move 2 16 rfl rfl (by kernel_rfl) (by kernel_rfl) (by kernel_rfl) (by kernel_rfl) (fun _ _ _ h => h) rfl hS0 (by (repeat (first | (refine slot_hit (N := 268) ?_ (by rfl); (repeat (refine sz_put ?_)); assumption; done) | (apply slot_miss; focus rfl))); all_goals assumption) rfl ?_); (refine wt_take2 3 97 98 (v := ?_) rfl rfl (by kernel_rfl) (by kernel_rfl) (by kernel_rfl) (by kernel_rfl) (fun _ _ _ h => h) rfl hS0 (by (repeat (first | (refine slot_hit (N := 268) ?_ (by rfl); (repeat (refine sz_put ?_)); assumption; done) | (apply slot_miss; focus rfl))); all_goals assumption) (by (repeat (first | (refine slot_hit (N := 268) ?_ (by rfl); (repeat (refine sz_put ?_)); assumption; done) | (apply slot_miss; focus rfl))); all_goals assumption) (fun ev hk hv0 hv1 w hS => ?_) ?_; rotate_left; focus (obtain ⟨⟨j0, j1, j2, j3, j4⟩, j5⟩ := hS; go_simp; rfl)); (refine wt_take1 4 99 (v := ?_) rfl rfl (by kernel_rfl) (by kernel_rfl) (by kernel_rfl) (by kernel_rfl) (fun _ _ _ h => h) rfl hS0 (by (repeat (first | (refine slot_hit (N := 268) ?_ (by rfl); (repeat (refine sz_put ?_)); assumption; done) | (apply slot_miss; focus rfl))); all_goals assumption) (fun ev hk hv0 w hS => ?_) ?_; rotate_left; focus (obtain ⟨⟨j0, j1, j2, j3, j4⟩, j5⟩ := hS; go_simp; rfl))
            refine wt_call2 5 96 100 (by kernel_rfl) rfl rfl rfl (by (repeat (first | (refine slot_hit (N := 268) ?_ (by rfl); (repeat (refine sz_put ?_)); assumption; done) | (apply slot_miss; focus rfl))); all_goals assumption) (by (repeat (first | (refine slot_hit (N := 268) ?_ (by rfl); (repeat (refine sz_put ?_)); assumption; done) | (apply slot_miss; focus rfl))); all_goals assumption) (f := ?_) (args := ?_) (fun ev hk hkf hv0 hv1 => ?_) ?_; rotate_left 2; focus (go_simp; first | rfl | (constructor <;> rfl))
            have hbd : Below wr.heap.size wr wr.drew := below_dn (Below.refl _ _) 1
            have hKd := hK.to hbd
            (with_reducible refine (HF.out wr.drew hKd.k.n (hA'.to hbd (Nat.le_refl _))).mono ?_)
            rintro e w7 ⟨rfl, hb7⟩
            have hK7 := hKd.to hb7
            have hS1 := hS0
            have hS0 : (fun w' : World => (w'.cell? ⟨w.heap.size + 1 + 1 + 1, 0, none⟩ = some (.int .i64 1) ∧ w'.cell? ⟨w.heap.size + 1 + 1 + 1, 1, none⟩ = some (.slice (some ⟨w.heap.size, 0, none⟩) 3 3) ∧ w'.cell? ⟨w.heap.size + 1 + 1 + 1, 2, none⟩ = some (.slice none 0 0) ∧ w'.cell? ⟨w.heap.size + 1 + 1 + 1, 3, none⟩ = some (.slice (some ⟨w.heap.size + 1, 0, none⟩) 3 3) ∧ w'.cell? ⟨w.heap.size + 1 + 1 + 1, 4, none⟩ = some (.slice (some ⟨w.heap.size + 1 + 1, 0, none⟩) 1 1)) ∧ w'.cell? ⟨w6.heap.size + 1 + 1 + 1 + 1, q, none⟩ = some (.slice A' 3 k')) w7 := by
              obtain ⟨c0, c1, c2, c3, c4, _⟩ := hK7.k.n.cells
              exact ⟨⟨c0, c1, c2, c3, c4⟩, (hb7.cell (cell_lt hS1.2)).trans hS1.2⟩
            clear hS1
            refine ⟨_, rfl, fun _ => hS0, ?_⟩
            (refine wt_move 6 101 rfl rfl (by kernel_rfl) (by kernel_rfl) (by kernel_rfl) (by kernel_rfl) (fun _ _ _ h => h) rfl hS0 (by (repeat (first | (refine slot_hit (N := 268) ?_ (by rfl); (repeat (refine sz_put ?_)); assumption; done) | (apply slot_miss; focus rfl))); all_goals assumption) rfl ?_); (refine wt_take1 7 95 (v := ?_) rfl rfl (by kernel_rfl) (by kernel_rfl) (by kernel_rfl) (by kernel_rfl) (fun _ _ _ h => h) rfl hS0 (by (repeat (first | (refine slot_hit (N := 268) ?_ (by rfl); (repeat (refine sz_put ?_)); assumption; done) | (apply slot_miss; focus rfl))); all_goals assumption) (fun ev hk hv0 w hS => ?_) ?_; rotate_left; focus (obtain ⟨⟨j0, j1, j2, j3, j4⟩, j5⟩ := hS; go_simp; rfl)); (refine wt_take1 8 95 (v := ?_) rfl rfl (by kernel_rfl) (by kernel_rfl) (by kernel_rfl) (by kernel_rfl) (fun _ _ _ h => h) rfl hS0 (by (repeat (first | (refine slot_hit (N := 268) ?_ (by rfl); (repeat (refine sz_put ?_)); assumption; done) | (apply slot_miss; focus rfl))); all_goals assumption) (fun ev hk hv0 w hS => ?_) ?_; rotate_left; focus (obtain ⟨⟨j0, j1, j2, j3, j4⟩, j5⟩ := hS; go_simp; rfl)); (refine wt_assign 9 102 rfl rfl (by kernel_rfl) (by kernel_rfl) (by kernel_rfl) (by kernel_rfl) (fun _ _ _ h => h) rfl hS0 (by (repeat (first | (refine slot_hit (N := 268) ?_ (by rfl); (repeat (refine sz_put ?_)); assumption; done) | (apply slot_miss; focus rfl))); all_goals assumption) rfl ?_); (refine wt_assign 10 103 rfl rfl (by kernel_rfl) (by kernel_rfl) (by kernel_rfl) (by kernel_rfl) (fun _ _ _ h => h) rfl hS0 (by (repeat (first | (refine slot_hit (N := 268) ?_ (by rfl); (repeat (refine sz_put ?_)); assumption; done) | (apply slot_miss; focus rfl))); all_goals assumption) rfl ?_)
            refine wt_done (by kernel_rfl) (NoPanic.normal ?_) _
            have ha := HA.out
            subst ha
            clear hZ hs1 hs14 hs16 hS0
            go_wp2
            go_meet
            exact ⟨by rw [HX.out], rfl, hK7⟩
          case rest =>
            obtain ⟨rfl, rfl, hK8⟩ := hcut
            clear x0 x1 x2 x3 x4 x5 x6 xz y0
            obtain ⟨a2, ha2, _, hc2⟩ := hK8.t (by omega)
            cases ha2
            have e1 : (⟨w6.heap.size + 1 + 1 + 1 + 1 + 1, 0, none⟩ : Addr).add q = ⟨w6.heap.size + 1 + 1 + 1 + 1 + 1, q, none⟩ := by unfold Addr.add; split <;> simp_all
            have y1 : wc.cell? ((⟨w6.heap.size + 1 + 1 + 1 + 1 + 1, 0, none⟩ : Addr).add q) = some (.bool (decide (q = 0))) := hc2 q hlt
            rw [e1, ← HX.out] at y1
            clear hc2 e1
            go_wp2
            go_roundw
            case rel => exact ⟨q + 1, by omega, by go_num, hK8⟩
            case measure => simp [intOf]; omega
        · obtain ⟨q3, hqe⟩ : ∃ q3, q3 = q := ⟨_, rfl⟩
          subst hqe
          have hqn : ¬ (q3 : Int) < 3 := by omega
          clear hq hlt x0 x1 x2 x3 x4 x5 x6 xz
          go_wp2
          go_loopw [19] (fun i wx => ∃ q : Nat, q ≤ 6 ∧ i = .int .i64 q ∧ NK2 w wx A3 w6.heap.size #[.slice A12 n12 k12, .slice B12 1 l12] (w6.heap.size + 1 + 1 + 1 + 1) (w6.heap.size + 1 + 1 + 1 + 1 + 1)) (fun i _ => 6 - (intOf i).toNat)
          case atStart => exact ⟨0, by omega, rfl, hK⟩
          case round =>
            clear hK hqn
            obtain ⟨q, hq, rfl, hK⟩ := hrel
            by_cases hlt : q < 6
            · obtain ⟨x0, x1, x2, x3, x4, x5, x6, xz⟩ := hK.k.n.cells
              go_upto_block 4 with (go_at_call 9; (with_reducible refine (nTwin _ hK.k.n).mono ?_); rintro e w4 ⟨g, k, g2, k2, rfl, hT⟩; obtain ⟨⟨c0, f0⟩, ⟨c1, f1⟩, v2, c2, f2⟩ := hT.cells; have gc0 : ∀ o : Obj, (w4.alloc o).cell? ⟨g, 0, none⟩ = some (.bool false) := ca c0; have gf0 : ∀ o : Obj, (w4.alloc o).frozen? ⟨g, 0, none⟩ = false := (fun o => (hT.al o).cells.1.2); have gc1 : ∀ o : Obj, (w4.alloc o).cell? ⟨g, 1, none⟩ = some (.bool true) := ca c1; have gf1 : ∀ o : Obj, (w4.alloc o).frozen? ⟨g, 1, none⟩ = false := (fun o => (hT.al o).cells.2.1.2); have gc2 : ∀ o o' : Obj, ((w4.alloc o).alloc o').cell? ⟨g2, 2, none⟩ = some v2 := (fun o o' => ca (ca c2 o) o'); have gf2 : ∀ o o' : Obj, ((w4.alloc o).alloc o').frozen? ⟨g2, 2, none⟩ = false := (fun o o' => (((hT.al o).al o').cells.2.2.choose_spec.2)); clear x0 x1 x2 x3 x4 x5 x6 xz c0 f0 c1 f1 c2 f2)
              go_cut [21] (fun u21 wx => ∃ t, u21 = .int .i64 (nW q) ∧ TMem wx wx.heap.size (nV q) t ∧ Has wx w4.heap.size 32 #[.slice t.A1 (nV q).nf t.k1, .slice t.A2 (nV q).ni t.k2] ∧ NK2 w wx A3 w6.heap.size #[.slice A12 n12 k12, .slice B12 1 l12] (w6.heap.size + 1 + 1 + 1 + 1) (w6.heap.size + 1 + 1 + 1 + 1 + 1))
              case first =>
                have hqq : q = 0 ∨ q = 1 ∨ q = 2 ∨ q = 3 ∨ q = 4 ∨ q = 5 := by omega
                obtain ⟨hg1, hg2, hg3, hg4, _, ⟨hk1, hk2⟩, hk3, hk4⟩ := hT.ge
                have HT := Lib.hid hT
                have HG := Lib.hid (And.intro hg1 (And.intro hg2 (And.intro hg3 hg4)))
                have hk5 : (3 : Int) ≤ (k : Int) := by omega
                have hk6 : (3 : Int) ≤ (k2 : Int) := by omega
                clear hq hlt hT hg1 hg2 hg3 hg4
                rcases hqq with rfl | rfl | rfl | rfl | rfl | rfl
                · go_wp2
                  go_meet
                  exact ⟨_, rfl, (HT.out.al _).v0, Has.new' _ _ rfl, hK.to (HT.out.al _).b⟩
                · go_wp2
                  go_meet
                  exact ⟨_, rfl, (HT.out.al _).v1, (Has.new' _ _ rfl).far (q := ⟨g, 0, none⟩) (Nat.ne_of_gt HG.out.2.2.1) _, hK.to ((HT.out.al _).b.setCell (show wr.heap.size ≤ (⟨g, 0, none⟩ : Addr).block from HG.out.1) _)⟩
                · go_wp2
                  go_meet
                  exact ⟨_, rfl, (HT.out.al _).v2, (Has.new' _ _ rfl).far (q := ⟨g, 1, none⟩) (Nat.ne_of_gt HG.out.2.2.1) _, hK.to ((HT.out.al _).b.setCell (show wr.heap.size ≤ (⟨g, 1, none⟩ : Addr).block from HG.out.1) _)⟩
                · go_wp2
                  go_meet
                  exact ⟨_, rfl, (HT.out.al _).v3, Has.new' _ _ rfl, hK.to (HT.out.al _).b⟩
                · go_wp2
                  go_meet
                  exact ⟨_, rfl, ((HT.out.al _).al _).v4 (Has.new' _ _ (by simp)) (by have := HG.out.2.2.2; omega), ((Has.new' _ _ rfl).al _).far (q := ⟨g2, 2, none⟩) (Nat.ne_of_gt HG.out.2.2.2) _, hK.to (((HT.out.al _).al _).b.setCell (show wr.heap.size ≤ (⟨g2, 2, none⟩ : Addr).block from HG.out.2.1) _)⟩
                · go_wp2
                  go_meet
                  exact ⟨_, rfl, (HT.out.al _).v5 (by simp), (Has.new' _ _ rfl).al _, hK.to ((HT.out.al _).al _).b⟩
              case rest =>
                obtain ⟨t, rfl, hM, hX, hK5⟩ := hcut
                clear hK hT gc0 gf0 gc1 gf1 gc2 gf2
                obtain ⟨x0, x1, x2, x3, x4, x5, x6, xz⟩ := hK5.k.n.cells
                have xc : w.heap.size + 1 + 1 + 1 < wc.heap.size := by omega
                have z0 := hX.cell 0
                have z1 := hX.cell 1
                have z2 := hX.lt
                go_wp2_with (first
                  | (go_at_call 4; (with_reducible refine (vStates hlt _ hK5.k.n hM).mono ?_); rintro e w61 ⟨A6, n6, k6, rfl, hb61⟩; have hK61 := hK5.to hb61; have hM61 := hM.to hb61 hb61.size; have hX61 := hX.keep hb61 hX.lt; clear x0 x1 x2 x3 x4 x5 x6 xz xc z0 z1 z2; obtain ⟨x0, x1, x2, x3, x4, x5, x6, xz⟩ := hK61.k.n.cells; have xc : w.heap.size + 1 + 1 + 1 < w61.heap.size := (by omega); have z0 := hX61.cell 0; have z1 := hX61.cell 1; have z2 := hX61.lt)
                  | (go_at_call 5; (with_reducible refine (vRight hlt _ hK61.k.n hM61).mono ?_); rintro e w71 ⟨r7, rfl, hb71⟩; have hK71 := hK61.to hb71; have hM71 := hM61.to hb71 hb71.size; have hX71 := hX61.keep hb71 hX61.lt; clear x0 x1 x2 x3 x4 x5 x6 xz xc z0 z1 z2; obtain ⟨x0, x1, x2, x3, x4, x5, x6, xz⟩ := hK71.k.n.cells; have xc : w.heap.size + 1 + 1 + 1 < w71.heap.size := (by omega); have z0 := hX71.cell 0; have z1 := hX71.cell 1; have z2 := hX71.lt)
                  | (go_at_call 6; (with_reducible refine (vWitness hlt _ hK71.k.n hM71).mono ?_); rintro e w81 ⟨r8, rfl, hb81⟩; have hK81 := hK71.to hb81; have hM81 := hM71.to hb81 hb81.size; have hX81 := hX71.keep hb81 hX71.lt; clear x0 x1 x2 x3 x4 x5 x6 xz xc z0 z1 z2; obtain ⟨x0, x1, x2, x3, x4, x5, x6, xz⟩ := hK81.k.n.cells; have xc : w.heap.size + 1 + 1 + 1 < w81.heap.size := (by omega); have z0 := hX81.cell 0; have z1 := hX81.cell 1; have z2 := hX81.lt)
                  | (go_at_call 7; (with_reducible refine (vCut hlt _ hK81.k.n hM81).mono ?_); rintro e w91 ⟨A9, n9, k9, B9, m9, l9, rfl, hb91⟩; have hK91 := hK81.to hb91; have hM91 := hM81.to hb91 hb91.size; have hX91 := hX81.keep hb91 hX81.lt; clear x0 x1 x2 x3 x4 x5 x6 xz xc z0 z1 z2; obtain ⟨x0, x1, x2, x3, x4, x5, x6, xz⟩ := hK91.k.n.cells; have xc : w.heap.size + 1 + 1 + 1 < w91.heap.size := (by omega); have z0 := hX91.cell 0; have z1 := hX91.cell 1; have z2 := hX91.lt)
                  | (go_at_call 10; (with_reducible refine (vCheck hlt _ (hK91.k.al _).n (hM91.to ((Below.refl _ _).alloc (Nat.le_refl _) _) (by simp))).mono ?_); rintro e w95 ⟨rfl, hb95⟩; have hK95 := (hK91.to ((Below.refl _ _).alloc (Nat.le_refl _) _)).to hb95))
                go_roundw
                case rel => exact ⟨q + 1, by omega, by go_num, hK95⟩
                case measure => simp [intOf]; omega
            · obtain rfl : q = 6 := by omega
              clear hq hlt
              obtain ⟨x0, x1, x2, x3, x4, x5, x6, xz⟩ := hK.k.n.cells
              go_wp2_with (first
                | (go_at_call 8; (with_reducible refine (nFirst0 _ _ hK.k.n).mono ?_); rintro e w21 ⟨r21, rfl, hb21⟩; have hK21 := hK.to hb21)
                | (go_at_call 8; (with_reducible refine (nFirstB _).mono ?_); rintro e w22 ⟨r22, rfl, hb22⟩; have hK22 := hK21.to hb22)
                | (go_at_call 11; (with_reducible refine (ex6_any _).mono ?_); rintro e w23 ⟨p23, rfl, hm23, hb23⟩; have hK23 := hK22.to hb23)
                | (go_at_call 12; (with_reducible refine (run_at 1 i1 (by omega) _).mono ?_); rintro e w24 ⟨q24, rfl, ht24, hb24⟩; have hK24 := hK23.to hb24)
                | (go_at_call 7; (with_reducible refine (nNone _ _ _ (hm23.to hb24 hb24.size) ht24).mono ?_); rintro e w25 ⟨A25, n25, k25, B25, m25, l25, rfl, hb25⟩; have hK25 := hK24.to hb25)
                | (go_at_call 13; (with_reducible refine (nSame _ A3 _ k3 _ (((((hK25.k.al _).al _).al _).al _).al _).s (nS_rows ((((Has.new' _ _ (by simp)).al _).al _).al _) (((Has.new' _ _ (by simp)).al _).al _) ((Has.new' _ _ (by simp)).al _) (Has.new' _ _ (by simp)))).mono ?_); rintro e w26 ⟨rfl, hb26⟩; have hK26 : NK2 w w26 A3 w6.heap.size #[.slice A12 n12 k12, .slice B12 1 l12] (w6.heap.size + 1 + 1 + 1 + 1) (w6.heap.size + 1 + 1 + 1 + 1 + 1) := (hK25.to (by go_grown)).to hb26; have c1 := hK26.c.cell 1; have c2 := hK26.c.lt)
                | (go_at_call 14; (with_reducible refine (alive6_any _).mono ?_); rintro e w27 ⟨rfl, hb27⟩; have hK27 := hK26.to hb27))
              go_ret
              exact ⟨rfl, hK27.k.b⟩

set_option maxRecDepth 100000 in
theorem lifted (os : Os) (started : os.Started) (H : Type) (enc : TypeId × Value → H) :
    ReturnsInHanded {} Try.checked os 3 .any (Rows.tracesNamesSpec.pre6 enc Try.prog Try.f3 Rows.tracesNamesRow.domain false) (Rows.tracesNamesSpec.post enc Try.prog Try.f3 false true false false) := by
  refine returnsInHanded_of_change (C := Try.checked) own started (by kernel_rfl) Try.func3
    (ChangeSpec.witness6 (enc := enc) (C := Try.checked) false ⟨#[], #[], []⟩ 12 (by kernel_rfl) (by kernel_rfl) (by kernel_rfl) (by kernel_rfl)) ?_
  intro W base args ds gs before hval0 hW hcnd _
  have hval : ∀ (j : Nat) t v, Try.f3.params[j]? = some t → args[j]? = some v → Value.okWide Try.prog W .any base t v := hval0
  have hW' := hW
  have hlt : ∀ x ∈ before, x.block < W.heap.size := fun x hx => by simpa using hW'.lt x hx
  obtain ⟨p, q, hA0, hV, rfl, hfz, hnd⟩ := hW
  have hA : DataW.TrodAll enc Try.prog W 0 (fun _ => true) true Try.f3.params.toList args.toList ds p := hA0
  rw [Try.params3] at hA hval
  
  obtain ⟨ha0, rfl, rfl⟩ := trodAll_nil hA
  obtain rfl : args = #[] := by cases args; simp_all
  obtain ⟨rfl, rfl⟩ := trodVars_none hV
  
  have hlo : laidOutB Try.prog = true := by kernel_rfl
  clear hA0 hval0
  simp only [List.append_nil] at hW' hlt
  refine (walk  W ).mono fun e W' ⟨he, hb⟩ => ?_
  subst he
  exact ⟨_, rfl, law_post hW' (trodAll_cons_mk (shut_bool Try.underlying4 _) trodAll_mk0) trodAll_mk0 rfl hb⟩

theorem over : Rows.tracesNamesRow.holds Try.pinned (OpenSpec.ofChange Rows.tracesNamesSpec) :=
  OpenClaim.holds_of_wide 3 Try.f3 rfl rfl rfl rfl rfl rfl rfl ⟨rfl, rfl, rfl, rfl, rfl⟩ rfl rfl rfl rfl rfl (by kernel_rfl) Try.func3 (by kernel_rfl)
    (of_decide_eq_true (by kernel_rfl)) (by unfold Func.isWrapper; first | (rw [if_pos (by decide +kernel)]; kernel_rfl) | (rw [if_neg (by decide +kernel)]; exact ⟨rfl, rfl⟩))
    (fun os started H enc _ => lifted os started H enc)

theorem proved : Rows.TracesNamesSaid :=
  over
end Go.Proofs.Ytpobkemgbbgolaa.tracesNames
