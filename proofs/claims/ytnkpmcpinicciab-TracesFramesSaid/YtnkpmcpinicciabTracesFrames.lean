/- For all valid circuits and right runs that are not great: the first state is First, each other one the next state of the one before, and a run is allowed up to the first frame in which a constraint is not true. No conditions. -/
import Derived.Test.YtnkpmcpinicciabTraceAlive
import Derived.Test.YtnkpmcpinicciabTraceKit
import Derived.Test.YtnkpmcpinicciabHeadSlot
namespace Go.Proofs.Ytnkpmcpinicciab.tracesFrames
open Go.ChangeShapes Go.WideShapes Go.ChangeAt Go.RowKit
set_option linter.unusedVariables false
set_option linter.unusedSimpArgs false


theorem own : ownKnob Try.prog.godebug = none := by kernel_rfl

set_option maxRecDepth 100000 in
set_option maxHeartbeats 40000000 in
theorem walk (c0 : Cr) (p0 : Pl) (t1 : Tr) (q1 : Tp) (w : World) (hm0 : Mem w w.heap.size c0 p0) (hN0 : Nils c0 p0) (hv0 : Vals c0) (hC0 : Caps c0 p0) (ht1 : TMem w w.heap.size t1 q1) :
    Calls Try.prog 5 #[cv c0 p0, tv t1 q1] w fun e w' => e = .returned (.bool true) ∧ Below w.heap.size w w' := by
  cases hft : ft6 c0 t1
  · go_enter Try.func5, Try.ntmps5
    go_wp2_with (first
      | (go_at_call 26; (with_reducible refine (fit6_any _ (hm0.to (ct_b w c0 p0 t1 q1) (ct_z w c0 p0 t1 q1)) hv0 (ht1.to (ct_b w c0 p0 t1 q1) (ct_z w c0 p0 t1 q1))).mono ?_); rw [hft]; rintro e w1 ⟨rfl, hb1⟩; have hX1 := Bx.first hb1)
      | (go_at_call 18; refine (alive6_any _).mono ?_; rintro e w2 ⟨rfl, hb2⟩; have hX2 := hX1.call hb2))
    go_ret
    exact ⟨rfl, hX2.b⟩
  · obtain ⟨hg, hg1, hk⟩ := ft6_yes hft
    have hgr := Cr.gr_no hg
    have hs : Sm c0 := hv0.sm (by omega) (by omega) (by omega) (by omega)
    have hts := Tr.gr_no hg1
    have hg0 : RArg w w.heap.size c0 p0 t1 q1 := ⟨hm0, hs, ht1, hts⟩
    obtain ⟨hc, hn0, hn1, hnf, hst, hln⟩ := Cr.tck_ok hk
    have hip := ht1.ip
    have hfi := ht1.fi
    have hnl := hs.nl
    obtain ⟨A1, kk1, A2, kk2⟩ := q1
    dsimp only at hip hfi
    obtain ⟨a2, rfl, ha2, hr2⟩ := hip hn0
    obtain ⟨m, hm⟩ : ∃ m, c0.alw t1 = m := ⟨_, rfl⟩
    have hmN : m ≤ t1.ni := by rw [← hm]; exact led_le _ _
    have HM := Lib.hid (show (∀ j, j < m → c0.hol (c0.sts t1 j) (t1.ip j) = true) ∧ (m < t1.ni → c0.hol (c0.sts t1 m) (t1.ip m) = false) by
      rw [← hm]; exact ⟨led_all (c0.hf t1) t1.ni, led_no (c0.hf t1) t1.ni⟩)
    have R1 : Hid (∀ W, RArg W W.heap.size c0 p0 t1 ⟨A1, kk1, some a2, kk2⟩ → Calls Try.prog 9 #[cv c0 p0, tv t1 ⟨A1, kk1, some a2, kk2⟩] W fun e w' => e = .returned (.tuple #[.int .i64 (m : Int), .int .i64 0]) ∧ Below W.heap.size W w') := fun W hW => by
      have := tright_any W hW
      rwa [show c0.rgt t1 = m by unfold Cr.rgt; rw [if_pos hk, hm], hk] at this
    have S1 : Hid (∀ W, RArg W W.heap.size c0 p0 t1 ⟨A1, kk1, some a2, kk2⟩ → Calls Try.prog 8 #[cv c0 p0, tv t1 ⟨A1, kk1, some a2, kk2⟩] W (RowsErr t1.ni (fun _ => c0.nl) (c0.sts t1) 0 W)) := fun W hW => states_yes hk W hW
    have HC := Lib.hid hc
    have HL := Lib.hid hln
    have HR := Lib.hid hr2
    have HN := Lib.hid hnf
    have HFT := Lib.hid hft
    have HS1 := Lib.hid (show samB c0.nl t1.nf (c0.sts t1 0) t1.fi = true by rw [hnf]; exact samB_yes fun _ _ => rfl)
    have d1 : decide ((m : Int) < 0) = false := decide_eq_false (by omega)
    have d2 : decide (t1.ni < m) = false := decide_eq_false (by omega)
    have d2' : decide ((t1.ni : Int) < (m : Int)) = false := decide_eq_false (by omega)
    have d3 : (0 : Int) < (t1.ni : Int) := by omega
    have hnfs : t1.nf ≤ 100000 := by omega
    clear hm hk hc hln hr2 hnf hft hst hip hg hg1
    go_enter Try.func5, Try.ntmps5
    go_wp2_with (first
      | (go_at_call 26; (with_reducible refine (fit6_any _ (hm0.to (ct_b w c0 p0 t1 ⟨A1, kk1, some a2, kk2⟩) (ct_z w c0 p0 t1 ⟨A1, kk1, some a2, kk2⟩)) hv0 (ht1.to (ct_b w c0 p0 t1 ⟨A1, kk1, some a2, kk2⟩) (ct_z w c0 p0 t1 ⟨A1, kk1, some a2, kk2⟩))).mono ?_); rw [HFT.out]; rintro e w1 ⟨rfl, hb1⟩; have hX1 := Bx.first hb1; have hc1 := hX1.cells; dsimp only at hc1; obtain ⟨x0, x1, x2, x3, x4, x5, x6, z0, z1⟩ := hc1)
      | (go_at_call 8; (with_reducible refine (S1.out _ (hg0.to hX1.b hX1.b.size)).mono ?_); rintro e w2 ⟨A6, k6, rfl, hi2, hc6, hb2⟩; have hX2 := hX1.call hb2; have hc2 := hX2.cells; dsimp only at hc2; obtain ⟨x0, x1, x2, x3, x4, x5, x6, z0, z1⟩ := hc2)
      | (go_at_call 9; (with_reducible refine (R1.out _ (hg0.to hX2.b hX2.b.size)).mono ?_); rintro e w3 ⟨rfl, hb3⟩; have hX3 := hX2.call hb3; have hi3 := hi2.to hb3 hb3.size; have hc3 := hX3.cells; dsimp only at hc3; obtain ⟨x0, x1, x2, x3, x4, x5, x6, z0, z1⟩ := hc3; obtain ⟨a6, rfl, ha6, hr6⟩ := hi3 (by omega)))
    obtain ⟨A7, k7, y0, hy, hyn⟩ := hr6 0 (by omega)
    have HR6 := Lib.hid hr6
    refine wp_slots (fun b => Sz b 137 ∧ Slot b 2 (.pointer (some ⟨w.heap.size, 0, none⟩)) ∧ Slot b 3 (.pointer (some ⟨w.heap.size + 1, 0, none⟩)) ∧ Slot b 5 (.slice (some a6) t1.ni k6) ∧ Slot b 6 (.int .i64 0) ∧ Slot b 7 (.int .i64 m) ∧ Slot b 8 (.int .i64 0)) ⟨⟨rfl, rfl⟩, ⟨rfl⟩, ⟨rfl⟩, ⟨rfl⟩, ⟨rfl⟩, ⟨rfl⟩, ⟨rfl⟩⟩ fun a0 ha0 hR => ?_
    obtain ⟨hZ, hs2, hs3, hs5, hs6, hs7, hs8⟩ := hR
    have HA := Lib.hid ha0
    clear ha0 hr6
    have hS0 : w3.drew.cell? a6 = some (.slice A7 c0.nl k7) ∧ w3.drew.cell? ⟨w.heap.size + 1, 0, none⟩ = some (.slice A1 t1.nf kk1) ∧ w3.drew.cell? ⟨w.heap.size + 1, 1, none⟩ = some (.slice (some a2) t1.ni kk2) := ⟨by simpa [Addr.add_zero'] using y0, x5, x6⟩
    have HS0 := Lib.hid hS0
    refine wp_region_T (fun w' => w'.cell? a6 = some (.slice A7 c0.nl k7) ∧ w'.cell? ⟨w.heap.size + 1, 0, none⟩ = some (.slice A1 t1.nf kk1) ∧ w'.cell? ⟨w.heap.size + 1, 1, none⟩ = some (.slice (some a2) t1.ni kk2)) 33 (by kernel_rfl) ?_
    have hyd : BlsAt w3.drew w3.heap.size A7 c0.nl (c0.sts t1 0) := hy
    have hfid : BlsAt w3.drew w3.heap.size A1 t1.nf t1.fi := (hfi.to hX3.b hX3.b.size : BlsAt w3 w3.heap.size A1 t1.nf t1.fi)
    have HYD := Lib.hid hyd
    have HFD := Lib.hid hfid
    clear hyd hfid
    refine WT.h ?_
    (refine wt_move 0 6 rfl rfl (by kernel_rfl) (by kernel_rfl) (by kernel_rfl) (by kernel_rfl) (fun _ _ _ h => h) rfl hS0 (by (repeat (first | (refine slot_hit (N := 137) ?_ (by rfl); (repeat (refine sz_put ?_)); assumption; done) | (apply slot_miss; focus rfl))); all_goals assumption) rfl ?_); (refine wt_take1 1 32 (v := ?_) rfl rfl (by kernel_rfl) (by kernel_rfl) (by kernel_rfl) (by kernel_rfl) (fun _ _ _ h => h) rfl hS0 (by (repeat (first | (refine slot_hit (N := 137) ?_ (by rfl); (repeat (refine sz_put ?_)); assumption; done) | (apply slot_miss; focus rfl))); all_goals assumption) (fun ev hk hv0 w hS => ?_) ?_; rotate_left; focus (obtain ⟨j0, j1, j2⟩ := hS; go_simp; rfl)); (refine wt_move 2 33 rfl rfl (by kernel_rfl) (by kernel_rfl) (by kernel_rfl) (by kernel_rfl) (fun _ _ _ h => h) rfl hS0 (by (repeat (first | (refine slot_hit (N := 137) ?_ (by rfl); (repeat (refine sz_put ?_)); assumption; done) | (apply slot_miss; focus rfl))); all_goals assumption) rfl ?_); (refine wt_move 3 8 rfl rfl (by kernel_rfl) (by kernel_rfl) (by kernel_rfl) (by kernel_rfl) (fun _ _ _ h => h) (wanted_of rfl rfl (by (repeat (first | (refine slot_hit (N := 137) ?_ (by rfl); (repeat (refine sz_put ?_)); assumption; done) | (apply slot_miss; focus rfl))); all_goals assumption) rfl) hS0 (by (repeat (first | (refine slot_hit (N := 137) ?_ (by rfl); (repeat (refine sz_put ?_)); assumption; done) | (apply slot_miss; focus rfl))); all_goals assumption) rfl ?_); (refine wt_take1 4 35 (v := ?_) rfl rfl (by kernel_rfl) (by kernel_rfl) (by kernel_rfl) (by kernel_rfl) (fun _ _ _ h => h) (wanted_of rfl rfl (by (repeat (first | (refine slot_hit (N := 137) ?_ (by rfl); (repeat (refine sz_put ?_)); assumption; done) | (apply slot_miss; focus rfl))); all_goals assumption) rfl) hS0 (by (repeat (first | (refine slot_hit (N := 137) ?_ (by rfl); (repeat (refine sz_put ?_)); assumption; done) | (apply slot_miss; focus rfl))); all_goals assumption) (fun ev hk hv0 w hS => ?_) ?_; rotate_left; focus (obtain ⟨j0, j1, j2⟩ := hS; go_simp; rfl)); (refine wt_take2 5 34 36 (v := ?_) rfl rfl (by kernel_rfl) (by kernel_rfl) (by kernel_rfl) (by kernel_rfl) (fun _ _ _ h => h) rfl hS0 (by (repeat (first | (refine slot_hit (N := 137) ?_ (by rfl); (repeat (refine sz_put ?_)); assumption; done) | (apply slot_miss; focus rfl))); all_goals assumption) (by (repeat (first | (refine slot_hit (N := 137) ?_ (by rfl); (repeat (refine sz_put ?_)); assumption; done) | (apply slot_miss; focus rfl))); all_goals assumption) (fun ev hk hv0 hv1 w hS => ?_) ?_; rotate_left; focus (obtain ⟨j0, j1, j2⟩ := hS; go_simp; rfl)); (refine wt_move 6 37 rfl rfl (by kernel_rfl) (by kernel_rfl) (by kernel_rfl) (by kernel_rfl) (fun _ _ _ h => h) rfl hS0 (by (repeat (first | (refine slot_hit (N := 137) ?_ (by rfl); (repeat (refine sz_put ?_)); assumption; done) | (apply slot_miss; focus rfl))); all_goals assumption) rfl ?_); (refine wt_move 7 5 rfl rfl (by kernel_rfl) (by kernel_rfl) (by kernel_rfl) (by kernel_rfl) (fun _ _ _ h => h) (wanted_of rfl rfl (by (repeat (first | (refine slot_hit (N := 137) ?_ (by rfl); (repeat (refine sz_put ?_)); assumption; done) | (apply slot_miss; focus rfl))); all_goals assumption) rfl) hS0 (by (repeat (first | (refine slot_hit (N := 137) ?_ (by rfl); (repeat (refine sz_put ?_)); assumption; done) | (apply slot_miss; focus rfl))); all_goals assumption) rfl ?_); (refine wt_take1 8 39 (v := ?_) rfl rfl (by kernel_rfl) (by kernel_rfl) (by kernel_rfl) (by kernel_rfl) (fun _ _ _ h => h) (wanted_of rfl rfl (by (repeat (first | (refine slot_hit (N := 137) ?_ (by rfl); (repeat (refine sz_put ?_)); assumption; done) | (apply slot_miss; focus rfl))); all_goals assumption) rfl) hS0 (by (repeat (first | (refine slot_hit (N := 137) ?_ (by rfl); (repeat (refine sz_put ?_)); assumption; done) | (apply slot_miss; focus rfl))); all_goals assumption) (fun ev hk hv0 w hS => ?_) ?_; rotate_left; focus (obtain ⟨j0, j1, j2⟩ := hS; go_simp; rfl)); (refine wt_take1 9 3 (v := ?_) rfl rfl (by kernel_rfl) (by kernel_rfl) (by kernel_rfl) (by kernel_rfl) (fun _ _ _ h => h) (wanted_of rfl rfl (by (repeat (first | (refine slot_hit (N := 137) ?_ (by rfl); (repeat (refine sz_put ?_)); assumption; done) | (apply slot_miss; focus rfl))); all_goals assumption) rfl) hS0 (by (repeat (first | (refine slot_hit (N := 137) ?_ (by rfl); (repeat (refine sz_put ?_)); assumption; done) | (apply slot_miss; focus rfl))); all_goals assumption) (fun ev hk hv0 w hS => ?_) ?_; rotate_left; focus (obtain ⟨j0, j1, j2⟩ := hS; go_simp; rfl)); (refine wt_take1 10 41 (v := ?_) rfl rfl (by kernel_rfl) (by kernel_rfl) (by kernel_rfl) (by kernel_rfl) (fun _ _ _ h => h) (wanted_of rfl rfl (by (repeat (first | (refine slot_hit (N := 137) ?_ (by rfl); (repeat (refine sz_put ?_)); assumption; done) | (apply slot_miss; focus rfl))); all_goals assumption) rfl) hS0 (by (repeat (first | (refine slot_hit (N := 137) ?_ (by rfl); (repeat (refine sz_put ?_)); assumption; done) | (apply slot_miss; focus rfl))); all_goals assumption) (fun ev hk hv0 w hS => ?_) ?_; rotate_left; focus (obtain ⟨j0, j1, j2⟩ := hS; go_simp; rfl)); (refine wt_take1 11 42 (v := ?_) rfl rfl (by kernel_rfl) (by kernel_rfl) (by kernel_rfl) (by kernel_rfl) (fun _ _ _ h => h) (wanted_of rfl rfl (by (repeat (first | (refine slot_hit (N := 137) ?_ (by rfl); (repeat (refine sz_put ?_)); assumption; done) | (apply slot_miss; focus rfl))); all_goals assumption) rfl) hS0 (by (repeat (first | (refine slot_hit (N := 137) ?_ (by rfl); (repeat (refine sz_put ?_)); assumption; done) | (apply slot_miss; focus rfl))); all_goals assumption) (fun ev hk hv0 w hS => ?_) ?_; rotate_left; focus (obtain ⟨j0, j1, j2⟩ := hS; go_simp; rfl)); (refine wt_take2 12 40 43 (v := ?_) rfl rfl (by kernel_rfl) (by kernel_rfl) (by kernel_rfl) (by kernel_rfl) (fun _ _ _ h => h) (wanted_of rfl rfl (by (repeat (first | (refine slot_hit (N := 137) ?_ (by rfl); (repeat (refine sz_put ?_)); assumption; done) | (apply slot_miss; focus rfl))); all_goals assumption) rfl) hS0 (by (repeat (first | (refine slot_hit (N := 137) ?_ (by rfl); (repeat (refine sz_put ?_)); assumption; done) | (apply slot_miss; focus rfl))); all_goals assumption) (by (repeat (first | (refine slot_hit (N := 137) ?_ (by rfl); (repeat (refine sz_put ?_)); assumption; done) | (apply slot_miss; focus rfl))); all_goals assumption) (fun ev hk hv0 hv1 w hS => ?_) ?_; rotate_left; focus (obtain ⟨j0, j1, j2⟩ := hS; go_simp; rfl)); (refine wt_take2 13 38 44 (v := ?_) rfl rfl (by kernel_rfl) (by kernel_rfl) (by kernel_rfl) (by kernel_rfl) (fun _ _ _ h => h) rfl hS0 (by (repeat (first | (refine slot_hit (N := 137) ?_ (by rfl); (repeat (refine sz_put ?_)); assumption; done) | (apply slot_miss; focus rfl))); all_goals assumption) (by (repeat (first | (refine slot_hit (N := 137) ?_ (by rfl); (repeat (refine sz_put ?_)); assumption; done) | (apply slot_miss; focus rfl))); all_goals assumption) (fun ev hk hv0 hv1 w hS => ?_) ?_; rotate_left; focus (obtain ⟨j0, j1, j2⟩ := hS; go_simp; rfl)); (refine wt_move 14 45 rfl rfl (by kernel_rfl) (by kernel_rfl) (by kernel_rfl) (by kernel_rfl) (fun _ _ _ h => h) rfl hS0 (by (repeat (first | (refine slot_hit (N := 137) ?_ (by rfl); (repeat (refine sz_put ?_)); assumption; done) | (apply slot_miss; focus rfl))); all_goals assumption) rfl ?_); (refine wt_move 15 5 rfl rfl (by kernel_rfl) (by kernel_rfl) (by kernel_rfl) (by kernel_rfl) (fun _ _ _ h => h) (wanted_of rfl rfl (by (repeat (first | (refine slot_hit (N := 137) ?_ (by rfl); (repeat (refine sz_put ?_)); assumption; done) | (apply slot_miss; focus rfl))); all_goals assumption) rfl) hS0 (by (repeat (first | (refine slot_hit (N := 137) ?_ (by rfl); (repeat (refine sz_put ?_)); assumption; done) | (apply slot_miss; focus rfl))); all_goals assumption) rfl ?_); (refine wt_take1 16 47 (v := ?_) rfl rfl (by kernel_rfl) (by kernel_rfl) (by kernel_rfl) (by kernel_rfl) (fun _ _ _ h => h) (wanted_of rfl rfl (by (repeat (first | (refine slot_hit (N := 137) ?_ (by rfl); (repeat (refine sz_put ?_)); assumption; done) | (apply slot_miss; focus rfl))); all_goals assumption) rfl) hS0 (by (repeat (first | (refine slot_hit (N := 137) ?_ (by rfl); (repeat (refine sz_put ?_)); assumption; done) | (apply slot_miss; focus rfl))); all_goals assumption) (fun ev hk hv0 w hS => ?_) ?_; rotate_left; focus (obtain ⟨j0, j1, j2⟩ := hS; go_simp; rfl)); (refine wt_take1 17 48 (v := ?_) rfl rfl (by kernel_rfl) (by kernel_rfl) (by kernel_rfl) (by kernel_rfl) (fun _ _ _ h => h) (wanted_of rfl rfl (by (repeat (first | (refine slot_hit (N := 137) ?_ (by rfl); (repeat (refine sz_put ?_)); assumption; done) | (apply slot_miss; focus rfl))); all_goals assumption) rfl) hS0 (by (repeat (first | (refine slot_hit (N := 137) ?_ (by rfl); (repeat (refine sz_put ?_)); assumption; done) | (apply slot_miss; focus rfl))); all_goals assumption) (fun ev hk hv0 w hS => ?_) ?_; rotate_left; focus (obtain ⟨j0, j1, j2⟩ := hS; go_simp; rfl)); (refine wt_take1 18 3 (v := ?_) rfl rfl (by kernel_rfl) (by kernel_rfl) (by kernel_rfl) (by kernel_rfl) (fun _ _ _ h => h) (wanted_of rfl rfl (by (repeat (first | (refine slot_hit (N := 137) ?_ (by rfl); (repeat (refine sz_put ?_)); assumption; done) | (apply slot_miss; focus rfl))); all_goals assumption) rfl) hS0 (by (repeat (first | (refine slot_hit (N := 137) ?_ (by rfl); (repeat (refine sz_put ?_)); assumption; done) | (apply slot_miss; focus rfl))); all_goals assumption) (fun ev hk hv0 w hS => ?_) ?_; rotate_left; focus (obtain ⟨j0, j1, j2⟩ := hS; go_simp; rfl)); (refine wt_take1 19 50 (v := ?_) rfl rfl (by kernel_rfl) (by kernel_rfl) (by kernel_rfl) (by kernel_rfl) (fun _ _ _ h => h) (wanted_of rfl rfl (by (repeat (first | (refine slot_hit (N := 137) ?_ (by rfl); (repeat (refine sz_put ?_)); assumption; done) | (apply slot_miss; focus rfl))); all_goals assumption) rfl) hS0 (by (repeat (first | (refine slot_hit (N := 137) ?_ (by rfl); (repeat (refine sz_put ?_)); assumption; done) | (apply slot_miss; focus rfl))); all_goals assumption) (fun ev hk hv0 w hS => ?_) ?_; rotate_left; focus (obtain ⟨j0, j1, j2⟩ := hS; go_simp; rfl))
    refine wt_call2 20 49 51 (by kernel_rfl) rfl rfl (wanted_of rfl rfl (by (repeat (first | (refine slot_hit (N := 137) ?_ (by rfl); (repeat (refine sz_put ?_)); assumption; done) | (apply slot_miss; focus rfl))); all_goals assumption) rfl) (by (repeat (first | (refine slot_hit (N := 137) ?_ (by rfl); (repeat (refine sz_put ?_)); assumption; done) | (apply slot_miss; focus rfl))); all_goals assumption) (by (repeat (first | (refine slot_hit (N := 137) ?_ (by rfl); (repeat (refine sz_put ?_)); assumption; done) | (apply slot_miss; focus rfl))); all_goals assumption) (f := ?_) (args := ?_) (fun ev hk hkf hv0 hv1 => ?_) ?_; rotate_left 2; focus (go_simp; first | rfl | (constructor <;> rfl))
    (with_reducible refine (samBs_at HS1.out A7 A1 k7 kk1 w3.heap.size w3.drew (by omega) hnfs HYD.out HFD.out).mono ?_)
    rintro e w4 ⟨rfl, hb4⟩
    have hb34 : Below w3.heap.size w3 w4 := Below.undn' hb4
    have hS0 : w4.cell? a6 = some (.slice A7 c0.nl k7) ∧ w4.cell? ⟨w.heap.size + 1, 0, none⟩ = some (.slice A1 t1.nf kk1) ∧ w4.cell? ⟨w.heap.size + 1, 1, none⟩ = some (.slice (some a2) t1.ni kk2) := ⟨(hb4.cell (cell_lt HS0.out.1)).trans HS0.out.1, (hb4.cell (cell_lt HS0.out.2.1)).trans HS0.out.2.1, (hb4.cell (cell_lt HS0.out.2.2)).trans HS0.out.2.2⟩
    refine ⟨_, rfl, fun _ => hS0, ?_⟩
    (refine wt_take1 21 52 (v := ?_) rfl rfl (by kernel_rfl) (by kernel_rfl) (by kernel_rfl) (by kernel_rfl) (fun _ _ _ h => h) (wanted_of rfl rfl (by (repeat (first | (refine slot_hit (N := 137) ?_ (by rfl); (repeat (refine sz_put ?_)); assumption; done) | (apply slot_miss; focus rfl))); all_goals assumption) rfl) hS0 (by (repeat (first | (refine slot_hit (N := 137) ?_ (by rfl); (repeat (refine sz_put ?_)); assumption; done) | (apply slot_miss; focus rfl))); all_goals assumption) (fun ev hk hv0 w hS => ?_) ?_; rotate_left; focus (obtain ⟨j0, j1, j2⟩ := hS; go_simp; rfl)); (refine wt_take2 22 46 53 (v := ?_) rfl rfl (by kernel_rfl) (by kernel_rfl) (by kernel_rfl) (by kernel_rfl) (fun _ _ _ h => h) rfl hS0 (by (repeat (first | (refine slot_hit (N := 137) ?_ (by rfl); (repeat (refine sz_put ?_)); assumption; done) | (apply slot_miss; focus rfl))); all_goals assumption) (by (repeat (first | (refine slot_hit (N := 137) ?_ (by rfl); (repeat (refine sz_put ?_)); assumption; done) | (apply slot_miss; focus rfl))); all_goals assumption) (fun ev hk hv0 hv1 w hS => ?_) ?_; rotate_left; focus (obtain ⟨j0, j1, j2⟩ := hS; go_simp; rfl)); (refine wt_move 23 54 rfl rfl (by kernel_rfl) (by kernel_rfl) (by kernel_rfl) (by kernel_rfl) (fun _ _ _ h => h) rfl hS0 (by (repeat (first | (refine slot_hit (N := 137) ?_ (by rfl); (repeat (refine sz_put ?_)); assumption; done) | (apply slot_miss; focus rfl))); all_goals assumption) rfl ?_); (refine wt_move 24 7 rfl rfl (by kernel_rfl) (by kernel_rfl) (by kernel_rfl) (by kernel_rfl) (fun _ _ _ h => h) (wanted_of rfl rfl (by (repeat (first | (refine slot_hit (N := 137) ?_ (by rfl); (repeat (refine sz_put ?_)); assumption; done) | (apply slot_miss; focus rfl))); all_goals assumption) rfl) hS0 (by (repeat (first | (refine slot_hit (N := 137) ?_ (by rfl); (repeat (refine sz_put ?_)); assumption; done) | (apply slot_miss; focus rfl))); all_goals assumption) rfl ?_); (refine wt_take1 25 56 (v := ?_) rfl rfl (by kernel_rfl) (by kernel_rfl) (by kernel_rfl) (by kernel_rfl) (fun _ _ _ h => h) (wanted_of rfl rfl (by (repeat (first | (refine slot_hit (N := 137) ?_ (by rfl); (repeat (refine sz_put ?_)); assumption; done) | (apply slot_miss; focus rfl))); all_goals assumption) rfl) hS0 (by (repeat (first | (refine slot_hit (N := 137) ?_ (by rfl); (repeat (refine sz_put ?_)); assumption; done) | (apply slot_miss; focus rfl))); all_goals assumption) (fun ev hk hv0 w hS => ?_) ?_; rotate_left; focus (obtain ⟨j0, j1, j2⟩ := hS; go_simp; rfl)); (refine wt_take2 26 55 57 (v := ?_) rfl rfl (by kernel_rfl) (by kernel_rfl) (by kernel_rfl) (by kernel_rfl) (fun _ _ _ h => h) rfl hS0 (by (repeat (first | (refine slot_hit (N := 137) ?_ (by rfl); (repeat (refine sz_put ?_)); assumption; done) | (apply slot_miss; focus rfl))); all_goals assumption) (by (repeat (first | (refine slot_hit (N := 137) ?_ (by rfl); (repeat (refine sz_put ?_)); assumption; done) | (apply slot_miss; focus rfl))); all_goals assumption) (fun ev hk hv0 hv1 w hS => ?_) ?_; rotate_left; focus (obtain ⟨j0, j1, j2⟩ := hS; go_simp; rfl)); (refine wt_move 27 58 rfl rfl (by kernel_rfl) (by kernel_rfl) (by kernel_rfl) (by kernel_rfl) (fun _ _ _ h => h) rfl hS0 (by (repeat (first | (refine slot_hit (N := 137) ?_ (by rfl); (repeat (refine sz_put ?_)); assumption; done) | (apply slot_miss; focus rfl))); all_goals assumption) rfl ?_); (refine wt_move 28 7 rfl rfl (by kernel_rfl) (by kernel_rfl) (by kernel_rfl) (by kernel_rfl) (fun _ _ _ h => h) (wanted_of rfl rfl (by (repeat (first | (refine slot_hit (N := 137) ?_ (by rfl); (repeat (refine sz_put ?_)); assumption; done) | (apply slot_miss; focus rfl))); all_goals assumption) rfl) hS0 (by (repeat (first | (refine slot_hit (N := 137) ?_ (by rfl); (repeat (refine sz_put ?_)); assumption; done) | (apply slot_miss; focus rfl))); all_goals assumption) rfl ?_); (refine wt_move 29 5 rfl rfl (by kernel_rfl) (by kernel_rfl) (by kernel_rfl) (by kernel_rfl) (fun _ _ _ h => h) (wanted_of rfl rfl (by (repeat (first | (refine slot_hit (N := 137) ?_ (by rfl); (repeat (refine sz_put ?_)); assumption; done) | (apply slot_miss; focus rfl))); all_goals assumption) rfl) hS0 (by (repeat (first | (refine slot_hit (N := 137) ?_ (by rfl); (repeat (refine sz_put ?_)); assumption; done) | (apply slot_miss; focus rfl))); all_goals assumption) rfl ?_); (refine wt_take1 30 61 (v := ?_) rfl rfl (by kernel_rfl) (by kernel_rfl) (by kernel_rfl) (by kernel_rfl) (fun _ _ _ h => h) (wanted_of rfl rfl (by (repeat (first | (refine slot_hit (N := 137) ?_ (by rfl); (repeat (refine sz_put ?_)); assumption; done) | (apply slot_miss; focus rfl))); all_goals assumption) rfl) hS0 (by (repeat (first | (refine slot_hit (N := 137) ?_ (by rfl); (repeat (refine sz_put ?_)); assumption; done) | (apply slot_miss; focus rfl))); all_goals assumption) (fun ev hk hv0 w hS => ?_) ?_; rotate_left; focus (obtain ⟨j0, j1, j2⟩ := hS; go_simp; rfl)); (refine wt_take2 31 60 62 (v := ?_) rfl rfl (by kernel_rfl) (by kernel_rfl) (by kernel_rfl) (by kernel_rfl) (fun _ _ _ h => h) (wanted_of rfl rfl (by (repeat (first | (refine slot_hit (N := 137) ?_ (by rfl); (repeat (refine sz_put ?_)); assumption; done) | (apply slot_miss; focus rfl))); all_goals assumption) rfl) hS0 (by (repeat (first | (refine slot_hit (N := 137) ?_ (by rfl); (repeat (refine sz_put ?_)); assumption; done) | (apply slot_miss; focus rfl))); all_goals assumption) (by (repeat (first | (refine slot_hit (N := 137) ?_ (by rfl); (repeat (refine sz_put ?_)); assumption; done) | (apply slot_miss; focus rfl))); all_goals assumption) (fun ev hk hv0 hv1 w hS => ?_) ?_; rotate_left; focus (obtain ⟨j0, j1, j2⟩ := hS; go_simp; rfl)); (refine wt_take2 32 59 63 (v := ?_) rfl rfl (by kernel_rfl) (by kernel_rfl) (by kernel_rfl) (by kernel_rfl) (fun _ _ _ h => h) rfl hS0 (by (repeat (first | (refine slot_hit (N := 137) ?_ (by rfl); (repeat (refine sz_put ?_)); assumption; done) | (apply slot_miss; focus rfl))); all_goals assumption) (by (repeat (first | (refine slot_hit (N := 137) ?_ (by rfl); (repeat (refine sz_put ?_)); assumption; done) | (apply slot_miss; focus rfl))); all_goals assumption) (fun ev hk hv0 hv1 w hS => ?_) ?_; rotate_left; focus (obtain ⟨j0, j1, j2⟩ := hS; go_simp; rfl))
    refine wt_known (N := 137) (by kernel_rfl) (by (repeat (refine sz_put ?_)); assumption) [(2, .pointer (some ⟨w.heap.size, 0, none⟩)), (3, .pointer (some ⟨w.heap.size + 1, 0, none⟩)), (5, .slice (some a6) t1.ni k6), (7, .int .i64 (m : Int)), (64, .bool false)] ⟨(by (repeat (first | (refine slot_hit (N := 137) ?_ (by rfl); (repeat (refine sz_put ?_)); assumption; done) | (apply slot_miss; focus rfl))); all_goals assumption), (by (repeat (first | (refine slot_hit (N := 137) ?_ (by rfl); (repeat (refine sz_put ?_)); assumption; done) | (apply slot_miss; focus rfl))); all_goals assumption), (by (repeat (first | (refine slot_hit (N := 137) ?_ (by rfl); (repeat (refine sz_put ?_)); assumption; done) | (apply slot_miss; focus rfl))); all_goals assumption), (by (repeat (first | (refine slot_hit (N := 137) ?_ (by rfl); (repeat (refine sz_put ?_)); assumption; done) | (apply slot_miss; focus rfl))); all_goals assumption), (by (repeat (first | (refine slot_hit (N := 137) ?_ (by rfl); (repeat (refine sz_put ?_)); assumption; done) | (apply slot_miss; focus rfl))); all_goals assumption), trivial⟩ fun fv fl hfl => ?_; obtain rfl : fl = [fv 0, fv 1, (.pointer (some ⟨w.heap.size, 0, none⟩) : Value), (.pointer (some ⟨w.heap.size + 1, 0, none⟩) : Value), fv 4, (.slice (some a6) t1.ni k6 : Value), fv 6, (.int .i64 (m : Int) : Value), fv 8, fv 9, fv 10, fv 11, fv 12, fv 13, fv 14, fv 15, fv 16, fv 17, fv 18, fv 19, fv 20, fv 21, fv 22, fv 23, fv 24, fv 25, fv 26, fv 27, fv 28, fv 29, fv 30, fv 31, fv 32, fv 33, fv 34, fv 35, fv 36, fv 37, fv 38, fv 39, fv 40, fv 41, fv 42, fv 43, fv 44, fv 45, fv 46, fv 47, fv 48, fv 49, fv 50, fv 51, fv 52, fv 53, fv 54, fv 55, fv 56, fv 57, fv 58, fv 59, fv 60, fv 61, fv 62, fv 63, (.bool false : Value), fv 65, fv 66, fv 67, fv 68, fv 69, fv 70, fv 71, fv 72, fv 73, fv 74, fv 75, fv 76, fv 77, fv 78, fv 79, fv 80, fv 81, fv 82, fv 83, fv 84, fv 85, fv 86, fv 87, fv 88, fv 89, fv 90, fv 91, fv 92, fv 93, fv 94, fv 95, fv 96, fv 97, fv 98, fv 99, fv 100, fv 101, fv 102, fv 103, fv 104, fv 105, fv 106, fv 107, fv 108, fv 109, fv 110, fv 111, fv 112, fv 113, fv 114, fv 115, fv 116, fv 117, fv 118, fv 119, fv 120, fv 121, fv 122, fv 123, fv 124, fv 125, fv 126, fv 127, fv 128, fv 129, fv 130, fv 131, fv 132, fv 133, fv 134, fv 135, fv 136] := hfl.symm.trans (by kernel_rfl); clear hfl
    have hX4 := hX3.call hb34
    have hi4 := hi3.to hb34 hb34.size
    clear HA
    clear hS0 hb4 hb34 hy hyn y0 x0 x1 x2 x3 x4 x5 x6 z0 z1 hZ hs2 hs3 hs5 hs6 hs7 hs8 HR6
    go_wp2
    go_loopw [9] (fun i wr => ∃ q : Nat, q < t1.ni ∧ i = .int .i64 q ∧ Bx w wr c0 p0 t1 ⟨A1, kk1, some a2, kk2⟩ ∧ RowsAt wr wr.heap.size (some a6) t1.ni (fun _ => c0.nl) (c0.sts t1)) (fun i _ => t1.ni - (intOf i).toNat)
    case atStart => exact ⟨0, by omega, rfl, hX4, hi4⟩
    case round =>
      clear hX4 hi4
      obtain ⟨q, hq, rfl, hX, hi⟩ := hrel
      have hc5 := hX.cells
      dsimp only at hc5
      obtain ⟨x0, x1, x2, x3, x4, x5, x6, z0, z1⟩ := hc5
      obtain ⟨a6', ea6, ha6', hr6⟩ := hi (by omega)
      obtain rfl : a6 = a6' := Option.some.inj ea6
      obtain ⟨A8, k8, u0, hu, hun⟩ := hr6 q hq
      obtain ⟨A9, k9, v0, hv, hvn⟩ := HR.out q hq
      have v0 : wr.cell? (a2.add q) = some (.slice A9 (t1.ln q) k9) := (hX.b.cell (by rw [add_block]; exact ha2)).trans v0
      have hv := hv.to hX.b hX.b.size
      have hl := HL.out q hq
      have HLq := Lib.hid hl
      have hlq : t1.ln q ≤ 100000 := by have := hts.ln q hq; omega
      obtain ⟨b, hb⟩ : ∃ b, c0.hol (c0.sts t1 q) (t1.ip q) = b := ⟨_, rfl⟩
      have hg : Arg wr.drew wr.drew.heap.size c0 p0 A8 c0.nl k8 (c0.sts t1 q) A9 (t1.ln q) k9 (t1.ip q) := ⟨hm0.to (below_dn hX.b 1) hX.b.size, hs, hu, hv, hun, hvn, by omega, by omega⟩
      have P := props_at HC.out rfl HLq.out wr.drew hg
      rw [hb] at P
      have HP := Lib.hid P
      have hway : (q < m ∧ b = true) ∨ (q = m ∧ b = false) ∨ m < q := by
        rcases Nat.lt_trichotomy q m with h | h | h
        · exact Or.inl ⟨h, by rw [← hb]; exact HM.out.1 q h⟩
        · exact Or.inr (Or.inl ⟨h, by rw [← hb, h]; exact HM.out.2 (by omega)⟩)
        · exact Or.inr (Or.inr h)
      have hq0 : (0 : Int) ≤ (q : Int) := by omega
      have hq1 : (q : Int) < (t1.ni : Int) := by omega
      have HI := Lib.hid hi
      have HR6 := Lib.hid hr6
      have hXd : CS w.heap.size c0 p0 (a6.add q) (.slice A8 c0.nl k8) wr.drew ∧ wr.drew.cell? ⟨w.heap.size + 1, 1, none⟩ = some (.slice (some a2) t1.ni kk2) ∧ wr.drew.cell? (a2.add q) = some (.slice A9 (t1.ln q) k9) := ⟨cs_of hX.c u0, x6, v0⟩
      have HXd := Lib.hid hXd
      clear hl hb P hu hun hv hvn hg hi hr6 ea6
      go_wp2
      refine wp_slots (fun f => Sz f 137 ∧ Slot f 2 (.pointer (some ⟨w.heap.size, 0, none⟩)) ∧ Slot f 3 (.pointer (some ⟨w.heap.size + 1, 0, none⟩)) ∧ Slot f 5 (.slice (some a6) t1.ni k6) ∧ Slot f 9 (.int .i64 (q : Int))) ⟨⟨rfl, rfl⟩, ⟨rfl⟩, ⟨rfl⟩, ⟨rfl⟩, ⟨rfl⟩⟩ fun a0 ha0 hR => ?_
      obtain ⟨hZ, hs2, hs3, hs5, hs9⟩ := hR
      have HA := Lib.hid ha0
      clear ha0
      have hS0 := HXd.out
      refine wp_region_T (fun w' : World => CS w.heap.size c0 p0 (a6.add q) (.slice A8 c0.nl k8) w' ∧ w'.cell? ⟨w.heap.size + 1, 1, none⟩ = some (.slice (some a2) t1.ni kk2) ∧ w'.cell? (a2.add q) = some (.slice A9 (t1.ln q) k9)) 18 (by kernel_rfl) ?_
      refine WT.h ?_
      (refine wt_take1 0 2 (v := ?_) rfl rfl (by kernel_rfl) (by kernel_rfl) (by kernel_rfl) (by kernel_rfl) (fun _ _ _ h => h) rfl hS0 (by (repeat (first | (refine slot_hit (N := 137) ?_ (by rfl); (repeat (refine sz_put ?_)); assumption; done) | (apply slot_miss; focus rfl))); all_goals assumption) (fun ev hk hv0 w hS => ?_) ?_; rotate_left; focus (obtain ⟨⟨j0, j1, j2, j3, j4, j5⟩, j6, j7⟩ := hS; go_simp; rfl)); (refine wt_move 1 5 rfl rfl (by kernel_rfl) (by kernel_rfl) (by kernel_rfl) (by kernel_rfl) (fun _ _ _ h => h) rfl hS0 (by (repeat (first | (refine slot_hit (N := 137) ?_ (by rfl); (repeat (refine sz_put ?_)); assumption; done) | (apply slot_miss; focus rfl))); all_goals assumption) rfl ?_); (refine wt_move 2 9 rfl rfl (by kernel_rfl) (by kernel_rfl) (by kernel_rfl) (by kernel_rfl) (fun _ _ _ h => h) rfl hS0 (by (repeat (first | (refine slot_hit (N := 137) ?_ (by rfl); (repeat (refine sz_put ?_)); assumption; done) | (apply slot_miss; focus rfl))); all_goals assumption) rfl ?_); (refine wt_take2 3 73 74 (v := ?_) rfl rfl (by kernel_rfl) (by kernel_rfl) (by kernel_rfl) (by kernel_rfl) (fun _ _ _ h => h) rfl hS0 (by (repeat (first | (refine slot_hit (N := 137) ?_ (by rfl); (repeat (refine sz_put ?_)); assumption; done) | (apply slot_miss; focus rfl))); all_goals assumption) (by (repeat (first | (refine slot_hit (N := 137) ?_ (by rfl); (repeat (refine sz_put ?_)); assumption; done) | (apply slot_miss; focus rfl))); all_goals assumption) (fun ev hk hv0 hv1 w hS => ?_) ?_; rotate_left; focus (obtain ⟨⟨j0, j1, j2, j3, j4, j5⟩, j6, j7⟩ := hS; go_simp; rfl)); (refine wt_take1 4 75 (v := ?_) rfl rfl (by kernel_rfl) (by kernel_rfl) (by kernel_rfl) (by kernel_rfl) (fun _ _ _ h => h) rfl hS0 (by (repeat (first | (refine slot_hit (N := 137) ?_ (by rfl); (repeat (refine sz_put ?_)); assumption; done) | (apply slot_miss; focus rfl))); all_goals assumption) (fun ev hk hv0 w hS => ?_) ?_; rotate_left; focus (obtain ⟨⟨j0, j1, j2, j3, j4, j5⟩, j6, j7⟩ := hS; go_simp; rfl)); (refine wt_take1 5 3 (v := ?_) rfl rfl (by kernel_rfl) (by kernel_rfl) (by kernel_rfl) (by kernel_rfl) (fun _ _ _ h => h) rfl hS0 (by (repeat (first | (refine slot_hit (N := 137) ?_ (by rfl); (repeat (refine sz_put ?_)); assumption; done) | (apply slot_miss; focus rfl))); all_goals assumption) (fun ev hk hv0 w hS => ?_) ?_; rotate_left; focus (obtain ⟨⟨j0, j1, j2, j3, j4, j5⟩, j6, j7⟩ := hS; go_simp; rfl)); (refine wt_take1 6 77 (v := ?_) rfl rfl (by kernel_rfl) (by kernel_rfl) (by kernel_rfl) (by kernel_rfl) (fun _ _ _ h => h) rfl hS0 (by (repeat (first | (refine slot_hit (N := 137) ?_ (by rfl); (repeat (refine sz_put ?_)); assumption; done) | (apply slot_miss; focus rfl))); all_goals assumption) (fun ev hk hv0 w hS => ?_) ?_; rotate_left; focus (obtain ⟨⟨j0, j1, j2, j3, j4, j5⟩, j6, j7⟩ := hS; go_simp; rfl)); (refine wt_move 7 9 rfl rfl (by kernel_rfl) (by kernel_rfl) (by kernel_rfl) (by kernel_rfl) (fun _ _ _ h => h) rfl hS0 (by (repeat (first | (refine slot_hit (N := 137) ?_ (by rfl); (repeat (refine sz_put ?_)); assumption; done) | (apply slot_miss; focus rfl))); all_goals assumption) rfl ?_); (refine wt_take2 8 78 79 (v := ?_) rfl rfl (by kernel_rfl) (by kernel_rfl) (by kernel_rfl) (by kernel_rfl) (fun _ _ _ h => h) rfl hS0 (by (repeat (first | (refine slot_hit (N := 137) ?_ (by rfl); (repeat (refine sz_put ?_)); assumption; done) | (apply slot_miss; focus rfl))); all_goals assumption) (by (repeat (first | (refine slot_hit (N := 137) ?_ (by rfl); (repeat (refine sz_put ?_)); assumption; done) | (apply slot_miss; focus rfl))); all_goals assumption) (fun ev hk hv0 hv1 w hS => ?_) ?_; rotate_left; focus (obtain ⟨⟨j0, j1, j2, j3, j4, j5⟩, j6, j7⟩ := hS; go_simp; rfl)); (refine wt_take1 9 80 (v := ?_) rfl rfl (by kernel_rfl) (by kernel_rfl) (by kernel_rfl) (by kernel_rfl) (fun _ _ _ h => h) rfl hS0 (by (repeat (first | (refine slot_hit (N := 137) ?_ (by rfl); (repeat (refine sz_put ?_)); assumption; done) | (apply slot_miss; focus rfl))); all_goals assumption) (fun ev hk hv0 w hS => ?_) ?_; rotate_left; focus (obtain ⟨⟨j0, j1, j2, j3, j4, j5⟩, j6, j7⟩ := hS; go_simp; rfl))
      refine wt_call3 10 72 76 81 (by kernel_rfl) rfl rfl rfl (by (repeat (first | (refine slot_hit (N := 137) ?_ (by rfl); (repeat (refine sz_put ?_)); assumption; done) | (apply slot_miss; focus rfl))); all_goals assumption) (by (repeat (first | (refine slot_hit (N := 137) ?_ (by rfl); (repeat (refine sz_put ?_)); assumption; done) | (apply slot_miss; focus rfl))); all_goals assumption) (by (repeat (first | (refine slot_hit (N := 137) ?_ (by rfl); (repeat (refine sz_put ?_)); assumption; done) | (apply slot_miss; focus rfl))); all_goals assumption) (f := ?_) (args := ?_) (fun ev hk hkf hv0 hv1 hv2 => ?_) ?_; rotate_left 2; focus (go_simp; first | rfl | (constructor <;> rfl))
      (with_reducible refine HP.out.mono ?_)
      rintro e w5 ⟨A5, k5, rfl, _, hb5, _⟩
      have hb5' : Below wr.heap.size wr w5 := Below.undn' hb5
      have hX5 := hX.call hb5'
      have hS0 : (fun w' : World => CS w.heap.size c0 p0 (a6.add q) (.slice A8 c0.nl k8) w' ∧ w'.cell? ⟨w.heap.size + 1, 1, none⟩ = some (.slice (some a2) t1.ni kk2) ∧ w'.cell? (a2.add q) = some (.slice A9 (t1.ln q) k9)) w5 := ⟨HXd.out.1.keep hb5, (hb5.cell (cell_lt HXd.out.2.1)).trans HXd.out.2.1, (hb5.cell (cell_lt HXd.out.2.2)).trans HXd.out.2.2⟩
      have HX5 := Lib.hid hS0
      refine ⟨_, rfl, fun _ => hS0, ?_⟩
      (refine wt_move 11 82 rfl rfl (by kernel_rfl) (by kernel_rfl) (by kernel_rfl) (by kernel_rfl) (fun _ _ _ h => h) rfl hS0 (by (repeat (first | (refine slot_hit (N := 137) ?_ (by rfl); (repeat (refine sz_put ?_)); assumption; done) | (apply slot_miss; focus rfl))); all_goals assumption) rfl ?_); (refine wt_take1 12 71 (v := ?_) rfl rfl (by kernel_rfl) (by kernel_rfl) (by kernel_rfl) (by kernel_rfl) (fun _ _ _ h => h) rfl hS0 (by (repeat (first | (refine slot_hit (N := 137) ?_ (by rfl); (repeat (refine sz_put ?_)); assumption; done) | (apply slot_miss; focus rfl))); all_goals assumption) (fun ev hk hv0 w hS => ?_) ?_; rotate_left; focus (obtain ⟨⟨j0, j1, j2, j3, j4, j5⟩, j6, j7⟩ := hS; go_simp; rfl)); (refine wt_take1 13 71 (v := ?_) rfl rfl (by kernel_rfl) (by kernel_rfl) (by kernel_rfl) (by kernel_rfl) (fun _ _ _ h => h) rfl hS0 (by (repeat (first | (refine slot_hit (N := 137) ?_ (by rfl); (repeat (refine sz_put ?_)); assumption; done) | (apply slot_miss; focus rfl))); all_goals assumption) (fun ev hk hv0 w hS => ?_) ?_; rotate_left; focus (obtain ⟨⟨j0, j1, j2, j3, j4, j5⟩, j6, j7⟩ := hS; go_simp; rfl)); (refine wt_take1 14 71 (v := ?_) rfl rfl (by kernel_rfl) (by kernel_rfl) (by kernel_rfl) (by kernel_rfl) (fun _ _ _ h => h) rfl hS0 (by (repeat (first | (refine slot_hit (N := 137) ?_ (by rfl); (repeat (refine sz_put ?_)); assumption; done) | (apply slot_miss; focus rfl))); all_goals assumption) (fun ev hk hv0 w hS => ?_) ?_; rotate_left; focus (obtain ⟨⟨j0, j1, j2, j3, j4, j5⟩, j6, j7⟩ := hS; go_simp; rfl)); (refine wt_assign 15 83 rfl rfl (by kernel_rfl) (by kernel_rfl) (by kernel_rfl) (by kernel_rfl) (fun _ _ _ h => h) rfl hS0 (by (repeat (first | (refine slot_hit (N := 137) ?_ (by rfl); (repeat (refine sz_put ?_)); assumption; done) | (apply slot_miss; focus rfl))); all_goals assumption) rfl ?_); (refine wt_assign 16 84 rfl rfl (by kernel_rfl) (by kernel_rfl) (by kernel_rfl) (by kernel_rfl) (fun _ _ _ h => h) rfl hS0 (by (repeat (first | (refine slot_hit (N := 137) ?_ (by rfl); (repeat (refine sz_put ?_)); assumption; done) | (apply slot_miss; focus rfl))); all_goals assumption) rfl ?_); (refine wt_assign 17 85 rfl rfl (by kernel_rfl) (by kernel_rfl) (by kernel_rfl) (by kernel_rfl) (fun _ _ _ h => h) rfl hS0 (by (repeat (first | (refine slot_hit (N := 137) ?_ (by rfl); (repeat (refine sz_put ?_)); assumption; done) | (apply slot_miss; focus rfl))); all_goals assumption) rfl ?_)
      refine wt_done (by kernel_rfl) (NoPanic.normal ?_) _
      have ha := HA.out
      subst ha
      have hi5 := HI.out.to hb5' hb5'.size
      have HI5 := Lib.hid hi5
      clear hS0 hb5 hZ hs2 hs3 hs5 hs9 x0 x1 x2 x3 x4 x5 x6 z0 z1 u0 v0 hi5 hX
      have hc6 := hX5.cells
      dsimp only at hc6
      obtain ⟨x0, x1, x2, x3, x4, x5, x6, z0, z1⟩ := hc6
      have y5 : w5.cell? (a6.add q) = some (.slice A8 c0.nl k8) := HX5.out.1.2.2.2.2.2
      have y6 : w5.cell? (a2.add q) = some (.slice A9 (t1.ln q) k9) := HX5.out.2.2
      by_cases hlast : q + 1 = t1.ni
      · have e1 : ((q : Int) + 1 == (t1.ni : Int)) = true := by simp; omega
        have HLAST := Lib.hid hlast
        clear hlast
        rcases hway with ⟨h1, h2⟩ | ⟨h1, h2⟩ | h1
        · subst h2
          have f1 : decide (q < m) = true := decide_eq_true h1
          have f2 : ((q : Int) == (m : Int)) = false := by simp; omega
          go_wp2_with (go_at_call 18; refine (alive6_any _).mono ?_; rintro e w6 ⟨rfl, hb6⟩; have hX6 := hX5.call hb6)
          go_ret
          exact ⟨rfl, hX6.b⟩
        · subst h2
          have f1 : decide (q < m) = false := decide_eq_false (by omega)
          have f2 : ((q : Int) == (m : Int)) = true := by simp; omega
          clear h1
          go_wp2_with (go_at_call 18; refine (alive6_any _).mono ?_; rintro e w6 ⟨rfl, hb6⟩; have hX6 := hX5.call hb6)
          go_ret
          exact ⟨rfl, hX6.b⟩
        · have f1 : decide (q < m) = false := decide_eq_false (by omega)
          have f2 : ((q : Int) == (m : Int)) = false := by simp; omega
          go_wp2_with (go_at_call 18; refine (alive6_any _).mono ?_; rintro e w6 ⟨rfl, hb6⟩; have hX6 := hX5.call hb6)
          go_ret
          exact ⟨rfl, hX6.b⟩
      · have e1 : ((q : Int) + 1 == (t1.ni : Int)) = false := by simp; omega
        have hq2 : q + 1 < t1.ni := by omega
        have hq3 : (q : Int) + 1 < (t1.ni : Int) := by omega
        have hq4 : (0 : Int) ≤ (q : Int) + 1 := by omega
        obtain ⟨a6', ea6, ha6', hr6⟩ := HI5.out (by omega)
        obtain rfl : a6 = a6' := Option.some.inj ea6
        obtain ⟨A10, k10, u0, hu, hun⟩ := hr6 q hq
        obtain ⟨A11, k11, u1, hu1, hun1⟩ := hr6 (q + 1) hq2
        obtain ⟨A9', k9', v0, hv, hvn⟩ := HR.out q hq
        have v0 : w5.cell? (a2.add q) = some (.slice A9' (t1.ln q) k9') := (hX5.b.cell (by rw [add_block]; exact ha2)).trans v0
        have hv := hv.to hX5.b hX5.b.size
        have hlq2 := HLq.out
        have hg : Arg w5.drew w5.drew.heap.size c0 p0 A10 c0.nl k10 (c0.sts t1 q) A9' (t1.ln q) k9' (t1.ip q) := ⟨hm0.to (below_dn hX5.b 1) hX5.b.size, hs, hu, hv, hun, hvn, by omega, by omega⟩
        have NN := Lib.hid (next_at HC.out rfl HLq.out w5.drew hg)
        have hXe : CS w.heap.size c0 p0 (a6.add q) (.slice A10 c0.nl k10) w5.drew ∧ w5.drew.cell? ⟨w.heap.size + 1, 1, none⟩ = some (.slice (some a2) t1.ni kk2) ∧ w5.drew.cell? (a2.add q) = some (.slice A9' (t1.ln q) k9') := ⟨cs_of hX5.c u0, x6, v0⟩
        have HXe := Lib.hid hXe
        have HU1 := Lib.hid (And.intro u1 hu1)
        clear y5 y6 hlast ea6 hr6 hu u1 hu1 hun hun1 hv hvn hg hXe hlq2 u0 v0
        have hx : (decide (q < m) = true ∧ ((q : Int) == (m : Int)) = false ∧ b = true) ∨ (decide (q < m) = false ∧ ((q : Int) == (m : Int)) = true ∧ b = false) ∨ (decide (q < m) = false ∧ ((q : Int) == (m : Int)) = false) := by
          rcases hway with ⟨h1, h2⟩ | ⟨h1, h2⟩ | h1
          · exact Or.inl ⟨decide_eq_true h1, by simp; omega, h2⟩
          · exact Or.inr (Or.inl ⟨decide_eq_false (by omega), by simp; omega, h2⟩)
          · exact Or.inr (Or.inr ⟨decide_eq_false (by omega), by simp; omega⟩)
        clear hway
        rcases hx with ⟨g1, g2, rfl⟩ | ⟨g1, g2, rfl⟩ | ⟨g1, g2⟩
        all_goals
          go_wp2
          refine wp_slots (fun f => Sz f 137 ∧ Slot f 2 (.pointer (some ⟨w.heap.size, 0, none⟩)) ∧ Slot f 3 (.pointer (some ⟨w.heap.size + 1, 0, none⟩)) ∧ Slot f 5 (.slice (some a6) t1.ni k6) ∧ Slot f 9 (.int .i64 (q : Int))) ⟨⟨rfl, rfl⟩, ⟨rfl⟩, ⟨rfl⟩, ⟨rfl⟩, ⟨rfl⟩⟩ fun a0 ha0 hR => ?_
          obtain ⟨hZ, hs2, hs3, hs5, hs9⟩ := hR
          have HA2 := Lib.hid ha0
          clear ha0
          have hS0 := HXe.out
          refine wp_region_T (fun w' : World => CS w.heap.size c0 p0 (a6.add q) (.slice A10 c0.nl k10) w' ∧ w'.cell? ⟨w.heap.size + 1, 1, none⟩ = some (.slice (some a2) t1.ni kk2) ∧ w'.cell? (a2.add q) = some (.slice A9' (t1.ln q) k9')) 16 (by kernel_rfl) ?_
          refine WT.h ?_
          (refine wt_take1 0 2 (v := ?_) rfl rfl (by kernel_rfl) (by kernel_rfl) (by kernel_rfl) (by kernel_rfl) (fun _ _ _ h => h) rfl hS0 (by (repeat (first | (refine slot_hit (N := 137) ?_ (by rfl); (repeat (refine sz_put ?_)); assumption; done) | (apply slot_miss; focus rfl))); all_goals assumption) (fun ev hk hv0 w hS => ?_) ?_; rotate_left; focus (obtain ⟨⟨j0, j1, j2, j3, j4, j5⟩, j6, j7⟩ := hS; go_simp; rfl)); (refine wt_move 1 5 rfl rfl (by kernel_rfl) (by kernel_rfl) (by kernel_rfl) (by kernel_rfl) (fun _ _ _ h => h) rfl hS0 (by (repeat (first | (refine slot_hit (N := 137) ?_ (by rfl); (repeat (refine sz_put ?_)); assumption; done) | (apply slot_miss; focus rfl))); all_goals assumption) rfl ?_); (refine wt_move 2 9 rfl rfl (by kernel_rfl) (by kernel_rfl) (by kernel_rfl) (by kernel_rfl) (fun _ _ _ h => h) rfl hS0 (by (repeat (first | (refine slot_hit (N := 137) ?_ (by rfl); (repeat (refine sz_put ?_)); assumption; done) | (apply slot_miss; focus rfl))); all_goals assumption) rfl ?_); (refine wt_take2 3 112 113 (v := ?_) rfl rfl (by kernel_rfl) (by kernel_rfl) (by kernel_rfl) (by kernel_rfl) (fun _ _ _ h => h) rfl hS0 (by (repeat (first | (refine slot_hit (N := 137) ?_ (by rfl); (repeat (refine sz_put ?_)); assumption; done) | (apply slot_miss; focus rfl))); all_goals assumption) (by (repeat (first | (refine slot_hit (N := 137) ?_ (by rfl); (repeat (refine sz_put ?_)); assumption; done) | (apply slot_miss; focus rfl))); all_goals assumption) (fun ev hk hv0 hv1 w hS => ?_) ?_; rotate_left; focus (obtain ⟨⟨j0, j1, j2, j3, j4, j5⟩, j6, j7⟩ := hS; go_simp; rfl)); (refine wt_take1 4 114 (v := ?_) rfl rfl (by kernel_rfl) (by kernel_rfl) (by kernel_rfl) (by kernel_rfl) (fun _ _ _ h => h) rfl hS0 (by (repeat (first | (refine slot_hit (N := 137) ?_ (by rfl); (repeat (refine sz_put ?_)); assumption; done) | (apply slot_miss; focus rfl))); all_goals assumption) (fun ev hk hv0 w hS => ?_) ?_; rotate_left; focus (obtain ⟨⟨j0, j1, j2, j3, j4, j5⟩, j6, j7⟩ := hS; go_simp; rfl)); (refine wt_take1 5 3 (v := ?_) rfl rfl (by kernel_rfl) (by kernel_rfl) (by kernel_rfl) (by kernel_rfl) (fun _ _ _ h => h) rfl hS0 (by (repeat (first | (refine slot_hit (N := 137) ?_ (by rfl); (repeat (refine sz_put ?_)); assumption; done) | (apply slot_miss; focus rfl))); all_goals assumption) (fun ev hk hv0 w hS => ?_) ?_; rotate_left; focus (obtain ⟨⟨j0, j1, j2, j3, j4, j5⟩, j6, j7⟩ := hS; go_simp; rfl)); (refine wt_take1 6 116 (v := ?_) rfl rfl (by kernel_rfl) (by kernel_rfl) (by kernel_rfl) (by kernel_rfl) (fun _ _ _ h => h) rfl hS0 (by (repeat (first | (refine slot_hit (N := 137) ?_ (by rfl); (repeat (refine sz_put ?_)); assumption; done) | (apply slot_miss; focus rfl))); all_goals assumption) (fun ev hk hv0 w hS => ?_) ?_; rotate_left; focus (obtain ⟨⟨j0, j1, j2, j3, j4, j5⟩, j6, j7⟩ := hS; go_simp; rfl)); (refine wt_move 7 9 rfl rfl (by kernel_rfl) (by kernel_rfl) (by kernel_rfl) (by kernel_rfl) (fun _ _ _ h => h) rfl hS0 (by (repeat (first | (refine slot_hit (N := 137) ?_ (by rfl); (repeat (refine sz_put ?_)); assumption; done) | (apply slot_miss; focus rfl))); all_goals assumption) rfl ?_); (refine wt_take2 8 117 118 (v := ?_) rfl rfl (by kernel_rfl) (by kernel_rfl) (by kernel_rfl) (by kernel_rfl) (fun _ _ _ h => h) rfl hS0 (by (repeat (first | (refine slot_hit (N := 137) ?_ (by rfl); (repeat (refine sz_put ?_)); assumption; done) | (apply slot_miss; focus rfl))); all_goals assumption) (by (repeat (first | (refine slot_hit (N := 137) ?_ (by rfl); (repeat (refine sz_put ?_)); assumption; done) | (apply slot_miss; focus rfl))); all_goals assumption) (fun ev hk hv0 hv1 w hS => ?_) ?_; rotate_left; focus (obtain ⟨⟨j0, j1, j2, j3, j4, j5⟩, j6, j7⟩ := hS; go_simp; rfl)); (refine wt_take1 9 119 (v := ?_) rfl rfl (by kernel_rfl) (by kernel_rfl) (by kernel_rfl) (by kernel_rfl) (fun _ _ _ h => h) rfl hS0 (by (repeat (first | (refine slot_hit (N := 137) ?_ (by rfl); (repeat (refine sz_put ?_)); assumption; done) | (apply slot_miss; focus rfl))); all_goals assumption) (fun ev hk hv0 w hS => ?_) ?_; rotate_left; focus (obtain ⟨⟨j0, j1, j2, j3, j4, j5⟩, j6, j7⟩ := hS; go_simp; rfl))
          refine wt_call3 10 111 115 120 (by kernel_rfl) rfl rfl rfl (by (repeat (first | (refine slot_hit (N := 137) ?_ (by rfl); (repeat (refine sz_put ?_)); assumption; done) | (apply slot_miss; focus rfl))); all_goals assumption) (by (repeat (first | (refine slot_hit (N := 137) ?_ (by rfl); (repeat (refine sz_put ?_)); assumption; done) | (apply slot_miss; focus rfl))); all_goals assumption) (by (repeat (first | (refine slot_hit (N := 137) ?_ (by rfl); (repeat (refine sz_put ?_)); assumption; done) | (apply slot_miss; focus rfl))); all_goals assumption) (f := ?_) (args := ?_) (fun ev hk hkf hv0 hv1 hv2 => ?_) ?_; rotate_left 2; focus (go_simp; first | rfl | (constructor <;> rfl))
          (with_reducible refine NN.out.mono ?_)
          rintro e w7 ⟨A12, k12, rfl, hi12, hb7, _⟩
          have hb7' : Below w5.heap.size w5 w7 := Below.undn' hb7
          have hX7 := hX5.call hb7'
          have hS0 : (fun w' : World => CS w.heap.size c0 p0 (a6.add q) (.slice A10 c0.nl k10) w' ∧ w'.cell? ⟨w.heap.size + 1, 1, none⟩ = some (.slice (some a2) t1.ni kk2) ∧ w'.cell? (a2.add q) = some (.slice A9' (t1.ln q) k9')) w7 := ⟨HXe.out.1.keep hb7, (hb7.cell (cell_lt HXe.out.2.1)).trans HXe.out.2.1, (hb7.cell (cell_lt HXe.out.2.2)).trans HXe.out.2.2⟩
          refine ⟨_, rfl, fun _ => hS0, ?_⟩
          (refine wt_move 11 121 rfl rfl (by kernel_rfl) (by kernel_rfl) (by kernel_rfl) (by kernel_rfl) (fun _ _ _ h => h) rfl hS0 (by (repeat (first | (refine slot_hit (N := 137) ?_ (by rfl); (repeat (refine sz_put ?_)); assumption; done) | (apply slot_miss; focus rfl))); all_goals assumption) rfl ?_); (refine wt_take1 12 110 (v := ?_) rfl rfl (by kernel_rfl) (by kernel_rfl) (by kernel_rfl) (by kernel_rfl) (fun _ _ _ h => h) rfl hS0 (by (repeat (first | (refine slot_hit (N := 137) ?_ (by rfl); (repeat (refine sz_put ?_)); assumption; done) | (apply slot_miss; focus rfl))); all_goals assumption) (fun ev hk hv0 w hS => ?_) ?_; rotate_left; focus (obtain ⟨⟨j0, j1, j2, j3, j4, j5⟩, j6, j7⟩ := hS; go_simp; rfl)); (refine wt_take1 13 110 (v := ?_) rfl rfl (by kernel_rfl) (by kernel_rfl) (by kernel_rfl) (by kernel_rfl) (fun _ _ _ h => h) rfl hS0 (by (repeat (first | (refine slot_hit (N := 137) ?_ (by rfl); (repeat (refine sz_put ?_)); assumption; done) | (apply slot_miss; focus rfl))); all_goals assumption) (fun ev hk hv0 w hS => ?_) ?_; rotate_left; focus (obtain ⟨⟨j0, j1, j2, j3, j4, j5⟩, j6, j7⟩ := hS; go_simp; rfl)); (refine wt_assign 14 122 rfl rfl (by kernel_rfl) (by kernel_rfl) (by kernel_rfl) (by kernel_rfl) (fun _ _ _ h => h) rfl hS0 (by (repeat (first | (refine slot_hit (N := 137) ?_ (by rfl); (repeat (refine sz_put ?_)); assumption; done) | (apply slot_miss; focus rfl))); all_goals assumption) rfl ?_); (refine wt_assign 15 123 rfl rfl (by kernel_rfl) (by kernel_rfl) (by kernel_rfl) (by kernel_rfl) (fun _ _ _ h => h) rfl hS0 (by (repeat (first | (refine slot_hit (N := 137) ?_ (by rfl); (repeat (refine sz_put ?_)); assumption; done) | (apply slot_miss; focus rfl))); all_goals assumption) rfl ?_)
          refine wt_done (by kernel_rfl) (NoPanic.normal ?_) _
          have ha := HA2.out
          subst ha
          have hi7 := HI5.out.to hb7' hb7'.size
          have HI7 := Lib.hid hi7
          have y7 : w7.cell? (a6.add (q + 1)) = some (.slice A11 c0.nl k11) := (hb7'.cell (cell_lt HU1.out.1)).trans HU1.out.1
          rw [Addr.add_succ'] at y7
          have hu11 := HU1.out.2.to hb7' hb7'.size
          have HSM : Hid (samB c0.nl c0.nl (c0.nv (c0.sts t1 q) (t1.ip q)) (c0.sts t1 (q + 1)) = true) := by show _ = _; exact samB_yes fun _ _ => rfl
          have C7 := Lib.hid (samBs_at HSM.out A12 A11 k12 k11 w7.heap.size w7 (by omega) (by omega) hi12 hu11)
          clear hS0 hb7 hZ hs2 hs3 hs5 hs9 x0 x1 x2 x3 x4 x5 x6 z0 z1 hi7 hi12 hu11
          go_wp2_with (go_at_call 27; (with_reducible refine C7.out.mono ?_); rintro e w8 ⟨rfl, hb8⟩; have hX8 := hX7.call hb8)
          go_roundw
          case rel => exact ⟨q + 1, hq2, by go_num, hX8, HI7.out.to hb8 hb8.size⟩
          case measure => simp [intOf]; omega

set_option maxRecDepth 100000 in
theorem lifted (os : Os) (started : os.Started) (H : Type) (enc : TypeId × Value → H) :
    ReturnsInHanded {} Try.checked os 5 .any (Rows.tracesFramesSpec.pre6 enc Try.prog Try.f5 Rows.tracesFramesRow.domain false) (Rows.tracesFramesSpec.post enc Try.prog Try.f5 false true false false) := by
  refine returnsInHanded_of_change (C := Try.checked) own started (by kernel_rfl) Try.func5
    (ChangeSpec.witness6 (enc := enc) (C := Try.checked) false ⟨#[], #[.agg #[.int .i64 0, .slice none 0 0, .slice none 0 0, .slice none 0 0, .slice none 0 0], .agg #[.slice none 0 0, .slice none 0 0]], []⟩ 12 (by kernel_rfl) (by kernel_rfl) (by kernel_rfl) (by kernel_rfl)) ?_
  intro W base args ds gs before hval0 hW hcnd _
  have hval : ∀ (j : Nat) t v, Try.f5.params[j]? = some t → args[j]? = some v → Value.okWide Try.prog W .any base t v := hval0
  have hW' := hW
  have hlt : ∀ x ∈ before, x.block < W.heap.size := fun x hx => by simpa using hW'.lt x hx
  obtain ⟨p, q, hA0, hV, rfl, hfz, hnd⟩ := hW
  have hA : DataW.TrodAll enc Try.prog W 0 (fun _ => true) true Try.f5.params.toList args.toList ds p := hA0
  rw [Try.params5] at hA hval
  obtain ⟨v0, vs0, d0, ds0, b0, q0, hargs, rfl, rfl, h0, r0⟩ := trodAll_cons hA
  obtain ⟨v1, vs1, d1, ds1, b1, q1, rfl, rfl, rfl, h1, r1⟩ := trodAll_cons r0
  obtain ⟨rfl, rfl, rfl⟩ := trodAll_nil r1
  obtain rfl : args = #[v0, v1] := by cases args; simp_all
  obtain ⟨rfl, rfl⟩ := trodVars_none hV
  obtain ⟨c0, p0, rfl, hm0, hN0, hv0, hC0⟩ := open_circ (hval 0 28 v0 rfl rfl) h0
  obtain ⟨t1, q1, rfl, ht1⟩ := open_tr6 (hval 1 32 v1 rfl rfl) h1
  have hlo : laidOutB Try.prog = true := by kernel_rfl
  clear hA0 hval0
  simp only [List.append_nil] at hW' hlt
  refine (walk c0 p0 t1 q1 W hm0 hN0 hv0 hC0 ht1).mono fun e W' ⟨he, hb⟩ => ?_
  subst he
  have hback := (trodAll_cons_mk (arg_back (W' := W') hlo (by kernel_rfl) (of_decide_eq_true (by kernel_rfl)) h0 hb (fun x hx => hlt x (by simp [hx]))) (trodAll_cons_mk (arg_back (W' := W') hlo (by kernel_rfl) (of_decide_eq_true (by kernel_rfl)) h1 hb (fun x hx => hlt x (by simp [hx]))) trodAll_mk0))
  simp only [List.append_nil, List.nil_append] at hback
  exact ⟨_, rfl, law_post hW' (trodAll_cons_mk (shut_bool Try.underlying4 _) trodAll_mk0) hback rfl hb⟩

theorem over : Rows.tracesFramesRow.holds Try.pinned (OpenSpec.ofChange Rows.tracesFramesSpec) :=
  OpenClaim.holds_of_wide 5 Try.f5 rfl rfl rfl rfl rfl rfl rfl ⟨rfl, rfl, rfl, rfl, rfl⟩ rfl rfl rfl rfl rfl (by kernel_rfl) Try.func5 (by kernel_rfl)
    (of_decide_eq_true (by kernel_rfl)) (by unfold Func.isWrapper; first | (rw [if_pos (by decide +kernel)]; kernel_rfl) | (rw [if_neg (by decide +kernel)]; exact ⟨rfl, rfl⟩))
    (fun os started H enc _ => lifted os started H enc)

theorem proved : Rows.TracesFramesSaid :=
  over
end Go.Proofs.Ytnkpmcpinicciab.tracesFrames
