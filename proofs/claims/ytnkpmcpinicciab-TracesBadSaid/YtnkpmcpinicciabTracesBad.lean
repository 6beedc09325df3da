/- For all valid circuits and right runs that are not great: a witness tells the first bad literal that is true in its last frame, without constraints a run is allowed in all of its frames, and without bad literals there is no witness. No conditions. -/
import Derived.Test.YtnkpmcpinicciabTraceAlive
import Derived.Test.YtnkpmcpinicciabTraceBadKit
import Derived.Test.YtnkpmcpinicciabHeadSlot
namespace Go.Proofs.Ytnkpmcpinicciab.tracesBad
open Go.ChangeShapes Go.WideShapes Go.ChangeAt Go.RowKit
set_option linter.unusedVariables false
set_option linter.unusedSimpArgs false


theorem own : ownKnob Try.prog.godebug = none := by kernel_rfl

set_option maxRecDepth 100000 in
set_option maxHeartbeats 40000000 in
theorem walk (c0 : Cr) (p0 : Pl) (t1 : Tr) (q1 : Tp) (w : World) (hm0 : Mem w w.heap.size c0 p0) (hN0 : Nils c0 p0) (hv0 : Vals c0) (hC0 : Caps c0 p0) (ht1 : TMem w w.heap.size t1 q1) :
    Calls Try.prog 7 #[cv c0 p0, tv t1 q1] w fun e w' => e = .returned (.bool true) ∧ Below w.heap.size w w' := by
  cases hft : ft6 c0 t1
  · go_enter Try.func7, Try.ntmps7
    go_wp2_with (first
      | (go_at_call 26; (with_reducible refine (fit6_any _ (hm0.to (ct_b w c0 p0 t1 q1) (ct_z w c0 p0 t1 q1)) hv0 (ht1.to (ct_b w c0 p0 t1 q1) (ct_z w c0 p0 t1 q1))).mono ?_); rw [hft]; rintro e w1 ⟨rfl, hb1⟩; have hX1 := Bx.first hb1)
      | (go_at_call 18; refine (alive6_any _).mono ?_; rintro e w2 ⟨rfl, hb2⟩; have hX2 := hX1.call hb2))
    go_ret
    exact ⟨rfl, hX2.b⟩
  · obtain ⟨hg, hg1, hk⟩ := ft6_yes hft
    have hgr := Cr.gr_no hg
    have hs : Sm c0 := hv0.sm (by omega) (by omega) (by omega) (by omega)
    have hts := Tr.gr_no hg1
    have hg0 : RArg w w.heap.size c0 p0 t1 q1 := ⟨hm0, hs, ht1, hts⟩
    obtain ⟨hc, hn0, hn1, _, _, hln⟩ := Cr.tck_ok hk
    have hip := ht1.ip
    have hnl := hs.nl
    have hnb := hs.nb
    obtain ⟨A1, kk1, A2, kk2⟩ := q1
    dsimp only at hip
    obtain ⟨a2, rfl, ha2, hr2⟩ := hip hn0
    obtain ⟨m, hm⟩ : ∃ m, c0.alw t1 = m := ⟨_, rfl⟩
    have hmN : m ≤ t1.ni := by rw [← hm]; exact led_le _ _
    obtain ⟨M, hM⟩ : ∃ M, t1.ni = M + 1 := ⟨t1.ni - 1, by omega⟩
    obtain ⟨x, hx⟩ : ∃ x, c0.wti t1 = x := ⟨_, rfl⟩
    obtain ⟨y, hy⟩ : ∃ y, c0.wte t1 = y := ⟨_, rfl⟩
    obtain ⟨P, hP⟩ : ∃ P, c0.bv (c0.sts t1 M) (t1.ip M) = P := ⟨_, rfl⟩
    have hxy : (m < t1.ni ∧ y = 57) ∨ (m = t1.ni ∧ led (fun j => !P j) c0.nb = c0.nb ∧ y = 57) ∨ (m = t1.ni ∧ led (fun j => !P j) c0.nb < c0.nb ∧ y = 0 ∧ x = (led (fun j => !P j) c0.nb : Int)) := by
      have e : c0.ff t1 (t1.ni - 1) = led (fun j => !P j) c0.nb := by
        rw [show t1.ni - 1 = M by omega, ← hP]; rfl
      have hl := led_le (fun j => !P j) c0.nb
      have hsh : c0.shw t1 = if m < t1.ni ∨ led (fun j => !P j) c0.nb = c0.nb then -1 else (led (fun j => !P j) c0.nb : Int) := by unfold Cr.shw; rw [hm, e]
      have hy' : y = if 0 ≤ c0.shw t1 then 0 else 57 := by rw [← hy]; exact if_pos hk
      have hx' : x = if c0.tck t1 = 0 ∧ 0 ≤ c0.shw t1 then c0.shw t1 else 0 := hx.symm
      by_cases h1 : m < t1.ni
      · refine Or.inl ⟨h1, ?_⟩
        rw [hy', hsh, if_pos (Or.inl h1), if_neg (by omega)]
      · have h1' : m = t1.ni := by omega
        by_cases h2 : led (fun j => !P j) c0.nb = c0.nb
        · refine Or.inr (Or.inl ⟨h1', h2, ?_⟩)
          rw [hy', hsh, if_pos (Or.inr h2), if_neg (by omega)]
        · have h3 : c0.shw t1 = (led (fun j => !P j) c0.nb : Int) := by rw [hsh, if_neg (by omega)]
          refine Or.inr (Or.inr ⟨h1', by omega, ?_, ?_⟩)
          · rw [hy', h3, if_pos (by omega)]
          · rw [hx', h3, if_pos ⟨hk, by omega⟩]
    have hy57 : y = 57 ∨ y = 0 := by rcases hxy with h | h | h <;> omega
    have F1 := Lib.hid (fun W (hW : RArg W W.heap.size c0 p0 t1 ⟨A1, kk1, some a2, kk2⟩) => right_free hk W hW)
    have F2 := Lib.hid (fun W (hW : RArg W W.heap.size c0 p0 t1 ⟨A1, kk1, some a2, kk2⟩) => wit_nob hk W hW)
    have F4 := Lib.hid (fun W (hW : RArg W W.heap.size c0 p0 t1 ⟨A1, kk1, some a2, kk2⟩) => wit_at hx hy W hW)
    have F5 := Lib.hid (fun W (hW : RArg W W.heap.size c0 p0 t1 ⟨A1, kk1, some a2, kk2⟩) => right_at hk hm W hW)
    have S1 : Hid (∀ W, RArg W W.heap.size c0 p0 t1 ⟨A1, kk1, some a2, kk2⟩ → Calls Try.prog 8 #[cv c0 p0, tv t1 ⟨A1, kk1, some a2, kk2⟩] W (RowsErr t1.ni (fun _ => c0.nl) (c0.sts t1) 0 W)) := fun W hW => states_yes hk W hW
    have HC := Lib.hid hc
    have HL := Lib.hid hln
    have HR := Lib.hid hr2
    have HFT := Lib.hid hft
    have HM := Lib.hid hM
    have HP := Lib.hid hP
    have HXY := Lib.hid hxy
    have HY := Lib.hid hy57
    have e2 : (t1.ni : Int) - 1 = (M : Int) := by omega
    have hM0 : (0 : Int) ≤ (M : Int) := by omega
    have hM1 : (M : Int) < (t1.ni : Int) := by omega
    have wM : IntKind.i64.wrap (M : Int) = (M : Int) := IntWalk.i64_in _ (by omega)
    rename_i hz1 hz2
    clear hm hk hc hln hr2 hft hip hg hg1 hM hx hy hP hxy hy57 hz1 hz2
    go_enter Try.func7, Try.ntmps7
    go_wp2_with (go_at_call 26; (with_reducible refine (fit6_any _ (hm0.to (ct_b w c0 p0 t1 ⟨A1, kk1, some a2, kk2⟩) (ct_z w c0 p0 t1 ⟨A1, kk1, some a2, kk2⟩)) hv0 (ht1.to (ct_b w c0 p0 t1 ⟨A1, kk1, some a2, kk2⟩) (ct_z w c0 p0 t1 ⟨A1, kk1, some a2, kk2⟩))).mono ?_); rw [HFT.out]; rintro e w1 ⟨rfl, hb1⟩; have hX1 := Bx.first hb1; have hc1 := hX1.cells; dsimp only at hc1; obtain ⟨x0, x1, x2, x3, x4, x5, x6, z0, z1⟩ := hc1)
    go_region
    · go_wp2_with (go_at_call 9; refine (F1.out _ (RArg.to2 hg0 hX1.b)).mono ?_; rintro e w4 ⟨rfl, hb4⟩; obtain ⟨hb14, hP, hQ⟩ := two_box hb4; have hX4 := hX1.call hb14; have hc4 := hX4.cells; dsimp only at hc4; obtain ⟨x0, x1, x2, x3, x4, x5, x6, z0, z1⟩ := hc4; have u0 : w4.cell? ⟨w1.heap.size + 1, 0, none⟩ = some (.int .i64 c0.i) := hQ.cell 0; have u1 : w4.cell? ⟨w1.heap.size + 1, 1, none⟩ = some (.slice p0.A1 c0.nl p0.k1) := hQ.cell 1; have u2 : w4.cell? ⟨w1.heap.size + 1, 2, none⟩ = some (.slice p0.A2 c0.na p0.k2) := hQ.cell 2; have u3 : w4.cell? ⟨w1.heap.size + 1, 3, none⟩ = some (.slice none 0 0) := hQ.cell 3; have u4 : w4.cell? ⟨w1.heap.size + 1, 4, none⟩ = some (.slice p0.A4 c0.nc p0.k4) := hQ.cell 4; have uz := hQ.lt)
      go_wp2_with (go_at_call 10; (with_reducible refine (F2.out _ (hg0.to hX4.b hX4.b.size)).mono ?_); rintro e w5 ⟨xx, rfl, hb5⟩; have hX5 := hX4.call hb5; have hc5 := hX5.cells; dsimp only at hc5; obtain ⟨x0, x1, x2, x3, x4, x5, x6, z0, z1⟩ := hc5)
      clear u0 u1 u2 u3 u4 uz hP hQ hb14
      go_wp2_with (first
        | (go_at_call 8; (with_reducible refine (S1.out _ (hg0.to hX5.b hX5.b.size)).mono ?_); rintro e w6 ⟨A6, k6, rfl, hi6, hc6', hb6⟩; have hX6 := hX5.call hb6; have hc6 := hX6.cells; dsimp only at hc6; obtain ⟨x0, x1, x2, x3, x4, x5, x6, z0, z1⟩ := hc6)
        | (go_at_call 10; (with_reducible refine (F4.out _ (hg0.to hX6.b hX6.b.size)).mono ?_); rintro e w7 ⟨rfl, hb7⟩; have hX7 := hX6.call hb7; have hi7 := hi6.to hb7 hb7.size; have hc7 := hX7.cells; dsimp only at hc7; obtain ⟨x0, x1, x2, x3, x4, x5, x6, z0, z1⟩ := hc7)
        | (go_at_call 9; (with_reducible refine (F5.out _ (hg0.to hX7.b hX7.b.size)).mono ?_); rintro e w8 ⟨rfl, hb8⟩; have hX8 := hX7.call hb8; have hi8 := hi7.to hb8 hb8.size; have hc8 := hX8.cells; dsimp only at hc8; obtain ⟨x0, x1, x2, x3, x4, x5, x6, z0, z1⟩ := hc8))
      obtain ⟨a6, rfl, ha6, hr6⟩ := hi8 (by omega)
      have hMlt : M < t1.ni := by have := HM.out; omega
      obtain ⟨A8, k8, u0, hu, hun⟩ := hr6 M hMlt
      obtain ⟨A9, k9, v0, hv, hvn⟩ := HR.out M hMlt
      have v0 : w8.cell? (a2.add M) = some (.slice A9 (t1.ln M) k9) := (hX8.b.cell (by rw [add_block]; exact ha2)).trans v0
      have hv := hv.to hX8.b hX8.b.size
      have hl := HL.out M hMlt
      have HLq := Lib.hid hl
      have hlq : t1.ln M ≤ 100000 := by have := hts.ln M hMlt; omega
      obtain ⟨b, hb⟩ : ∃ b, c0.hol (c0.sts t1 M) (t1.ip M) = b := ⟨_, rfl⟩
      have hg : Arg w8.drew w8.drew.heap.size c0 p0 A8 c0.nl k8 (c0.sts t1 M) A9 (t1.ln M) k9 (t1.ip M) := ⟨hm0.to (below_dn hX8.b 1) hX8.b.size, hs, hu, hv, hun, hvn, by omega, by omega⟩
      have PP := props_at HC.out rfl HLq.out w8.drew hg
      rw [hb, HP.out] at PP
      have HPP := Lib.hid PP
      have hXd : CS w.heap.size c0 p0 (a6.add M) (.slice A8 c0.nl k8) w8.drew ∧ w8.drew.cell? ⟨w.heap.size + 1, 1, none⟩ = some (.slice (some a2) t1.ni kk2) ∧ w8.drew.cell? (a2.add M) = some (.slice A9 (t1.ln M) k9) := ⟨cs_of hX8.c u0, x6, v0⟩
      have HXd := Lib.hid hXd
      clear hl hb PP hu hun hv hvn hg hXd u0 v0 hr6
      refine wp_slots (fun f => Sz f 141 ∧ Slot f 2 (.pointer (some ⟨w.heap.size, 0, none⟩)) ∧ Slot f 3 (.pointer (some ⟨w.heap.size + 1, 0, none⟩)) ∧ Slot f 7 (.int .i64 (t1.ni : Int)) ∧ Slot f 11 (.slice (some a6) t1.ni k6)) ⟨⟨rfl, rfl⟩, ⟨rfl⟩, ⟨rfl⟩, ⟨rfl⟩, ⟨rfl⟩⟩ fun a0 ha0 hR => ?_
      obtain ⟨hZ, hs2, hs3, hs7, hs11⟩ := hR
      have HA := Lib.hid ha0
      clear ha0
      have hS0 := HXd.out
      refine wp_region_T (fun w' : World => CS w.heap.size c0 p0 (a6.add M) (.slice A8 c0.nl k8) w' ∧ w'.cell? ⟨w.heap.size + 1, 1, none⟩ = some (.slice (some a2) t1.ni kk2) ∧ w'.cell? (a2.add M) = some (.slice A9 (t1.ln M) k9)) 20 (by kernel_rfl) ?_
      refine WT.h ?_
      (refine wt_take1 0 2 (v := ?_) rfl rfl (by kernel_rfl) (by kernel_rfl) (by kernel_rfl) (by kernel_rfl) (fun _ _ _ h => h) rfl hS0 (by (repeat (first | (refine slot_hit (N := 141) ?_ (by rfl); (repeat (refine sz_put ?_)); assumption; done) | (apply slot_miss; focus rfl))); all_goals assumption) (fun ev hk hv0 w hS => ?_) ?_; rotate_left; focus (obtain ⟨⟨j0, j1, j2, j3, j4, j5⟩, j6, j7⟩ := hS; go_simp; rfl)); (refine wt_move 1 11 rfl rfl (by kernel_rfl) (by kernel_rfl) (by kernel_rfl) (by kernel_rfl) (fun _ _ _ h => h) rfl hS0 (by (repeat (first | (refine slot_hit (N := 141) ?_ (by rfl); (repeat (refine sz_put ?_)); assumption; done) | (apply slot_miss; focus rfl))); all_goals assumption) rfl ?_); (refine wt_move 2 7 rfl rfl (by kernel_rfl) (by kernel_rfl) (by kernel_rfl) (by kernel_rfl) (fun _ _ _ h => h) rfl hS0 (by (repeat (first | (refine slot_hit (N := 141) ?_ (by rfl); (repeat (refine sz_put ?_)); assumption; done) | (apply slot_miss; focus rfl))); all_goals assumption) rfl ?_); (refine wt_take1 3 87 (v := ?_) rfl rfl (by kernel_rfl) (by kernel_rfl) (by kernel_rfl) (by kernel_rfl) (fun _ _ _ h => h) rfl hS0 (by (repeat (first | (refine slot_hit (N := 141) ?_ (by rfl); (repeat (refine sz_put ?_)); assumption; done) | (apply slot_miss; focus rfl))); all_goals assumption) (fun ev hk hv0 w hS => ?_) ?_; rotate_left; focus (obtain ⟨⟨j0, j1, j2, j3, j4, j5⟩, j6, j7⟩ := hS; go_simp; rfl)); (refine wt_take2 4 86 88 (v := ?_) rfl rfl (by kernel_rfl) (by kernel_rfl) (by kernel_rfl) (by kernel_rfl) (fun _ _ _ h => h) rfl hS0 (by (repeat (first | (refine slot_hit (N := 141) ?_ (by rfl); (repeat (refine sz_put ?_)); assumption; done) | (apply slot_miss; focus rfl))); all_goals assumption) (by (repeat (first | (refine slot_hit (N := 141) ?_ (by rfl); (repeat (refine sz_put ?_)); assumption; done) | (apply slot_miss; focus rfl))); all_goals assumption) (fun ev hk hv0 hv1 w hS => ?_) ?_; rotate_left; focus (obtain ⟨⟨j0, j1, j2, j3, j4, j5⟩, j6, j7⟩ := hS; go_simp; rfl)); (refine wt_take1 5 89 (v := ?_) rfl rfl (by kernel_rfl) (by kernel_rfl) (by kernel_rfl) (by kernel_rfl) (fun _ _ _ h => h) rfl hS0 (by (repeat (first | (refine slot_hit (N := 141) ?_ (by rfl); (repeat (refine sz_put ?_)); assumption; done) | (apply slot_miss; focus rfl))); all_goals assumption) (fun ev hk hv0 w hS => ?_) ?_; rotate_left; focus (obtain ⟨⟨j0, j1, j2, j3, j4, j5⟩, j6, j7⟩ := hS; go_simp; rfl)); (refine wt_take1 6 3 (v := ?_) rfl rfl (by kernel_rfl) (by kernel_rfl) (by kernel_rfl) (by kernel_rfl) (fun _ _ _ h => h) rfl hS0 (by (repeat (first | (refine slot_hit (N := 141) ?_ (by rfl); (repeat (refine sz_put ?_)); assumption; done) | (apply slot_miss; focus rfl))); all_goals assumption) (fun ev hk hv0 w hS => ?_) ?_; rotate_left; focus (obtain ⟨⟨j0, j1, j2, j3, j4, j5⟩, j6, j7⟩ := hS; go_simp; rfl)); (refine wt_take1 7 91 (v := ?_) rfl rfl (by kernel_rfl) (by kernel_rfl) (by kernel_rfl) (by kernel_rfl) (fun _ _ _ h => h) rfl hS0 (by (repeat (first | (refine slot_hit (N := 141) ?_ (by rfl); (repeat (refine sz_put ?_)); assumption; done) | (apply slot_miss; focus rfl))); all_goals assumption) (fun ev hk hv0 w hS => ?_) ?_; rotate_left; focus (obtain ⟨⟨j0, j1, j2, j3, j4, j5⟩, j6, j7⟩ := hS; go_simp; rfl)); (refine wt_move 8 7 rfl rfl (by kernel_rfl) (by kernel_rfl) (by kernel_rfl) (by kernel_rfl) (fun _ _ _ h => h) rfl hS0 (by (repeat (first | (refine slot_hit (N := 141) ?_ (by rfl); (repeat (refine sz_put ?_)); assumption; done) | (apply slot_miss; focus rfl))); all_goals assumption) rfl ?_); (refine wt_take1 9 93 (v := ?_) rfl rfl (by kernel_rfl) (by kernel_rfl) (by kernel_rfl) (by kernel_rfl) (fun _ _ _ h => h) rfl hS0 (by (repeat (first | (refine slot_hit (N := 141) ?_ (by rfl); (repeat (refine sz_put ?_)); assumption; done) | (apply slot_miss; focus rfl))); all_goals assumption) (fun ev hk hv0 w hS => ?_) ?_; rotate_left; focus (obtain ⟨⟨j0, j1, j2, j3, j4, j5⟩, j6, j7⟩ := hS; go_simp; rfl)); (refine wt_take2 10 92 94 (v := ?_) rfl rfl (by kernel_rfl) (by kernel_rfl) (by kernel_rfl) (by kernel_rfl) (fun _ _ _ h => h) rfl hS0 (by (repeat (first | (refine slot_hit (N := 141) ?_ (by rfl); (repeat (refine sz_put ?_)); assumption; done) | (apply slot_miss; focus rfl))); all_goals assumption) (by (repeat (first | (refine slot_hit (N := 141) ?_ (by rfl); (repeat (refine sz_put ?_)); assumption; done) | (apply slot_miss; focus rfl))); all_goals assumption) (fun ev hk hv0 hv1 w hS => ?_) ?_; rotate_left; focus (obtain ⟨⟨j0, j1, j2, j3, j4, j5⟩, j6, j7⟩ := hS; go_simp; rfl)); (refine wt_take1 11 95 (v := ?_) rfl rfl (by kernel_rfl) (by kernel_rfl) (by kernel_rfl) (by kernel_rfl) (fun _ _ _ h => h) rfl hS0 (by (repeat (first | (refine slot_hit (N := 141) ?_ (by rfl); (repeat (refine sz_put ?_)); assumption; done) | (apply slot_miss; focus rfl))); all_goals assumption) (fun ev hk hv0 w hS => ?_) ?_; rotate_left; focus (obtain ⟨⟨j0, j1, j2, j3, j4, j5⟩, j6, j7⟩ := hS; go_simp; rfl))
      refine wt_call3 12 85 90 96 (by kernel_rfl) rfl rfl rfl (by (repeat (first | (refine slot_hit (N := 141) ?_ (by rfl); (repeat (refine sz_put ?_)); assumption; done) | (apply slot_miss; focus rfl))); all_goals assumption) (by (repeat (first | (refine slot_hit (N := 141) ?_ (by rfl); (repeat (refine sz_put ?_)); assumption; done) | (apply slot_miss; focus rfl))); all_goals assumption) (by (repeat (first | (refine slot_hit (N := 141) ?_ (by rfl); (repeat (refine sz_put ?_)); assumption; done) | (apply slot_miss; focus rfl))); all_goals assumption) (f := ?_) (args := ?_) (fun ev hk hkf hv0 hv1 hv2 => ?_) ?_; rotate_left 2; focus (go_simp; first | rfl | (constructor <;> rfl))
      (with_reducible refine HPP.out.mono ?_)
      rintro e w9 ⟨A5, k5, rfl, hi5, hb9, hn5, hf5⟩
      have hb9' : Below w8.heap.size w8 w9 := Below.undn' hb9
      have hX9 := hX8.call hb9'
      have hS0 : (fun w' : World => CS w.heap.size c0 p0 (a6.add M) (.slice A8 c0.nl k8) w' ∧ w'.cell? ⟨w.heap.size + 1, 1, none⟩ = some (.slice (some a2) t1.ni kk2) ∧ w'.cell? (a2.add M) = some (.slice A9 (t1.ln M) k9)) w9 := ⟨HXd.out.1.keep hb9, (hb9.cell (cell_lt HXd.out.2.1)).trans HXd.out.2.1, (hb9.cell (cell_lt HXd.out.2.2)).trans HXd.out.2.2⟩
      refine ⟨_, rfl, fun _ => hS0, ?_⟩
      (refine wt_move 13 97 rfl rfl (by kernel_rfl) (by kernel_rfl) (by kernel_rfl) (by kernel_rfl) (fun _ _ _ h => h) rfl hS0 (by (repeat (first | (refine slot_hit (N := 141) ?_ (by rfl); (repeat (refine sz_put ?_)); assumption; done) | (apply slot_miss; focus rfl))); all_goals assumption) rfl ?_); (refine wt_take1 14 84 (v := ?_) rfl rfl (by kernel_rfl) (by kernel_rfl) (by kernel_rfl) (by kernel_rfl) (fun _ _ _ h => h) rfl hS0 (by (repeat (first | (refine slot_hit (N := 141) ?_ (by rfl); (repeat (refine sz_put ?_)); assumption; done) | (apply slot_miss; focus rfl))); all_goals assumption) (fun ev hk hv0 w hS => ?_) ?_; rotate_left; focus (obtain ⟨⟨j0, j1, j2, j3, j4, j5⟩, j6, j7⟩ := hS; go_simp; rfl)); (refine wt_take1 15 84 (v := ?_) rfl rfl (by kernel_rfl) (by kernel_rfl) (by kernel_rfl) (by kernel_rfl) (fun _ _ _ h => h) rfl hS0 (by (repeat (first | (refine slot_hit (N := 141) ?_ (by rfl); (repeat (refine sz_put ?_)); assumption; done) | (apply slot_miss; focus rfl))); all_goals assumption) (fun ev hk hv0 w hS => ?_) ?_; rotate_left; focus (obtain ⟨⟨j0, j1, j2, j3, j4, j5⟩, j6, j7⟩ := hS; go_simp; rfl)); (refine wt_take1 16 84 (v := ?_) rfl rfl (by kernel_rfl) (by kernel_rfl) (by kernel_rfl) (by kernel_rfl) (fun _ _ _ h => h) rfl hS0 (by (repeat (first | (refine slot_hit (N := 141) ?_ (by rfl); (repeat (refine sz_put ?_)); assumption; done) | (apply slot_miss; focus rfl))); all_goals assumption) (fun ev hk hv0 w hS => ?_) ?_; rotate_left; focus (obtain ⟨⟨j0, j1, j2, j3, j4, j5⟩, j6, j7⟩ := hS; go_simp; rfl)); (refine wt_assign 17 98 rfl rfl (by kernel_rfl) (by kernel_rfl) (by kernel_rfl) (by kernel_rfl) (fun _ _ _ h => h) rfl hS0 (by (repeat (first | (refine slot_hit (N := 141) ?_ (by rfl); (repeat (refine sz_put ?_)); assumption; done) | (apply slot_miss; focus rfl))); all_goals assumption) rfl ?_); (refine wt_assign 18 99 rfl rfl (by kernel_rfl) (by kernel_rfl) (by kernel_rfl) (by kernel_rfl) (fun _ _ _ h => h) rfl hS0 (by (repeat (first | (refine slot_hit (N := 141) ?_ (by rfl); (repeat (refine sz_put ?_)); assumption; done) | (apply slot_miss; focus rfl))); all_goals assumption) rfl ?_); (refine wt_assign 19 100 rfl rfl (by kernel_rfl) (by kernel_rfl) (by kernel_rfl) (by kernel_rfl) (fun _ _ _ h => h) rfl hS0 (by (repeat (first | (refine slot_hit (N := 141) ?_ (by rfl); (repeat (refine sz_put ?_)); assumption; done) | (apply slot_miss; focus rfl))); all_goals assumption) rfl ?_)
      refine wt_done (by kernel_rfl) (NoPanic.normal ?_) _
      have ha := HA.out
      subst ha
      clear hS0 hb9 hZ hs2 hs3 hs7 hs11 x0 x1 x2 x3 x4 x5 x6 z0 z1 hX8 hX7 hX6 hX5 hX4 hX1 hb9' hi8 hi7 hi6 hn5 hf5
      rcases HXY.out with ⟨h1, h2⟩ | h2
      · obtain rfl := h2
        have f1 : ((m : Int) == (t1.ni : Int)) = false := by simp; omega
        clear h1
        go_wp2
        go_loopw [20, 21] (fun f i wr => f = .int .i64 (-1) ∧ i = .int .i64 ((c0.nb : Int) - 1) ∧ Bx w wr c0 p0 t1 ⟨A1, kk1, some a2, kk2⟩) (fun _ i _ => (intOf i + 1).toNat)
        case atStart => exact ⟨rfl, rfl, hX9⟩
        case round =>
          obtain ⟨rfl, rfl, hXr⟩ := hrel
          by_cases hb0 : (0 : Int) ≤ (c0.nb : Int) - 1
          all_goals
            go_wp2_with (go_at_call 18; refine (alive6_any _).mono ?_; rintro e w10 ⟨rfl, hb10⟩; have hX10 := hXr.call hb10)
            go_ret
            exact ⟨rfl, hX10.b⟩
      · have hmn : m = t1.ni := by rcases h2 with h | h <;> exact h.1
        have f1 : ((m : Int) == (t1.ni : Int)) = true := by simp; omega
        have HX2 := Lib.hid h2
        clear h2 hmn
        go_wp2
        go_loopw [20, 21] (fun f i wr => ∃ xv : Int, f = .int .i64 xv ∧ ((∃ r : Nat, r < c0.nb ∧ i = .int .i64 r ∧ Hid (FW P c0.nb (r + 1) xv)) ∨ (i = .int .i64 (-1) ∧ Hid (FW P c0.nb 0 xv))) ∧ BlsAt wr wr.heap.size A5 c0.nb P ∧ Bx w wr c0 p0 t1 ⟨A1, kk1, some a2, kk2⟩) (fun _ i _ => (intOf i + 1).toNat)
        case atStart =>
          refine ⟨-1, rfl, ?_, hi5, hX9⟩
          by_cases hb0 : c0.nb = 0
          · exact Or.inr ⟨by rw [hb0]; rfl, Lib.hid (by rw [hb0]; exact FW_0 P 0)⟩
          · exact Or.inl ⟨c0.nb - 1, by omega, by congr 1 <;> omega, Lib.hid (by rw [show c0.nb - 1 + 1 = c0.nb by omega]; exact FW_0 P c0.nb)⟩
        case round =>
          clear hi5 hX9
          obtain ⟨xv, rfl, hij, hi, hXr⟩ := hrel
          rcases hij with ⟨r, hr, rfl, hF⟩ | ⟨rfl, hF⟩
          · obtain ⟨a5, rfl, ha5, hcs⟩ := hi (by omega)
            have y0 := hcs r hr
            have r0 : (0 : Int) ≤ (r : Int) := by omega
            have r1 : (r : Int) < (c0.nb : Int) := by omega
            cases hv : P r
            · rw [hv] at y0
              have HV := Lib.hid (FW_no hF.out hv)
              clear hv hcs
              go_wp2
              go_roundw
              case rel =>
                refine ⟨xv, rfl, ?_, hi, hXr⟩
                by_cases h0 : r = 0
                · subst h0; exact Or.inr ⟨rfl, HV⟩
                · exact Or.inl ⟨r - 1, by omega, by congr 1 <;> omega, by rw [show r - 1 + 1 = r by omega]; exact HV⟩
              case measure => first | (simp [intOf]; done) | (simp [intOf]; omega)
            · rw [hv] at y0
              have HV := Lib.hid (FW_yes hr hv)
              clear hv hcs
              go_wp2
              go_roundw
              case rel =>
                refine ⟨r, rfl, ?_, hi, hXr⟩
                by_cases h0 : r = 0
                · subst h0; exact Or.inr ⟨rfl, HV⟩
                · exact Or.inl ⟨r - 1, by omega, by congr 1 <;> omega, by rw [show r - 1 + 1 = r by omega]; exact HV⟩
              case measure => first | (simp [intOf]; done) | (simp [intOf]; omega)
          · rcases FW_end hF.out with ⟨e1, e3⟩ | ⟨n, e1, e4, e3⟩
            · subst e1
              have hy : y = 57 := by rcases HX2.out with h | h <;> omega
              subst hy
              clear e3
              go_wp2_with (go_at_call 18; refine (alive6_any _).mono ?_; rintro e w10 ⟨rfl, hb10⟩; have hX10 := hXr.call hb10)
              go_ret
              exact ⟨rfl, hX10.b⟩
            · have hy : y = 0 ∧ x = (n : Int) := by rcases HX2.out with h | h <;> omega
              obtain ⟨hy1, hy2⟩ := hy
              subst hy1 hy2 e1
              have n0 : ¬ (n : Int) < 0 := by omega
              clear e3 e4
              go_wp2_with (go_at_call 18; refine (alive6_any _).mono ?_; rintro e w10 ⟨rfl, hb10⟩; have hX10 := hXr.call hb10)
              go_ret
              exact ⟨rfl, hX10.b⟩
    · go_wp2_with (go_at_call 9; refine (F1.out _ (RArg.to2 hg0 hX1.b)).mono ?_; rintro e w4 ⟨rfl, hb4⟩; obtain ⟨hb14, hP, hQ⟩ := two_box hb4; have hX4 := hX1.call hb14; have hc4 := hX4.cells; dsimp only at hc4; obtain ⟨x0, x1, x2, x3, x4, x5, x6, z0, z1⟩ := hc4; have u0 : w4.cell? ⟨w1.heap.size, 0, none⟩ = some (.int .i64 c0.i) := hP.cell 0; have u1 : w4.cell? ⟨w1.heap.size, 1, none⟩ = some (.slice p0.A1 c0.nl p0.k1) := hP.cell 1; have u2 : w4.cell? ⟨w1.heap.size, 2, none⟩ = some (.slice p0.A2 c0.na p0.k2) := hP.cell 2; have u3 : w4.cell? ⟨w1.heap.size, 3, none⟩ = some (.slice none 0 0) := hP.cell 3; have u4 : w4.cell? ⟨w1.heap.size, 4, none⟩ = some (.slice p0.A4 c0.nc p0.k4) := hP.cell 4; have uz := hP.lt)
      go_wp2_with (go_at_call 10; (with_reducible refine (F2.out _ (hg0.to hX4.b hX4.b.size)).mono ?_); rintro e w5 ⟨xx, rfl, hb5⟩; have hX5 := hX4.call hb5; have hc5 := hX5.cells; dsimp only at hc5; obtain ⟨x0, x1, x2, x3, x4, x5, x6, z0, z1⟩ := hc5)
      clear u0 u1 u2 u3 u4 uz hP hQ hb14
      go_wp2_with (first
        | (go_at_call 8; (with_reducible refine (S1.out _ (hg0.to hX5.b hX5.b.size)).mono ?_); rintro e w6 ⟨A6, k6, rfl, hi6, hc6', hb6⟩; have hX6 := hX5.call hb6; have hc6 := hX6.cells; dsimp only at hc6; obtain ⟨x0, x1, x2, x3, x4, x5, x6, z0, z1⟩ := hc6)
        | (go_at_call 10; (with_reducible refine (F4.out _ (hg0.to hX6.b hX6.b.size)).mono ?_); rintro e w7 ⟨rfl, hb7⟩; have hX7 := hX6.call hb7; have hi7 := hi6.to hb7 hb7.size; have hc7 := hX7.cells; dsimp only at hc7; obtain ⟨x0, x1, x2, x3, x4, x5, x6, z0, z1⟩ := hc7)
        | (go_at_call 9; (with_reducible refine (F5.out _ (hg0.to hX7.b hX7.b.size)).mono ?_); rintro e w8 ⟨rfl, hb8⟩; have hX8 := hX7.call hb8; have hi8 := hi7.to hb8 hb8.size; have hc8 := hX8.cells; dsimp only at hc8; obtain ⟨x0, x1, x2, x3, x4, x5, x6, z0, z1⟩ := hc8))
      obtain ⟨a6, rfl, ha6, hr6⟩ := hi8 (by omega)
      have hMlt : M < t1.ni := by have := HM.out; omega
      obtain ⟨A8, k8, u0, hu, hun⟩ := hr6 M hMlt
      obtain ⟨A9, k9, v0, hv, hvn⟩ := HR.out M hMlt
      have v0 : w8.cell? (a2.add M) = some (.slice A9 (t1.ln M) k9) := (hX8.b.cell (by rw [add_block]; exact ha2)).trans v0
      have hv := hv.to hX8.b hX8.b.size
      have hl := HL.out M hMlt
      have HLq := Lib.hid hl
      have hlq : t1.ln M ≤ 100000 := by have := hts.ln M hMlt; omega
      obtain ⟨b, hb⟩ : ∃ b, c0.hol (c0.sts t1 M) (t1.ip M) = b := ⟨_, rfl⟩
      have hg : Arg w8.drew w8.drew.heap.size c0 p0 A8 c0.nl k8 (c0.sts t1 M) A9 (t1.ln M) k9 (t1.ip M) := ⟨hm0.to (below_dn hX8.b 1) hX8.b.size, hs, hu, hv, hun, hvn, by omega, by omega⟩
      have PP := props_at HC.out rfl HLq.out w8.drew hg
      rw [hb, HP.out] at PP
      have HPP := Lib.hid PP
      have hXd : CS w.heap.size c0 p0 (a6.add M) (.slice A8 c0.nl k8) w8.drew ∧ w8.drew.cell? ⟨w.heap.size + 1, 1, none⟩ = some (.slice (some a2) t1.ni kk2) ∧ w8.drew.cell? (a2.add M) = some (.slice A9 (t1.ln M) k9) := ⟨cs_of hX8.c u0, x6, v0⟩
      have HXd := Lib.hid hXd
      clear hl hb PP hu hun hv hvn hg hXd u0 v0 hr6
      refine wp_slots (fun f => Sz f 141 ∧ Slot f 2 (.pointer (some ⟨w.heap.size, 0, none⟩)) ∧ Slot f 3 (.pointer (some ⟨w.heap.size + 1, 0, none⟩)) ∧ Slot f 7 (.int .i64 (t1.ni : Int)) ∧ Slot f 11 (.slice (some a6) t1.ni k6)) ⟨⟨rfl, rfl⟩, ⟨rfl⟩, ⟨rfl⟩, ⟨rfl⟩, ⟨rfl⟩⟩ fun a0 ha0 hR => ?_
      obtain ⟨hZ, hs2, hs3, hs7, hs11⟩ := hR
      have HA := Lib.hid ha0
      clear ha0
      have hS0 := HXd.out
      refine wp_region_T (fun w' : World => CS w.heap.size c0 p0 (a6.add M) (.slice A8 c0.nl k8) w' ∧ w'.cell? ⟨w.heap.size + 1, 1, none⟩ = some (.slice (some a2) t1.ni kk2) ∧ w'.cell? (a2.add M) = some (.slice A9 (t1.ln M) k9)) 20 (by kernel_rfl) ?_
      refine WT.h ?_
      (refine wt_take1 0 2 (v := ?_) rfl rfl (by kernel_rfl) (by kernel_rfl) (by kernel_rfl) (by kernel_rfl) (fun _ _ _ h => h) rfl hS0 (by (repeat (first | (refine slot_hit (N := 141) ?_ (by rfl); (repeat (refine sz_put ?_)); assumption; done) | (apply slot_miss; focus rfl))); all_goals assumption) (fun ev hk hv0 w hS => ?_) ?_; rotate_left; focus (obtain ⟨⟨j0, j1, j2, j3, j4, j5⟩, j6, j7⟩ := hS; go_simp; rfl)); (refine wt_move 1 11 rfl rfl (by kernel_rfl) (by kernel_rfl) (by kernel_rfl) (by kernel_rfl) (fun _ _ _ h => h) rfl hS0 (by (repeat (first | (refine slot_hit (N := 141) ?_ (by rfl); (repeat (refine sz_put ?_)); assumption; done) | (apply slot_miss; focus rfl))); all_goals assumption) rfl ?_); (refine wt_move 2 7 rfl rfl (by kernel_rfl) (by kernel_rfl) (by kernel_rfl) (by kernel_rfl) (fun _ _ _ h => h) rfl hS0 (by (repeat (first | (refine slot_hit (N := 141) ?_ (by rfl); (repeat (refine sz_put ?_)); assumption; done) | (apply slot_miss; focus rfl))); all_goals assumption) rfl ?_); (refine wt_take1 3 87 (v := ?_) rfl rfl (by kernel_rfl) (by kernel_rfl) (by kernel_rfl) (by kernel_rfl) (fun _ _ _ h => h) rfl hS0 (by (repeat (first | (refine slot_hit (N := 141) ?_ (by rfl); (repeat (refine sz_put ?_)); assumption; done) | (apply slot_miss; focus rfl))); all_goals assumption) (fun ev hk hv0 w hS => ?_) ?_; rotate_left; focus (obtain ⟨⟨j0, j1, j2, j3, j4, j5⟩, j6, j7⟩ := hS; go_simp; rfl)); (refine wt_take2 4 86 88 (v := ?_) rfl rfl (by kernel_rfl) (by kernel_rfl) (by kernel_rfl) (by kernel_rfl) (fun _ _ _ h => h) rfl hS0 (by (repeat (first | (refine slot_hit (N := 141) ?_ (by rfl); (repeat (refine sz_put ?_)); assumption; done) | (apply slot_miss; focus rfl))); all_goals assumption) (by (repeat (first | (refine slot_hit (N := 141) ?_ (by rfl); (repeat (refine sz_put ?_)); assumption; done) | (apply slot_miss; focus rfl))); all_goals assumption) (fun ev hk hv0 hv1 w hS => ?_) ?_; rotate_left; focus (obtain ⟨⟨j0, j1, j2, j3, j4, j5⟩, j6, j7⟩ := hS; go_simp; rfl)); (refine wt_take1 5 89 (v := ?_) rfl rfl (by kernel_rfl) (by kernel_rfl) (by kernel_rfl) (by kernel_rfl) (fun _ _ _ h => h) rfl hS0 (by (repeat (first | (refine slot_hit (N := 141) ?_ (by rfl); (repeat (refine sz_put ?_)); assumption; done) | (apply slot_miss; focus rfl))); all_goals assumption) (fun ev hk hv0 w hS => ?_) ?_; rotate_left; focus (obtain ⟨⟨j0, j1, j2, j3, j4, j5⟩, j6, j7⟩ := hS; go_simp; rfl)); (refine wt_take1 6 3 (v := ?_) rfl rfl (by kernel_rfl) (by kernel_rfl) (by kernel_rfl) (by kernel_rfl) (fun _ _ _ h => h) rfl hS0 (by (repeat (first | (refine slot_hit (N := 141) ?_ (by rfl); (repeat (refine sz_put ?_)); assumption; done) | (apply slot_miss; focus rfl))); all_goals assumption) (fun ev hk hv0 w hS => ?_) ?_; rotate_left; focus (obtain ⟨⟨j0, j1, j2, j3, j4, j5⟩, j6, j7⟩ := hS; go_simp; rfl)); (refine wt_take1 7 91 (v := ?_) rfl rfl (by kernel_rfl) (by kernel_rfl) (by kernel_rfl) (by kernel_rfl) (fun _ _ _ h => h) rfl hS0 (by (repeat (first | (refine slot_hit (N := 141) ?_ (by rfl); (repeat (refine sz_put ?_)); assumption; done) | (apply slot_miss; focus rfl))); all_goals assumption) (fun ev hk hv0 w hS => ?_) ?_; rotate_left; focus (obtain ⟨⟨j0, j1, j2, j3, j4, j5⟩, j6, j7⟩ := hS; go_simp; rfl)); (refine wt_move 8 7 rfl rfl (by kernel_rfl) (by kernel_rfl) (by kernel_rfl) (by kernel_rfl) (fun _ _ _ h => h) rfl hS0 (by (repeat (first | (refine slot_hit (N := 141) ?_ (by rfl); (repeat (refine sz_put ?_)); assumption; done) | (apply slot_miss; focus rfl))); all_goals assumption) rfl ?_); (refine wt_take1 9 93 (v := ?_) rfl rfl (by kernel_rfl) (by kernel_rfl) (by kernel_rfl) (by kernel_rfl) (fun _ _ _ h => h) rfl hS0 (by (repeat (first | (refine slot_hit (N := 141) ?_ (by rfl); (repeat (refine sz_put ?_)); assumption; done) | (apply slot_miss; focus rfl))); all_goals assumption) (fun ev hk hv0 w hS => ?_) ?_; rotate_left; focus (obtain ⟨⟨j0, j1, j2, j3, j4, j5⟩, j6, j7⟩ := hS; go_simp; rfl)); (refine wt_take2 10 92 94 (v := ?_) rfl rfl (by kernel_rfl) (by kernel_rfl) (by kernel_rfl) (by kernel_rfl) (fun _ _ _ h => h) rfl hS0 (by (repeat (first | (refine slot_hit (N := 141) ?_ (by rfl); (repeat (refine sz_put ?_)); assumption; done) | (apply slot_miss; focus rfl))); all_goals assumption) (by (repeat (first | (refine slot_hit (N := 141) ?_ (by rfl); (repeat (refine sz_put ?_)); assumption; done) | (apply slot_miss; focus rfl))); all_goals assumption) (fun ev hk hv0 hv1 w hS => ?_) ?_; rotate_left; focus (obtain ⟨⟨j0, j1, j2, j3, j4, j5⟩, j6, j7⟩ := hS; go_simp; rfl)); (refine wt_take1 11 95 (v := ?_) rfl rfl (by kernel_rfl) (by kernel_rfl) (by kernel_rfl) (by kernel_rfl) (fun _ _ _ h => h) rfl hS0 (by (repeat (first | (refine slot_hit (N := 141) ?_ (by rfl); (repeat (refine sz_put ?_)); assumption; done) | (apply slot_miss; focus rfl))); all_goals assumption) (fun ev hk hv0 w hS => ?_) ?_; rotate_left; focus (obtain ⟨⟨j0, j1, j2, j3, j4, j5⟩, j6, j7⟩ := hS; go_simp; rfl))
      refine wt_call3 12 85 90 96 (by kernel_rfl) rfl rfl rfl (by (repeat (first | (refine slot_hit (N := 141) ?_ (by rfl); (repeat (refine sz_put ?_)); assumption; done) | (apply slot_miss; focus rfl))); all_goals assumption) (by (repeat (first | (refine slot_hit (N := 141) ?_ (by rfl); (repeat (refine sz_put ?_)); assumption; done) | (apply slot_miss; focus rfl))); all_goals assumption) (by (repeat (first | (refine slot_hit (N := 141) ?_ (by rfl); (repeat (refine sz_put ?_)); assumption; done) | (apply slot_miss; focus rfl))); all_goals assumption) (f := ?_) (args := ?_) (fun ev hk hkf hv0 hv1 hv2 => ?_) ?_; rotate_left 2; focus (go_simp; first | rfl | (constructor <;> rfl))
      (with_reducible refine HPP.out.mono ?_)
      rintro e w9 ⟨A5, k5, rfl, hi5, hb9, hn5, hf5⟩
      have hb9' : Below w8.heap.size w8 w9 := Below.undn' hb9
      have hX9 := hX8.call hb9'
      have hS0 : (fun w' : World => CS w.heap.size c0 p0 (a6.add M) (.slice A8 c0.nl k8) w' ∧ w'.cell? ⟨w.heap.size + 1, 1, none⟩ = some (.slice (some a2) t1.ni kk2) ∧ w'.cell? (a2.add M) = some (.slice A9 (t1.ln M) k9)) w9 := ⟨HXd.out.1.keep hb9, (hb9.cell (cell_lt HXd.out.2.1)).trans HXd.out.2.1, (hb9.cell (cell_lt HXd.out.2.2)).trans HXd.out.2.2⟩
      refine ⟨_, rfl, fun _ => hS0, ?_⟩
      (refine wt_move 13 97 rfl rfl (by kernel_rfl) (by kernel_rfl) (by kernel_rfl) (by kernel_rfl) (fun _ _ _ h => h) rfl hS0 (by (repeat (first | (refine slot_hit (N := 141) ?_ (by rfl); (repeat (refine sz_put ?_)); assumption; done) | (apply slot_miss; focus rfl))); all_goals assumption) rfl ?_); (refine wt_take1 14 84 (v := ?_) rfl rfl (by kernel_rfl) (by kernel_rfl) (by kernel_rfl) (by kernel_rfl) (fun _ _ _ h => h) rfl hS0 (by (repeat (first | (refine slot_hit (N := 141) ?_ (by rfl); (repeat (refine sz_put ?_)); assumption; done) | (apply slot_miss; focus rfl))); all_goals assumption) (fun ev hk hv0 w hS => ?_) ?_; rotate_left; focus (obtain ⟨⟨j0, j1, j2, j3, j4, j5⟩, j6, j7⟩ := hS; go_simp; rfl)); (refine wt_take1 15 84 (v := ?_) rfl rfl (by kernel_rfl) (by kernel_rfl) (by kernel_rfl) (by kernel_rfl) (fun _ _ _ h => h) rfl hS0 (by (repeat (first | (refine slot_hit (N := 141) ?_ (by rfl); (repeat (refine sz_put ?_)); assumption; done) | (apply slot_miss; focus rfl))); all_goals assumption) (fun ev hk hv0 w hS => ?_) ?_; rotate_left; focus (obtain ⟨⟨j0, j1, j2, j3, j4, j5⟩, j6, j7⟩ := hS; go_simp; rfl)); (refine wt_take1 16 84 (v := ?_) rfl rfl (by kernel_rfl) (by kernel_rfl) (by kernel_rfl) (by kernel_rfl) (fun _ _ _ h => h) rfl hS0 (by (repeat (first | (refine slot_hit (N := 141) ?_ (by rfl); (repeat (refine sz_put ?_)); assumption; done) | (apply slot_miss; focus rfl))); all_goals assumption) (fun ev hk hv0 w hS => ?_) ?_; rotate_left; focus (obtain ⟨⟨j0, j1, j2, j3, j4, j5⟩, j6, j7⟩ := hS; go_simp; rfl)); (refine wt_assign 17 98 rfl rfl (by kernel_rfl) (by kernel_rfl) (by kernel_rfl) (by kernel_rfl) (fun _ _ _ h => h) rfl hS0 (by (repeat (first | (refine slot_hit (N := 141) ?_ (by rfl); (repeat (refine sz_put ?_)); assumption; done) | (apply slot_miss; focus rfl))); all_goals assumption) rfl ?_); (refine wt_assign 18 99 rfl rfl (by kernel_rfl) (by kernel_rfl) (by kernel_rfl) (by kernel_rfl) (fun _ _ _ h => h) rfl hS0 (by (repeat (first | (refine slot_hit (N := 141) ?_ (by rfl); (repeat (refine sz_put ?_)); assumption; done) | (apply slot_miss; focus rfl))); all_goals assumption) rfl ?_); (refine wt_assign 19 100 rfl rfl (by kernel_rfl) (by kernel_rfl) (by kernel_rfl) (by kernel_rfl) (fun _ _ _ h => h) rfl hS0 (by (repeat (first | (refine slot_hit (N := 141) ?_ (by rfl); (repeat (refine sz_put ?_)); assumption; done) | (apply slot_miss; focus rfl))); all_goals assumption) rfl ?_)
      refine wt_done (by kernel_rfl) (NoPanic.normal ?_) _
      have ha := HA.out
      subst ha
      clear hS0 hb9 hZ hs2 hs3 hs7 hs11 x0 x1 x2 x3 x4 x5 x6 z0 z1 hX8 hX7 hX6 hX5 hX4 hX1 hb9' hi8 hi7 hi6 hn5 hf5
      rcases HXY.out with ⟨h1, h2⟩ | h2
      · obtain rfl := h2
        have f1 : ((m : Int) == (t1.ni : Int)) = false := by simp; omega
        clear h1
        go_wp2
        go_loopw [20, 21] (fun f i wr => f = .int .i64 (-1) ∧ i = .int .i64 ((c0.nb : Int) - 1) ∧ Bx w wr c0 p0 t1 ⟨A1, kk1, some a2, kk2⟩) (fun _ i _ => (intOf i + 1).toNat)
        case atStart => exact ⟨rfl, rfl, hX9⟩
        case round =>
          obtain ⟨rfl, rfl, hXr⟩ := hrel
          by_cases hb0 : (0 : Int) ≤ (c0.nb : Int) - 1
          all_goals
            go_wp2_with (go_at_call 18; refine (alive6_any _).mono ?_; rintro e w10 ⟨rfl, hb10⟩; have hX10 := hXr.call hb10)
            go_ret
            exact ⟨rfl, hX10.b⟩
      · have hmn : m = t1.ni := by rcases h2 with h | h <;> exact h.1
        have f1 : ((m : Int) == (t1.ni : Int)) = true := by simp; omega
        have HX2 := Lib.hid h2
        clear h2 hmn
        go_wp2
        go_loopw [20, 21] (fun f i wr => ∃ xv : Int, f = .int .i64 xv ∧ ((∃ r : Nat, r < c0.nb ∧ i = .int .i64 r ∧ Hid (FW P c0.nb (r + 1) xv)) ∨ (i = .int .i64 (-1) ∧ Hid (FW P c0.nb 0 xv))) ∧ BlsAt wr wr.heap.size A5 c0.nb P ∧ Bx w wr c0 p0 t1 ⟨A1, kk1, some a2, kk2⟩) (fun _ i _ => (intOf i + 1).toNat)
        case atStart =>
          refine ⟨-1, rfl, ?_, hi5, hX9⟩
          by_cases hb0 : c0.nb = 0
          · exact Or.inr ⟨by rw [hb0]; rfl, Lib.hid (by rw [hb0]; exact FW_0 P 0)⟩
          · exact Or.inl ⟨c0.nb - 1, by omega, by congr 1 <;> omega, Lib.hid (by rw [show c0.nb - 1 + 1 = c0.nb by omega]; exact FW_0 P c0.nb)⟩
        case round =>
          clear hi5 hX9
          obtain ⟨xv, rfl, hij, hi, hXr⟩ := hrel
          rcases hij with ⟨r, hr, rfl, hF⟩ | ⟨rfl, hF⟩
          · obtain ⟨a5, rfl, ha5, hcs⟩ := hi (by omega)
            have y0 := hcs r hr
            have r0 : (0 : Int) ≤ (r : Int) := by omega
            have r1 : (r : Int) < (c0.nb : Int) := by omega
            cases hv : P r
            · rw [hv] at y0
              have HV := Lib.hid (FW_no hF.out hv)
              clear hv hcs
              go_wp2
              go_roundw
              case rel =>
                refine ⟨xv, rfl, ?_, hi, hXr⟩
                by_cases h0 : r = 0
                · subst h0; exact Or.inr ⟨rfl, HV⟩
                · exact Or.inl ⟨r - 1, by omega, by congr 1 <;> omega, by rw [show r - 1 + 1 = r by omega]; exact HV⟩
              case measure => first | (simp [intOf]; done) | (simp [intOf]; omega)
            · rw [hv] at y0
              have HV := Lib.hid (FW_yes hr hv)
              clear hv hcs
              go_wp2
              go_roundw
              case rel =>
                refine ⟨r, rfl, ?_, hi, hXr⟩
                by_cases h0 : r = 0
                · subst h0; exact Or.inr ⟨rfl, HV⟩
                · exact Or.inl ⟨r - 1, by omega, by congr 1 <;> omega, by rw [show r - 1 + 1 = r by omega]; exact HV⟩
              case measure => first | (simp [intOf]; done) | (simp [intOf]; omega)
          · rcases FW_end hF.out with ⟨e1, e3⟩ | ⟨n, e1, e4, e3⟩
            · subst e1
              have hy : y = 57 := by rcases HX2.out with h | h <;> omega
              subst hy
              clear e3
              go_wp2_with (go_at_call 18; refine (alive6_any _).mono ?_; rintro e w10 ⟨rfl, hb10⟩; have hX10 := hXr.call hb10)
              go_ret
              exact ⟨rfl, hX10.b⟩
            · have hy : y = 0 ∧ x = (n : Int) := by rcases HX2.out with h | h <;> omega
              obtain ⟨hy1, hy2⟩ := hy
              subst hy1 hy2 e1
              have n0 : ¬ (n : Int) < 0 := by omega
              clear e3 e4
              go_wp2_with (go_at_call 18; refine (alive6_any _).mono ?_; rintro e w10 ⟨rfl, hb10⟩; have hX10 := hXr.call hb10)
              go_ret
              exact ⟨rfl, hX10.b⟩

set_option maxRecDepth 100000 in
theorem lifted (os : Os) (started : os.Started) (H : Type) (enc : TypeId × Value → H) :
    ReturnsInHanded {} Try.checked os 7 .any (Rows.tracesBadSpec.pre6 enc Try.prog Try.f7 Rows.tracesBadRow.domain false) (Rows.tracesBadSpec.post enc Try.prog Try.f7 false true false false) := by
  refine returnsInHanded_of_change (C := Try.checked) own started (by kernel_rfl) Try.func7
    (ChangeSpec.witness6 (enc := enc) (C := Try.checked) false ⟨#[], #[.agg #[.int .i64 0, .slice none 0 0, .slice none 0 0, .slice none 0 0, .slice none 0 0], .agg #[.slice none 0 0, .slice none 0 0]], []⟩ 12 (by kernel_rfl) (by kernel_rfl) (by kernel_rfl) (by kernel_rfl)) ?_
  intro W base args ds gs before hval0 hW hcnd _
  have hval : ∀ (j : Nat) t v, Try.f7.params[j]? = some t → args[j]? = some v → Value.okWide Try.prog W .any base t v := hval0
  have hW' := hW
  have hlt : ∀ x ∈ before, x.block < W.heap.size := fun x hx => by simpa using hW'.lt x hx
  obtain ⟨p, q, hA0, hV, rfl, hfz, hnd⟩ := hW
  have hA : DataW.TrodAll enc Try.prog W 0 (fun _ => true) true Try.f7.params.toList args.toList ds p := hA0
  rw [Try.params7] at hA hval
  obtain ⟨v0, vs0, d0, ds0, b0, q0, hargs, rfl, rfl, h0, r0⟩ := trodAll_cons hA
  obtain ⟨v1, vs1, d1, ds1, b1, q1, rfl, rfl, rfl, h1, r1⟩ := trodAll_cons r0
  obtain ⟨rfl, rfl, rfl⟩ := trodAll_nil r1
  obtain rfl : args = #[v0, v1] := by cases args; simp_all
  obtain ⟨rfl, rfl⟩ := trodVars_none hV
  obtain ⟨c0, p0, rfl, hm0, hN0, hv0, hC0⟩ := open_circ (hval 0 28 v0 rfl rfl) h0
  obtain ⟨t1, q1, rfl, ht1⟩ := open_tr6 (hval 1 32 v1 rfl rfl) h1
  have hlo : laidOutB Try.prog = true := by kernel_rfl
  clear hA0 hval0
  simp only [List.append_nil] at hW' hlt
  refine (walk c0 p0 t1 q1 W hm0 hN0 hv0 hC0 ht1).mono fun e W' ⟨he, hb⟩ => ?_
  subst he
  have hback := (trodAll_cons_mk (arg_back (W' := W') hlo (by kernel_rfl) (of_decide_eq_true (by kernel_rfl)) h0 hb (fun x hx => hlt x (by simp [hx]))) (trodAll_cons_mk (arg_back (W' := W') hlo (by kernel_rfl) (of_decide_eq_true (by kernel_rfl)) h1 hb (fun x hx => hlt x (by simp [hx]))) trodAll_mk0))
  simp only [List.append_nil, List.nil_append] at hback
  exact ⟨_, rfl, law_post hW' (trodAll_cons_mk (shut_bool Try.underlying4 _) trodAll_mk0) hback rfl hb⟩

theorem over : Rows.tracesBadRow.holds Try.pinned (OpenSpec.ofChange Rows.tracesBadSpec) :=
  OpenClaim.holds_of_wide 7 Try.f7 rfl rfl rfl rfl rfl rfl rfl ⟨rfl, rfl, rfl, rfl, rfl⟩ rfl rfl rfl rfl rfl (by kernel_rfl) Try.func7 (by kernel_rfl)
    (of_decide_eq_true (by kernel_rfl)) (by unfold Func.isWrapper; first | (rw [if_pos (by decide +kernel)]; kernel_rfl) | (rw [if_neg (by decide +kernel)]; exact ⟨rfl, rfl⟩))
    (fun os started H enc _ => lifted os started H enc)

theorem proved : Rows.TracesBadSaid :=
  over
end Go.Proofs.Ytnkpmcpinicciab.tracesBad
