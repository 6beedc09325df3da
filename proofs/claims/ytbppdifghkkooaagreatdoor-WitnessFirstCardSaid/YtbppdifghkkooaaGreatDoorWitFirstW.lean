/- The statement WitnessFirst's walk. -/
import Derived.Test.YtbppdifghkkooaaGreatDoorWitAlive
import Derived.Test.YtbppdifghkkooaaGreatDoorWitBackW
import Derived.Test.YtbppdifghkkooaaGreatDoorHeadTail
namespace Go.Proofs.YtbppdifghkkooaaGreatDoor
open Go Go.RowKit
set_option linter.unusedVariables false
set_option linter.unusedSimpArgs false

theorem below_un {w w' : World} (h : Below w.drew.heap.size w.drew w') : Below w.heap.size w w' := ⟨h.os, h.tape, h.output, h.size, h.block⟩

set_option maxRecDepth 100000 in
set_option maxHeartbeats 40000000 in
theorem wfirst_walk (c0 : Cr) (p0 : Pl) (t1 : Tr) (q1 : Tp) (w : World) (hm0 : Mem w w.heap.size c0 p0) (hN0 : Nils c0 p0) (hv0 : Vals c0) (hC0 : Caps c0 p0) (ht1 : TMem w w.heap.size t1 q1) (henv : EnvW w.heap.size w) :
    Calls Tryz.prog 8 #[cv c0 p0, tv t1 q1] w fun e w' => e = .returned (.bool true) ∧ Below w.heap.size w w' := by
  have AL : Hid (∀ W, Below w.heap.size w W → Calls Tryz.prog 20 #[] W fun e w' => e = .returned (.bool true) ∧ Below W.heap.size W w') := Lib.hid fun W hb => alive11_any w.heap.size W (henv.on hb) hb.size
  have DG := Lib.hid (rGreat_any c0 p0 (ctW w c0 p0 t1 q1))
  have DG6 : Hid (∀ W, Below w.heap.size w W → Calls Tryz.prog 25 #[tv t1 q1] W fun e w' => e = .returned (.bool t1.gr) ∧ Below W.heap.size W w') := Lib.hid fun W hb => rGreat6_any W (ht1.to hb hb.size)
  cases hg : c0.gr
  · have hgr := Cr.gr_no hg
    have hs : Sm c0 := hv0.sm (by omega) (by omega) (by omega) (by omega)
    rw [hg] at DG
    cases hg1 : t1.gr
    · have hts := Tr.gr_no hg1
      rw [hg1] at DG6
      have hR : ∀ W, Below w.heap.size w W → RArg W W.heap.size c0 p0 t1 q1 := fun W hb => ⟨hm0.to hb hb.size, hs, ht1.to hb hb.size, hts⟩
      obtain ⟨z, hz⟩ : ∃ z, z = c0.tck t1 := ⟨_, rfl⟩
      have DK : Hid (∀ W, Below w.heap.size w W → Calls Tryz.prog 27 #[cv c0 p0, tv t1 q1] W fun e w' => e = .returned (.int .i64 z) ∧ Below W.heap.size W w') := Lib.hid fun W hb => by
        rw [hz]
        exact rCheck6_any W (hR W hb)
      by_cases h0 : z = 0
      · have hk : c0.tck t1 = 0 := hz.symm.trans h0
        rw [h0] at DK
        have hb3 := hC0.bd
        obtain ⟨hc, hn0, hn1, _, _, hln⟩ := Cr.tck_ok hk
        have hip := ht1.ip
        have hnl := hs.nl
        have hnb := hs.nb
        obtain ⟨A1, kk1, A2, kk2⟩ := q1
        dsimp only at hip
        obtain ⟨a2, rfl, ha2, hr2⟩ := hip hn0
        obtain ⟨M, hM⟩ : ∃ M, t1.ni = M + 1 := ⟨t1.ni - 1, by omega⟩
        obtain ⟨P, hP⟩ : ∃ P, c0.bv (c0.sts t1 M) (t1.ip M) = P := ⟨_, rfl⟩
        obtain ⟨x, hx⟩ : ∃ x, c0.wti t1 = x := ⟨_, rfl⟩
        obtain ⟨y, hy⟩ : ∃ y, c0.wte t1 = y := ⟨_, rfl⟩
        have hff : c0.ff t1 (t1.ni - 1) = led (fun j => !P j) c0.nb := by
          rw [show t1.ni - 1 = M by omega, ← hP]; rfl
        have hsP : ∀ i, c0.shB t1 i = (decide (c0.alw t1 = t1.ni) && P i) := fun i => by
          unfold Cr.shB Cr.bf
          rw [show t1.ni - 1 = M by omega, hP]
        -- what the walk asks
        have hy0 : y = 0 → c0.alw t1 = t1.ni ∧ led (fun j => !P j) c0.nb < c0.nb ∧ x = (led (fun j => !P j) c0.nb : Int) := fun h => by
          have hl := led_le (fun j => !P j) c0.nb
          have ha := led_le (c0.hf t1) t1.ni
          by_cases hh : c0.alw t1 < t1.ni ∨ c0.ff t1 (t1.ni - 1) = c0.nb
          · rw [h] at hy
            unfold Cr.wte at hy
            rw [if_pos hk, Cr.shw_no hh] at hy
            exact absurd hy (by decide)
          · have h3 := Cr.shw_yes hh
            have h4 : c0.alw t1 ≤ t1.ni := ha
            rw [hff] at h3
            refine ⟨by omega, by rw [hff] at hh; omega, ?_⟩
            rw [← hx]
            unfold Cr.wti
            rw [if_pos ⟨hk, by omega⟩, h3]
        have hy1 : y ≠ 0 → ∀ i, i < c0.nb → c0.shB t1 i = false := fun h i hi => by
          cases hb : c0.shB t1 i
          · rfl
          · exact absurd ((wte_of hk hi hb).symm.trans hy).symm h
        have HW : Hid (∀ i : Nat, i < c0.nb → c0.wck t1 (i : Int) = if y = 0 ∧ P i = true then 0 else 57) := Lib.hid fun i hi => by
          unfold Cr.wck
          rw [if_neg (show ¬ c0.tck t1 ≠ 0 by omega), if_neg (show ¬ ((i : Int) < 0 ∨ (c0.nb : Int) ≤ i) by omega), Int.toNat_natCast]
          by_cases h : y = 0
          · rw [hsP, decide_eq_true (hy0 h).1, Bool.true_and]
            by_cases hp : P i = true
            · rw [if_pos hp, if_pos ⟨h, hp⟩]
            · rw [if_neg hp, if_neg (fun hh => hp hh.2)]
          · rw [hy1 h i hi, if_neg (by simp), if_neg (fun hh => h hh.1)]
        have HF : Hid (y = 0 → ∀ i : Nat, i < c0.nb → (P i = true → ¬ (i : Int) < x) ∧ (P i = false → ¬ (i : Int) = x)) := Lib.hid fun h i hi => by
          obtain ⟨_, h2, h3⟩ := hy0 h
          refine ⟨fun hp hlt => ?_, fun hp he => ?_⟩
          · have := led_all (fun j => !P j) c0.nb i (by omega)
            rw [hp] at this
            cases this
          · have := led_no (fun j => !P j) c0.nb h2
            rw [show led (fun j => !P j) c0.nb = i by omega, hp] at this
            cases this
        have DW : Hid (∀ W, Below w.heap.size w W → Calls Tryz.prog 26 #[cv c0 p0, tv t1 ⟨A1, kk1, some a2, kk2⟩] W fun e w' => e = .returned (.tuple #[.int .i64 x, .int .i64 y]) ∧ Below W.heap.size W w') := Lib.hid fun W hb => by
          have := twitness_any W (hR W hb)
          rwa [hx, hy] at this
        have DS : Hid (∀ W, Below w.heap.size w W → Calls Tryz.prog 28 #[cv c0 p0, tv t1 ⟨A1, kk1, some a2, kk2⟩] W (RowsErr t1.ni (fun _ => c0.nl) (c0.sts t1) 0 W)) := Lib.hid fun W hb => states_yes hk W (hR W hb)
        have DC : Hid (∀ W i, i < c0.nb → Below w.heap.size w W → Calls Tryz.prog 17 #[cv c0 p0, tv t1 ⟨A1, kk1, some a2, kk2⟩, .int .i64 ((i : Nat) : Int)] W fun e w' => e = .returned (.int .i64 (if y = 0 ∧ P i = true then 0 else 57)) ∧ Below W.heap.size W w') := Lib.hid fun W i hi hb => by
          have := wCheck_any (i : Int) ⟨by omega, by omega⟩ W (hR W hb) hb3
          rwa [HW.out i hi] at this
        have HC := Lib.hid hc
        have HL := Lib.hid hln
        have HR := Lib.hid hr2
        have HM := Lib.hid hM
        have HP := Lib.hid hP
        have HV := Lib.hid (And.intro hm0 (And.intro hs hts))
        have e2 : (t1.ni : Int) - 1 = (M : Int) := by omega
        have hM0 : (0 : Int) ≤ (M : Int) := by omega
        have hM1 : (M : Int) < (t1.ni : Int) := by omega
        have wM : IntKind.i64.wrap (M : Int) = (M : Int) := IntWalk.i64_in _ (by omega)
        rename_i hz1 hz2
        clear hz1 hz2 hk hc hln hr2 hip hg hg1 hM hx hy hP hy0 hy1 hsP hff hz h0 hb3 hgr henv hm0 hN0 hv0 hC0 ht1 hs hts hR
        go_enter Tryz.func8, Tryz.ntmps8
        go_wp2_with (first
          | (go_at_call 21; (with_reducible refine DG.out.mono ?_); rintro e w1 ⟨rfl, hb1⟩; have hX1 := Bx.first hb1; have hc1 := hX1.cells; dsimp only at hc1; obtain ⟨x0, x1, x2, x3, x4, x5, x6, z0, z1⟩ := hc1)
          | (go_at_call 25; (with_reducible refine (DG6.out w1 hX1.b).mono ?_); rintro e w2 ⟨rfl, hb2⟩; have hX2 := hX1.call hb2; have hc2 := hX2.cells; dsimp only at hc2; obtain ⟨x0, x1, x2, x3, x4, x5, x6, z0, z1⟩ := hc2)
          | (go_at_call 27; (with_reducible refine (DK.out w2 hX2.b).mono ?_); rintro e w3 ⟨rfl, hb3⟩; have hX3 := hX2.call hb3; have hc3 := hX3.cells; dsimp only at hc3; obtain ⟨x0, x1, x2, x3, x4, x5, x6, z0, z1⟩ := hc3)
          | (go_at_call 26; (with_reducible refine (DW.out w3 hX3.b).mono ?_); rintro e w4 ⟨rfl, hb4⟩; have hX4 := hX3.call hb4; have hc4 := hX4.cells; dsimp only at hc4; obtain ⟨x0, x1, x2, x3, x4, x5, x6, z0, z1⟩ := hc4)
          | (go_at_call 28; (with_reducible refine (DS.out w4 hX4.b).mono ?_); rintro e w5 ⟨A6, k6, rfl, hi6, hc6', hb5⟩; have hX5 := hX4.call hb5; have hc5 := hX5.cells; dsimp only at hc5; obtain ⟨x0, x1, x2, x3, x4, x5, x6, z0, z1⟩ := hc5))
        obtain ⟨a6, rfl, ha6, hr6⟩ := hi6 (by omega)
        have hMlt : M < t1.ni := by have := HM.out; omega
        obtain ⟨A8, k8, u0, hu, hun⟩ := hr6 M hMlt
        obtain ⟨A9, k9, v0, hv, hvn⟩ := HR.out M hMlt
        have v0 : w5.cell? (a2.add M) = some (.slice A9 (t1.ln M) k9) := (hX5.b.cell (by rw [add_block]; exact ha2)).trans v0
        have hv := hv.to hX5.b hX5.b.size
        have hl := HL.out M hMlt
        have HLq := Lib.hid hl
        have hlq : t1.ln M ≤ 100000 := by have := HV.out.2.2.ln M hMlt; omega
        obtain ⟨b, hb⟩ : ∃ b, c0.hol (c0.sts t1 M) (t1.ip M) = b := ⟨_, rfl⟩
        have hgA : Arg w5.drew w5.drew.heap.size c0 p0 A8 c0.nl k8 (c0.sts t1 M) A9 (t1.ln M) k9 (t1.ip M) := ⟨HV.out.1.to (below_dn hX5.b 1) hX5.b.size, HV.out.2.1, hu, hv, hun, hvn, by omega, by omega⟩
        have PP := props_at HC.out rfl HLq.out w5.drew hgA
        rw [hb, HP.out] at PP
        have HPP := Lib.hid PP
        have hXd : CS w.heap.size c0 p0 (a6.add M) (.slice A8 c0.nl k8) w5.drew ∧ w5.drew.cell? ⟨w.heap.size + 1, 1, none⟩ = some (.slice (some a2) t1.ni kk2) ∧ w5.drew.cell? (a2.add M) = some (.slice A9 (t1.ln M) k9) := ⟨cs_of hX5.c u0, x6, v0⟩
        have HXd := Lib.hid hXd
        clear hl hb PP hu hun hv hvn hgA hXd u0 v0 hr6 hi6
        refine wp_slots (fun f => Sz f 126 ∧ Slot f 2 (.pointer (some ⟨w.heap.size, 0, none⟩)) ∧ Slot f 3 (.pointer (some ⟨w.heap.size + 1, 0, none⟩)) ∧ Slot f 7 (.slice (some a6) t1.ni k6) ∧ Slot f 9 (.int .i64 (M : Int))) ⟨⟨rfl, rfl⟩, ⟨rfl⟩, ⟨rfl⟩, ⟨rfl⟩, ⟨rfl⟩⟩ fun a0 ha0 hR => ?_
        obtain ⟨hZ, hs2, hs3, hs7, hs9⟩ := hR
        have HA := Lib.hid ha0
        clear ha0
        have hS0 := HXd.out
        refine wp_region_T (fun w' : World => CS w.heap.size c0 p0 (a6.add M) (.slice A8 c0.nl k8) w' ∧ w'.cell? ⟨w.heap.size + 1, 1, none⟩ = some (.slice (some a2) t1.ni kk2) ∧ w'.cell? (a2.add M) = some (.slice A9 (t1.ln M) k9)) 18 (by kernel_rfl) ?_
        refine WT.h ?_
        (refine wt_take1 0 2 (v := ?_) rfl rfl (by kernel_rfl) (by kernel_rfl) (by kernel_rfl) (by kernel_rfl) (fun _ _ _ h => h) rfl hS0 (by (repeat (first | (refine slot_hit (N := 126) ?_ (by rfl); (repeat (refine sz_put ?_)); assumption; done) | (apply slot_miss; focus rfl))); all_goals assumption) (fun ev hk hv0 w hS => ?_) ?_; rotate_left; focus (obtain ⟨⟨j0, j1, j2, j3, j4, j5⟩, j6, j7⟩ := hS; go_simp; rfl)); (refine wt_move 1 7 rfl rfl (by kernel_rfl) (by kernel_rfl) (by kernel_rfl) (by kernel_rfl) (fun _ _ _ h => h) rfl hS0 (by (repeat (first | (refine slot_hit (N := 126) ?_ (by rfl); (repeat (refine sz_put ?_)); assumption; done) | (apply slot_miss; focus rfl))); all_goals assumption) rfl ?_); (refine wt_move 2 9 rfl rfl (by kernel_rfl) (by kernel_rfl) (by kernel_rfl) (by kernel_rfl) (fun _ _ _ h => h) rfl hS0 (by (repeat (first | (refine slot_hit (N := 126) ?_ (by rfl); (repeat (refine sz_put ?_)); assumption; done) | (apply slot_miss; focus rfl))); all_goals assumption) rfl ?_); (refine wt_take2 3 55 56 (v := ?_) rfl rfl (by kernel_rfl) (by kernel_rfl) (by kernel_rfl) (by kernel_rfl) (fun _ _ _ h => h) rfl hS0 (by (repeat (first | (refine slot_hit (N := 126) ?_ (by rfl); (repeat (refine sz_put ?_)); assumption; done) | (apply slot_miss; focus rfl))); all_goals assumption) (by (repeat (first | (refine slot_hit (N := 126) ?_ (by rfl); (repeat (refine sz_put ?_)); assumption; done) | (apply slot_miss; focus rfl))); all_goals assumption) (fun ev hk hv0 hv1 w hS => ?_) ?_; rotate_left; focus (obtain ⟨⟨j0, j1, j2, j3, j4, j5⟩, j6, j7⟩ := hS; go_simp; rfl)); (refine wt_take1 4 57 (v := ?_) rfl rfl (by kernel_rfl) (by kernel_rfl) (by kernel_rfl) (by kernel_rfl) (fun _ _ _ h => h) rfl hS0 (by (repeat (first | (refine slot_hit (N := 126) ?_ (by rfl); (repeat (refine sz_put ?_)); assumption; done) | (apply slot_miss; focus rfl))); all_goals assumption) (fun ev hk hv0 w hS => ?_) ?_; rotate_left; focus (obtain ⟨⟨j0, j1, j2, j3, j4, j5⟩, j6, j7⟩ := hS; go_simp; rfl)); (refine wt_take1 5 3 (v := ?_) rfl rfl (by kernel_rfl) (by kernel_rfl) (by kernel_rfl) (by kernel_rfl) (fun _ _ _ h => h) rfl hS0 (by (repeat (first | (refine slot_hit (N := 126) ?_ (by rfl); (repeat (refine sz_put ?_)); assumption; done) | (apply slot_miss; focus rfl))); all_goals assumption) (fun ev hk hv0 w hS => ?_) ?_; rotate_left; focus (obtain ⟨⟨j0, j1, j2, j3, j4, j5⟩, j6, j7⟩ := hS; go_simp; rfl)); (refine wt_take1 6 59 (v := ?_) rfl rfl (by kernel_rfl) (by kernel_rfl) (by kernel_rfl) (by kernel_rfl) (fun _ _ _ h => h) rfl hS0 (by (repeat (first | (refine slot_hit (N := 126) ?_ (by rfl); (repeat (refine sz_put ?_)); assumption; done) | (apply slot_miss; focus rfl))); all_goals assumption) (fun ev hk hv0 w hS => ?_) ?_; rotate_left; focus (obtain ⟨⟨j0, j1, j2, j3, j4, j5⟩, j6, j7⟩ := hS; go_simp; rfl)); (refine wt_move 7 9 rfl rfl (by kernel_rfl) (by kernel_rfl) (by kernel_rfl) (by kernel_rfl) (fun _ _ _ h => h) rfl hS0 (by (repeat (first | (refine slot_hit (N := 126) ?_ (by rfl); (repeat (refine sz_put ?_)); assumption; done) | (apply slot_miss; focus rfl))); all_goals assumption) rfl ?_); (refine wt_take2 8 60 61 (v := ?_) rfl rfl (by kernel_rfl) (by kernel_rfl) (by kernel_rfl) (by kernel_rfl) (fun _ _ _ h => h) rfl hS0 (by (repeat (first | (refine slot_hit (N := 126) ?_ (by rfl); (repeat (refine sz_put ?_)); assumption; done) | (apply slot_miss; focus rfl))); all_goals assumption) (by (repeat (first | (refine slot_hit (N := 126) ?_ (by rfl); (repeat (refine sz_put ?_)); assumption; done) | (apply slot_miss; focus rfl))); all_goals assumption) (fun ev hk hv0 hv1 w hS => ?_) ?_; rotate_left; focus (obtain ⟨⟨j0, j1, j2, j3, j4, j5⟩, j6, j7⟩ := hS; go_simp; rfl)); (refine wt_take1 9 62 (v := ?_) rfl rfl (by kernel_rfl) (by kernel_rfl) (by kernel_rfl) (by kernel_rfl) (fun _ _ _ h => h) rfl hS0 (by (repeat (first | (refine slot_hit (N := 126) ?_ (by rfl); (repeat (refine sz_put ?_)); assumption; done) | (apply slot_miss; focus rfl))); all_goals assumption) (fun ev hk hv0 w hS => ?_) ?_; rotate_left; focus (obtain ⟨⟨j0, j1, j2, j3, j4, j5⟩, j6, j7⟩ := hS; go_simp; rfl))
        refine wt_call3 10 54 58 63 (by kernel_rfl) rfl rfl rfl (by (repeat (first | (refine slot_hit (N := 126) ?_ (by rfl); (repeat (refine sz_put ?_)); assumption; done) | (apply slot_miss; focus rfl))); all_goals assumption) (by (repeat (first | (refine slot_hit (N := 126) ?_ (by rfl); (repeat (refine sz_put ?_)); assumption; done) | (apply slot_miss; focus rfl))); all_goals assumption) (by (repeat (first | (refine slot_hit (N := 126) ?_ (by rfl); (repeat (refine sz_put ?_)); assumption; done) | (apply slot_miss; focus rfl))); all_goals assumption) (f := ?_) (args := ?_) (fun ev hk hkf hv0 hv1 hv2 => ?_) ?_; rotate_left 2; focus (go_simp; first | rfl | (constructor <;> rfl))
        (with_reducible refine HPP.out.mono ?_)
        rintro e w9 ⟨A5, k5, rfl, hi5, hb9, hn5, hf5⟩
        have hb9' : Below w5.heap.size w5 w9 := below_un hb9
        have hX9 := hX5.call hb9'
        have hS0 : (fun w' : World => CS w.heap.size c0 p0 (a6.add M) (.slice A8 c0.nl k8) w' ∧ w'.cell? ⟨w.heap.size + 1, 1, none⟩ = some (.slice (some a2) t1.ni kk2) ∧ w'.cell? (a2.add M) = some (.slice A9 (t1.ln M) k9)) w9 := ⟨HXd.out.1.keep hb9, (hb9.cell (cell_lt HXd.out.2.1)).trans HXd.out.2.1, (hb9.cell (cell_lt HXd.out.2.2)).trans HXd.out.2.2⟩
        refine ⟨_, rfl, fun _ => hS0, ?_⟩
        (refine wt_move 11 64 rfl rfl (by kernel_rfl) (by kernel_rfl) (by kernel_rfl) (by kernel_rfl) (fun _ _ _ h => h) rfl hS0 (by (repeat (first | (refine slot_hit (N := 126) ?_ (by rfl); (repeat (refine sz_put ?_)); assumption; done) | (apply slot_miss; focus rfl))); all_goals assumption) rfl ?_); (refine wt_take1 12 53 (v := ?_) rfl rfl (by kernel_rfl) (by kernel_rfl) (by kernel_rfl) (by kernel_rfl) (fun _ _ _ h => h) rfl hS0 (by (repeat (first | (refine slot_hit (N := 126) ?_ (by rfl); (repeat (refine sz_put ?_)); assumption; done) | (apply slot_miss; focus rfl))); all_goals assumption) (fun ev hk hv0 w hS => ?_) ?_; rotate_left; focus (obtain ⟨⟨j0, j1, j2, j3, j4, j5⟩, j6, j7⟩ := hS; go_simp; rfl)); (refine wt_take1 13 53 (v := ?_) rfl rfl (by kernel_rfl) (by kernel_rfl) (by kernel_rfl) (by kernel_rfl) (fun _ _ _ h => h) rfl hS0 (by (repeat (first | (refine slot_hit (N := 126) ?_ (by rfl); (repeat (refine sz_put ?_)); assumption; done) | (apply slot_miss; focus rfl))); all_goals assumption) (fun ev hk hv0 w hS => ?_) ?_; rotate_left; focus (obtain ⟨⟨j0, j1, j2, j3, j4, j5⟩, j6, j7⟩ := hS; go_simp; rfl)); (refine wt_take1 14 53 (v := ?_) rfl rfl (by kernel_rfl) (by kernel_rfl) (by kernel_rfl) (by kernel_rfl) (fun _ _ _ h => h) rfl hS0 (by (repeat (first | (refine slot_hit (N := 126) ?_ (by rfl); (repeat (refine sz_put ?_)); assumption; done) | (apply slot_miss; focus rfl))); all_goals assumption) (fun ev hk hv0 w hS => ?_) ?_; rotate_left; focus (obtain ⟨⟨j0, j1, j2, j3, j4, j5⟩, j6, j7⟩ := hS; go_simp; rfl)); (refine wt_assign 15 65 rfl rfl (by kernel_rfl) (by kernel_rfl) (by kernel_rfl) (by kernel_rfl) (fun _ _ _ h => h) rfl hS0 (by (repeat (first | (refine slot_hit (N := 126) ?_ (by rfl); (repeat (refine sz_put ?_)); assumption; done) | (apply slot_miss; focus rfl))); all_goals assumption) rfl ?_); (refine wt_assign 16 66 rfl rfl (by kernel_rfl) (by kernel_rfl) (by kernel_rfl) (by kernel_rfl) (fun _ _ _ h => h) rfl hS0 (by (repeat (first | (refine slot_hit (N := 126) ?_ (by rfl); (repeat (refine sz_put ?_)); assumption; done) | (apply slot_miss; focus rfl))); all_goals assumption) rfl ?_); (refine wt_assign 17 67 rfl rfl (by kernel_rfl) (by kernel_rfl) (by kernel_rfl) (by kernel_rfl) (fun _ _ _ h => h) rfl hS0 (by (repeat (first | (refine slot_hit (N := 126) ?_ (by rfl); (repeat (refine sz_put ?_)); assumption; done) | (apply slot_miss; focus rfl))); all_goals assumption) rfl ?_)
        refine wt_done (by kernel_rfl) (NoPanic.normal ?_) _
        have ha := HA.out
        subst ha
        have hc9 := hX9.cells
        dsimp only at hc9
        clear x0 x1 x2 x3 x4 x5 x6 z0 z1
        obtain ⟨x0, x1, x2, x3, x4, x5, x6, z0, z1⟩ := hc9
        clear hS0 hb9 hZ hs2 hs3 hs7 hs9 hX5 hX4 hX3 hX2 hX1 hb9' hn5 hf5
        go_wp2
        go_loopw [13] (fun v wr => ∃ i : Nat, i ≤ c0.nb ∧ v = .int .i64 (i : Int) ∧ BlsAt wr wr.heap.size A5 c0.nb P ∧ Bx w wr c0 p0 t1 ⟨A1, kk1, some a2, kk2⟩) (fun v _ => c0.nb - (intOf v).toNat)
        case atStart => exact ⟨0, Nat.zero_le _, rfl, hi5, hX9⟩
        case round =>
          clear hi5 hX9 x0 x1 x2 x3 x4 x5 x6 z0 z1
          obtain ⟨i, hi, rfl, hB, hXr⟩ := hrel
          have hcr := hXr.cells
          dsimp only at hcr
          obtain ⟨x0, x1, x2, x3, x4, x5, x6, z0, z1⟩ := hcr
          by_cases hlt : i < c0.nb
          · obtain ⟨a5, rfl, ha5, hcs⟩ := hB (by omega)
            have y0 := hcs i hlt
            have r0 : (0 : Int) ≤ (i : Int) := by omega
            have r1 : (i : Int) < (c0.nb : Int) := by omega
            have hw1 : IntKind.i64.wrap ((i : Int) + 1) = (i : Int) + 1 := IntWalk.i64_in _ (by omega)
            have DCi := Lib.hid (DC.out wr i hlt hXr.b)
            have HBB := Lib.hid hB
            by_cases hy : y = 0
            · have ey : (y == 0) = true := by simpa using hy
              have hfi := HF.out hy i hlt
              cases hv : P i
              · rw [hv] at y0
                have hne := hfi.2 hv
                have en : ((i : Int) == x) = false := by simpa using hne
                have DCj : Hid (Calls Tryz.prog 17 #[cv c0 p0, tv t1 ⟨A1, kk1, some a2, kk2⟩, .int .i64 (i : Int)] wr fun e w' => e = .returned (.int .i64 57) ∧ Below wr.heap.size wr w') := Lib.hid (by have := DCi.out; rw [hv, if_neg (by simp)] at this; exact this)
                clear hv hfi hne hy DCi hB hcs
                by_cases hlx : (i : Int) < x
                · have el : decide ((i : Int) < x) = true := decide_eq_true hlx
                  clear hlx
                  go_wp2_with (go_at_call 17; (with_reducible refine DCj.out.mono ?_); rintro e w10 ⟨rfl, hb10⟩; have hX10 := hXr.call hb10)
                  go_roundw
                  case rel => exact ⟨i + 1, by omega, by go_num, HBB.out.to hb10 hb10.size, hX10⟩
                  case measure => simp [intOf]; omega
                · have el : decide ((i : Int) < x) = false := decide_eq_false hlx
                  clear hlx
                  go_wp2_with (go_at_call 17; (with_reducible refine DCj.out.mono ?_); rintro e w10 ⟨rfl, hb10⟩; have hX10 := hXr.call hb10)
                  go_roundw
                  case rel => exact ⟨i + 1, by omega, by go_num, HBB.out.to hb10 hb10.size, hX10⟩
                  case measure => simp [intOf]; omega
              · rw [hv] at y0
                have hlx := hfi.1 hv
                have el : decide ((i : Int) < x) = false := decide_eq_false (by omega)
                have DCj : Hid (Calls Tryz.prog 17 #[cv c0 p0, tv t1 ⟨A1, kk1, some a2, kk2⟩, .int .i64 (i : Int)] wr fun e w' => e = .returned (.int .i64 0) ∧ Below wr.heap.size wr w') := Lib.hid (by have := DCi.out; rw [hv, if_pos ⟨hy, rfl⟩] at this; exact this)
                clear hv hfi hlx hy DCi hB hcs
                by_cases hex : (i : Int) = x
                · have en : ((i : Int) == x) = true := by simpa using hex
                  clear hex
                  go_wp2_with (go_at_call 17; (with_reducible refine DCj.out.mono ?_); rintro e w10 ⟨rfl, hb10⟩; have hX10 := hXr.call hb10)
                  go_roundw
                  case rel => exact ⟨i + 1, by omega, by go_num, HBB.out.to hb10 hb10.size, hX10⟩
                  case measure => simp [intOf]; omega
                · have en : ((i : Int) == x) = false := by simpa using hex
                  clear hex
                  go_wp2_with (go_at_call 17; (with_reducible refine DCj.out.mono ?_); rintro e w10 ⟨rfl, hb10⟩; have hX10 := hXr.call hb10)
                  go_roundw
                  case rel => exact ⟨i + 1, by omega, by go_num, HBB.out.to hb10 hb10.size, hX10⟩
                  case measure => simp [intOf]; omega
            · have ey : (y == 0) = false := by simpa using hy
              have DCj : Hid (Calls Tryz.prog 17 #[cv c0 p0, tv t1 ⟨A1, kk1, some a2, kk2⟩, .int .i64 (i : Int)] wr fun e w' => e = .returned (.int .i64 57) ∧ Below wr.heap.size wr w') := Lib.hid (by have := DCi.out; rw [if_neg (fun h => hy h.1)] at this; exact this)
              clear hy DCi hB hcs y0
              go_wp2_with (go_at_call 17; (with_reducible refine DCj.out.mono ?_); rintro e w10 ⟨rfl, hb10⟩; have hX10 := hXr.call hb10)
              go_roundw
              case rel => exact ⟨i + 1, by omega, by go_num, HBB.out.to hb10 hb10.size, hX10⟩
              case measure => simp [intOf]; omega
          · obtain ⟨i', hie⟩ : ∃ i', i' = i := ⟨_, rfl⟩
            subst hie
            have hin : ¬ (i' : Int) < (c0.nb : Int) := by omega
            clear hlt hi hB
            go_wp2_with (go_at_call 20; (with_reducible refine (AL.out _ hXr.b).mono ?_); rintro e w10 ⟨rfl, hb10⟩; have hX10 := hXr.call hb10)
            go_ret
            exact ⟨rfl, hX10.b⟩
      · have e0 : (z != 0) = true := by simpa using h0
        clear h0 hz hs hgr hg hg1 hm0 hN0 hv0 hC0 ht1 henv hR hts
        go_enter Tryz.func8, Tryz.ntmps8
        go_wp2_with (first
          | (go_at_call 21; (with_reducible refine DG.out.mono ?_); rintro e w1 ⟨rfl, hb1⟩; have hX1 := Bx.first hb1; obtain ⟨x0, x1, x2, x3, x4, x5, x6, z0, z1⟩ := hX1.cells)
          | (go_at_call 25; (with_reducible refine (DG6.out w1 hX1.b).mono ?_); rintro e w2 ⟨rfl, hb2⟩; have hX2 := hX1.call hb2; obtain ⟨x0, x1, x2, x3, x4, x5, x6, z0, z1⟩ := hX2.cells)
          | (go_at_call 27; (with_reducible refine (DK.out w2 hX2.b).mono ?_); rintro e w3 ⟨rfl, hb3⟩; have hX3 := hX2.call hb3)
          | (go_at_call 20; (with_reducible refine (AL.out w3 hX3.b).mono ?_); rintro e w5 ⟨rfl, hb5⟩; have hX5 := hX3.call hb5))
        go_ret
        exact ⟨rfl, hX5.b⟩
    · rw [hg1] at DG6
      clear hs hgr hg hg1 hm0 hN0 hv0 hC0 ht1 henv
      go_enter Tryz.func8, Tryz.ntmps8
      go_wp2_with (first
        | (go_at_call 21; (with_reducible refine DG.out.mono ?_); rintro e w1 ⟨rfl, hb1⟩; have hX1 := Bx.first hb1; obtain ⟨x0, x1, x2, x3, x4, x5, x6, z0, z1⟩ := hX1.cells)
        | (go_at_call 25; (with_reducible refine (DG6.out w1 hX1.b).mono ?_); rintro e w2 ⟨rfl, hb2⟩; have hX2 := hX1.call hb2)
        | (go_at_call 20; (with_reducible refine (AL.out w2 hX2.b).mono ?_); rintro e w5 ⟨rfl, hb5⟩; have hX5 := hX2.call hb5))
      go_ret
      exact ⟨rfl, hX5.b⟩
  · rw [hg] at DG
    clear hg hm0 hN0 hv0 hC0 ht1 henv
    go_enter Tryz.func8, Tryz.ntmps8
    go_wp2_with (first
      | (go_at_call 21; (with_reducible refine DG.out.mono ?_); rintro e w1 ⟨rfl, hb1⟩; have hX1 := Bx.first hb1; obtain ⟨x0, x1, x2, x3, x4, x5, x6, z0, z1⟩ := hX1.cells)
      | (go_at_call 20; (with_reducible refine (AL.out w1 hX1.b).mono ?_); rintro e w5 ⟨rfl, hb5⟩; have hX5 := hX1.call hb5))
    go_ret
    exact ⟨rfl, hX5.b⟩

end Go.Proofs.YtbppdifghkkooaaGreatDoor
