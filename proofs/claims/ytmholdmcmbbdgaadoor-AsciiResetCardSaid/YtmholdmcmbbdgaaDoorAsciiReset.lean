/- For all valid circuits that are not great, and each latch: with the reset 1 its line has a blank and a 1 more at its end than with the reset 0, and nothing else differs. No conditions. -/
import Derived.Test.YtmholdmcmbbdgaaDoorCards
import Derived.Test.YtmholdmcmbbdgaaDoorTie
import Derived.Test.YtmholdmcmbbdgaaDoorAsciiTw
import Derived.ProofKit
import Derived.OpenShut
import Derived.LaidMore
import Derived.Lay
import Derived.LaidSub
import Derived.SevenTiedAt
import Derived.Stop.Joined
import Derived.Lib.LaidTab
namespace Go.Proofs.YtmholdmcmbbdgaaDoor.asciiReset
open Go.ChangeShapes Go.WideShapes Go.ChangeAt Go.RowKit
set_option linter.unusedVariables false
set_option linter.unusedSimpArgs false

theorem tab_of_laid {W : World} (h : laidMetH Tryd.prog Rows.asciiResetRow.laid W) : Tab W.heap.size W := by
  rw [MakeChecks.laidMetH_plain _ _ _ (by kernel_rfl)] at h
  have h2 : laidMet Tryd.prog [("internal/strconv.uint64pow10", Lib.tabData .u64 Lib.pow10Tab)] W := by
    have h3 := h.filter fun x => x.1 == "internal/strconv.uint64pow10"
    have e : (Rows.asciiResetRow.laid.filter fun x => x.1 == "internal/strconv.uint64pow10") = [("internal/strconv.uint64pow10", Lib.tabData .u64 Lib.pow10Tab)] := by kernel_rfl
    rwa [e] at h3
  exact Lib.tabBelow_of_tabIs (Lib.tabIs_of_head (show Tryd.prog.globalNamed "internal/strconv.uint64pow10" = some 0 by kernel_rfl) (by kernel_rfl) Tryd.underlying103 Tryd.underlying83 (by kernel_rfl) (by kernel_rfl) h2)


theorem own : ownKnob Tryd.prog.godebug = none := by kernel_rfl

set_option maxRecDepth 100000 in
set_option maxHeartbeats 40000000 in
theorem walk (c0 : Cr) (p0 : Pl) (a1 : Int) (w : World) (hm0 : Mem w w.heap.size c0 p0) (hN0 : Nils c0 p0) (hv0 : Vals c0) (hC0 : Caps c0 p0) (w1 : (Lit.int .i64 a1).wf = true) (htab : Tab w.heap.size w) :
    Calls Tryd.prog 8 #[cv c0 p0, .int .i64 a1] w fun e w' => e = .returned (.bool true) ∧ Below w.heap.size w w' := by
  have HT := Lib.hid htab
  clear htab
  have AL : Hid (∀ W, Below w.heap.size w W → Calls Tryd.prog 12 #[] W fun e w' => e = .returned (.bool true) ∧ Below W.heap.size W w') := fun W hb => alive7_any W (Tab.up (HT.out.on hb) hb.size)
  have hv1 := i64_of w1
  unfold I64 at hv1
  have HM := Lib.hid hm0
  have HN := Lib.hid hN0
  cases hg : c0.gr
  · have G0 : Hid (∀ W, Calls Tryd.prog 19 #[cv c0 p0] W fun e w' => e = .returned (.bool false) ∧ Below W.heap.size W w') := fun W => by have := rGreat_any c0 p0 W; rwa [hg] at this
    have hgr := Cr.gr_no hg
    have HS := Lib.hid (show Sm c0 from hv0.sm (by omega) (by omega) (by omega) (by omega))
    have g1 := HS.out.nl
    clear hgr
    by_cases hk : c0.chk = 0
    · have K0 : Hid (∀ W, Below w.heap.size w W → Calls Tryd.prog 21 #[cv c0 p0] W fun e w' => e = .returned (.int .i64 0) ∧ Below W.heap.size W w') := fun W hb => by have := rCheck_any c0 p0 W (HM.out.to hb hb.size) HS.out; rwa [hk] at this
      by_cases h0 : a1 < 0
      · have d0 : decide (a1 < 0) = true := decide_eq_true h0
        clear hk hg hv0 hm0 hN0 hC0
        go_enter Tryd.func8, Tryd.ntmps8
        go_wp2_with (go_at_call 19; (with_reducible refine (G0.out _).mono ?_); rintro e w1 ⟨rfl, hb1⟩; have hB1 : Below w.heap.size w w1 := Below.step (by go_grown) (by go_size) hb1; have hA1 : Has w1 w.heap.size 37 (cc c0 p0) := (Has.new w 37 (cc c0 p0)).keep hb1 (by simp); obtain ⟨x0, x1, x2, x3, x4⟩ := hA1.box)
        go_wp2_with (go_at_call 21; (with_reducible refine (K0.out _ hB1).mono ?_); rintro e w2 ⟨rfl, hb2⟩; have hB2 := Below.step hB1 hB1.size hb2; have hA2 : Has w2 w.heap.size 37 (cc c0 p0) := hA1.keep hb2 hA1.lt; obtain ⟨x0, x1, x2, x3, x4⟩ := hA2.box)
        go_wp2_with (go_at_call 12; (with_reducible refine (AL.out _ hB2).mono ?_); rintro e w3 ⟨rfl, hb3⟩; have hB3 := Below.step hB2 hB2.size hb3; have hA3 : Has w3 w.heap.size 37 (cc c0 p0) := hA2.keep hb3 hA2.lt; obtain ⟨x0, x1, x2, x3, x4⟩ := hA3.box)
        go_ret
        exact ⟨rfl, hB3⟩
      · by_cases h1 : (c0.nl : Int) ≤ a1
        · have d0 : decide (a1 < 0) = false := decide_eq_false h0
          have d1 : decide ((c0.nl : Int) ≤ a1) = true := decide_eq_true h1
          clear hk hg hv0 hm0 hN0 hC0
          go_enter Tryd.func8, Tryd.ntmps8
          go_wp2_with (go_at_call 19; (with_reducible refine (G0.out _).mono ?_); rintro e w1 ⟨rfl, hb1⟩; have hB1 : Below w.heap.size w w1 := Below.step (by go_grown) (by go_size) hb1; have hA1 : Has w1 w.heap.size 37 (cc c0 p0) := (Has.new w 37 (cc c0 p0)).keep hb1 (by simp); obtain ⟨x0, x1, x2, x3, x4⟩ := hA1.box)
          go_wp2_with (go_at_call 21; (with_reducible refine (K0.out _ hB1).mono ?_); rintro e w2 ⟨rfl, hb2⟩; have hB2 := Below.step hB1 hB1.size hb2; have hA2 : Has w2 w.heap.size 37 (cc c0 p0) := hA1.keep hb2 hA1.lt; obtain ⟨x0, x1, x2, x3, x4⟩ := hA2.box)
          go_wp2_with (go_at_call 12; (with_reducible refine (AL.out _ hB2).mono ?_); rintro e w3 ⟨rfl, hb3⟩; have hB3 := Below.step hB2 hB2.size hb3; have hA3 : Has w3 w.heap.size 37 (cc c0 p0) := hA2.keep hb3 hA2.lt; obtain ⟨x0, x1, x2, x3, x4⟩ := hA3.box)
          go_ret
          exact ⟨rfl, hB3⟩
        · obtain ⟨k, hk1⟩ : ∃ k : Nat, a1 = (k : Int) := ⟨a1.toNat, by omega⟩
          subst hk1
          have hkl : k < c0.nl := by omega
          have d0 : decide ((k : Int) < 0) = false := decide_eq_false (by omega)
          have d1 : decide ((c0.nl : Int) ≤ (k : Int)) = false := decide_eq_false (by omega)
          obtain ⟨SA, SB, SZ, n, E, X, K, hX⟩ := rs_ok (c := c0) hk hkl
          clear h0 h1 hv1
          go_enter Tryd.func8, Tryd.ntmps8
          go_wp2_with (go_at_call 19; (with_reducible refine (G0.out _).mono ?_); rintro e w1 ⟨rfl, hb1⟩; have hB1 : Below w.heap.size w w1 := Below.step (by go_grown) (by go_size) hb1; have hA1 : Has w1 w.heap.size 37 (cc c0 p0) := (Has.new w 37 (cc c0 p0)).keep hb1 (by simp); obtain ⟨x0, x1, x2, x3, x4⟩ := hA1.box)
          go_wp2_with (go_at_call 21; (with_reducible refine (K0.out _ hB1).mono ?_); rintro e w2 ⟨rfl, hb2⟩; have hB2 := Below.step hB1 hB1.size hb2; have hA2 : Has w2 w.heap.size 37 (cc c0 p0) := hA1.keep hb2 hA1.lt; obtain ⟨x0, x1, x2, x3, x4⟩ := hA2.box)
          have hs0 := HS.out
          have TW : Hid (∀ W, Below w.heap.size w W → Calls Tryd.prog 22 #[cv c0 p0] W fun e w' => ∃ p', e = .returned (cv c0 p') ∧ OwnC w' (W.heap.size + 2) c0 p' ∧ Below W.heap.size W w') := fun W hb => twin_any c0 p0 W HS.out (HM.out.to hb hb.size) HN.out
          obtain ⟨U, hU⟩ : ∃ U, w2.drew = U := ⟨_, rfl⟩
          have hBd : Below w.heap.size w U := hU ▸ below_dn hB2 1
          have hb0 : Bx2 U U w.heap.size c0 p0 none none none none := hU ▸ ⟨Below.refl _ _, hA2, hA2.lt, (fun b e => by cases e), (fun b e => by cases e), (fun a b e => by cases e), (fun q e => by cases e), (fun q e => by cases e), (fun q r e => by cases e)⟩
          refine Go.Code.wp_mono (Q := fun e a' W' => e = .normal ∧ ∃ b5 b6 q1 q2, (Sz a' 112 ∧ Slot a' 0 (cv c0 p0) ∧ Slot a' 1 (.int .i64 (k : Int)) ∧ Slot a' 2 (.pointer (some ⟨w.heap.size, 0, none⟩)) ∧ Slot a' 4 (.bool false) ∧ Slot a' 5 (.pointer (some ⟨b5, 0, none⟩)) ∧ Slot a' 6 (.pointer (some ⟨b6, 0, none⟩))) ∧ Bx3 U W' w.heap.size c0 p0 b5 b6 c0 c0 q1 q2) ?rest ?reg
          case reg =>
            refine wp_slots (fun f => Sz f 112 ∧ Slot f 0 (cv c0 p0) ∧ Slot f 1 (.int .i64 (k : Int)) ∧ Slot f 2 (.pointer (some ⟨w.heap.size, 0, none⟩)) ∧ Slot f 4 (.bool false)) ⟨⟨rfl, rfl⟩, ⟨rfl⟩, ⟨rfl⟩, ⟨rfl⟩, ⟨rfl⟩⟩ fun a0 hA0 hR => ?_
            obtain ⟨hZ, hs0, hs1, hs2, hs4⟩ := hR
            clear hA0 x0 x1 x2 x3 x4
            have hS0 : BxS w.heap.size c0 p0 U := hb0.x.box
            refine wp_region_T' hU (BxS w.heap.size c0 p0) 8 (by kernel_rfl) ?_
            refine WT.h ?_
            (refine wt_take1 0 2 (v := ?_) rfl rfl (by kernel_rfl) (by kernel_rfl) (by kernel_rfl) (by kernel_rfl) (fun _ _ _ h => h) rfl hS0 (by (repeat (first | (refine slot_hit (N := 112) ?_ (by rfl); (repeat (refine sz_put ?_)); assumption; done) | (apply slot_miss; focus rfl))); all_goals assumption) (fun ev hk hv0 w hS => ?_) ?_; rotate_left; focus (obtain ⟨j0, j1, j2, j3, j4⟩ := hS; go_simp; rfl)); (refine wt_take1 2 2 (v := ?_) rfl rfl (by kernel_rfl) (by kernel_rfl) (by kernel_rfl) (by kernel_rfl) (fun _ _ _ h => h) rfl hS0 (by (repeat (first | (refine slot_hit (N := 112) ?_ (by rfl); (repeat (refine sz_put ?_)); assumption; done) | (apply slot_miss; focus rfl))); all_goals assumption) (fun ev hk hv0 w hS => ?_) ?_; rotate_left; focus (obtain ⟨j0, j1, j2, j3, j4⟩ := hS; go_simp; rfl))
            refine wt_ways3 1 4 5 (by kernel_rfl) ?_ ?_ ?_
            · refine wb_call 1 33 rfl rfl rfl (by (repeat (first | (refine slot_hit (N := 112) ?_ (by rfl); (repeat (refine sz_put ?_)); assumption; done) | (apply slot_miss; focus rfl))); all_goals assumption) (f := ?_) (args := ?_) (fun ev hk hkf hv0 => ?_) ?_
              rotate_left 2
              focus (go_simp; first | rfl | (constructor <;> rfl))
              (with_reducible refine (TW.out _ (Below.step hBd hBd.size hb0.B)).mono ?_)
              rintro e V1 ⟨p1', rfl, ho1, hv1⟩
              have hb1 := hb0.tw1 hv1 ho1
              refine ⟨_, rfl, fun _ => hb1.x.box, ?_⟩
              refine wt_ways3 3 4 5 (by kernel_rfl) ?_ ?_ ?_
              · refine wb_call 3 35 rfl rfl rfl (by (repeat (first | (refine slot_hit (N := 112) ?_ (by rfl); (repeat (refine sz_put ?_)); assumption; done) | (apply slot_miss; focus rfl))); all_goals assumption) (f := ?_) (args := ?_) (fun ev hk hkf hv0 => ?_) ?_
                rotate_left 2
                focus (go_simp; first | rfl | (constructor <;> rfl))
                (with_reducible refine (TW.out _ (Below.step hBd hBd.size hb1.B)).mono ?_)
                rintro e V2 ⟨p2', rfl, ho2, hv2⟩
                have hb2 := hb1.tw2 hv2 ho2
                refine ⟨_, rfl, fun _ => hb2.x.box, ?_⟩
                refine wt_ways2 4 5 (by kernel_rfl) ?_ ?_
                · refine wb_val 4 rfl rfl rfl (v := ?_) (w' := ?_) (fun ev hk => ?_) ?_
                  rotate_left 2
                  focus (go_simp; first | rfl | (constructor <;> rfl))
                  intro V3 hV3
                  have hb3 := hb2.al5
                  unfold zc at hb3
                  rw [hV3] at hb3
                  clear hV3
                  refine ⟨fun _ => hb3.x.box, ?_⟩
                  refine wt_one 5 (by kernel_rfl) ?_
                  refine wb_val 5 rfl rfl rfl (v := ?_) (w' := ?_) (fun ev hk => ?_) ?_
                  rotate_left 2
                  focus (go_simp; first | rfl | (constructor <;> rfl))
                  intro V4 hV4
                  have hb4 := hb3.al6
                  unfold zc at hb4
                  rw [hV4] at hb4
                  clear hV4
                  refine ⟨fun _ => hb4.x.box, ?_⟩
                  obtain ⟨⟨z0, z1, z2, z3, z4⟩, f0, f1, f2, f3, f4⟩ := (hb4.h5 _ rfl).2.z5
                  refine wt_one 6 (by kernel_rfl) ?_
                  refine wb_act2 6 5 34 rfl rfl rfl (by (repeat (first | (refine slot_hit (N := 112) ?_ (by rfl); (repeat (refine sz_put ?_)); assumption; done) | (apply slot_miss; focus rfl))); all_goals assumption) (by (repeat (first | (refine slot_hit (N := 112) ?_ (by rfl); (repeat (refine sz_put ?_)); assumption; done) | (apply slot_miss; focus rfl))); all_goals assumption) (w' := ?_) (fun ev hk hv0 hv1 => ?_) ?_
                  rotate_left
                  focus (go_simp; rfl)
                  intro U1 hU1
                  have hm := hb4.mid hU1
                  refine ⟨fun _ => hm.1, ?_⟩
                  clear z0 z1 z2 z3 z4 f0 f1 f2 f3 f4
                  obtain ⟨⟨z0, z1, z2, z3, z4⟩, f0, f1, f2, f3, f4⟩ := hm.2.z5
                  refine wt_one 7 (by kernel_rfl) ?_
                  refine wb_act2 7 6 36 rfl rfl rfl (by (repeat (first | (refine slot_hit (N := 112) ?_ (by rfl); (repeat (refine sz_put ?_)); assumption; done) | (apply slot_miss; focus rfl))); all_goals assumption) (by (repeat (first | (refine slot_hit (N := 112) ?_ (by rfl); (repeat (refine sz_put ?_)); assumption; done) | (apply slot_miss; focus rfl))); all_goals assumption) (w' := ?_) (fun ev hk hv0 hv1 => ?_) ?_
                  rotate_left
                  focus (go_simp; rfl)
                  intro U2 hU2
                  have h3 := hb4.fin3 hU1 hU2
                  refine ⟨fun _ => h3.x.box, ?_⟩
                  refine wt_done (by kernel_rfl) (NoPanic.normal ⟨rfl, _, _, _, _, ⟨?_, ?_, ?_, ?_, ?_, ?_, ?_⟩, h3⟩) _
                  · (repeat (refine sz_put ?_)); assumption
                  · exact (by (repeat (first | (refine slot_hit (N := 112) ?_ (by rfl); (repeat (refine sz_put ?_)); assumption; done) | (apply slot_miss; focus rfl))); all_goals assumption)
                  · exact (by (repeat (first | (refine slot_hit (N := 112) ?_ (by rfl); (repeat (refine sz_put ?_)); assumption; done) | (apply slot_miss; focus rfl))); all_goals assumption)
                  · exact (by (repeat (first | (refine slot_hit (N := 112) ?_ (by rfl); (repeat (refine sz_put ?_)); assumption; done) | (apply slot_miss; focus rfl))); all_goals assumption)
                  · exact (by (repeat (first | (refine slot_hit (N := 112) ?_ (by rfl); (repeat (refine sz_put ?_)); assumption; done) | (apply slot_miss; focus rfl))); all_goals assumption)
                  · exact (by (repeat (first | (refine slot_hit (N := 112) ?_ (by rfl); (repeat (refine sz_put ?_)); assumption; done) | (apply slot_miss; focus rfl))); all_goals assumption)
                  · exact (by (repeat (first | (refine slot_hit (N := 112) ?_ (by rfl); (repeat (refine sz_put ?_)); assumption; done) | (apply slot_miss; focus rfl))); all_goals assumption)
                · refine wb_val 5 rfl rfl rfl (v := ?_) (w' := ?_) (fun ev hk => ?_) ?_
                  rotate_left 2
                  focus (go_simp; first | rfl | (constructor <;> rfl))
                  intro V3 hV3
                  have hb3 := hb2.al6
                  unfold zc at hb3
                  rw [hV3] at hb3
                  clear hV3
                  refine ⟨fun _ => hb3.x.box, ?_⟩
                  refine wt_one 4 (by kernel_rfl) ?_
                  refine wb_val 4 rfl rfl rfl (v := ?_) (w' := ?_) (fun ev hk => ?_) ?_
                  rotate_left 2
                  focus (go_simp; first | rfl | (constructor <;> rfl))
                  intro V4 hV4
                  have hb4 := hb3.al5
                  unfold zc at hb4
                  rw [hV4] at hb4
                  clear hV4
                  refine ⟨fun _ => hb4.x.box, ?_⟩
                  obtain ⟨⟨z0, z1, z2, z3, z4⟩, f0, f1, f2, f3, f4⟩ := (hb4.h5 _ rfl).2.z5
                  refine wt_one 6 (by kernel_rfl) ?_
                  refine wb_act2 6 5 34 rfl rfl rfl (by (repeat (first | (refine slot_hit (N := 112) ?_ (by rfl); (repeat (refine sz_put ?_)); assumption; done) | (apply slot_miss; focus rfl))); all_goals assumption) (by (repeat (first | (refine slot_hit (N := 112) ?_ (by rfl); (repeat (refine sz_put ?_)); assumption; done) | (apply slot_miss; focus rfl))); all_goals assumption) (w' := ?_) (fun ev hk hv0 hv1 => ?_) ?_
                  rotate_left
                  focus (go_simp; rfl)
                  intro U1 hU1
                  have hm := hb4.mid hU1
                  refine ⟨fun _ => hm.1, ?_⟩
                  clear z0 z1 z2 z3 z4 f0 f1 f2 f3 f4
                  obtain ⟨⟨z0, z1, z2, z3, z4⟩, f0, f1, f2, f3, f4⟩ := hm.2.z5
                  refine wt_one 7 (by kernel_rfl) ?_
                  refine wb_act2 7 6 36 rfl rfl rfl (by (repeat (first | (refine slot_hit (N := 112) ?_ (by rfl); (repeat (refine sz_put ?_)); assumption; done) | (apply slot_miss; focus rfl))); all_goals assumption) (by (repeat (first | (refine slot_hit (N := 112) ?_ (by rfl); (repeat (refine sz_put ?_)); assumption; done) | (apply slot_miss; focus rfl))); all_goals assumption) (w' := ?_) (fun ev hk hv0 hv1 => ?_) ?_
                  rotate_left
                  focus (go_simp; rfl)
                  intro U2 hU2
                  have h3 := hb4.fin3 hU1 hU2
                  refine ⟨fun _ => h3.x.box, ?_⟩
                  refine wt_done (by kernel_rfl) (NoPanic.normal ⟨rfl, _, _, _, _, ⟨?_, ?_, ?_, ?_, ?_, ?_, ?_⟩, h3⟩) _
                  · (repeat (refine sz_put ?_)); assumption
                  · exact (by (repeat (first | (refine slot_hit (N := 112) ?_ (by rfl); (repeat (refine sz_put ?_)); assumption; done) | (apply slot_miss; focus rfl))); all_goals assumption)
                  · exact (by (repeat (first | (refine slot_hit (N := 112) ?_ (by rfl); (repeat (refine sz_put ?_)); assumption; done) | (apply slot_miss; focus rfl))); all_goals assumption)
                  · exact (by (repeat (first | (refine slot_hit (N := 112) ?_ (by rfl); (repeat (refine sz_put ?_)); assumption; done) | (apply slot_miss; focus rfl))); all_goals assumption)
                  · exact (by (repeat (first | (refine slot_hit (N := 112) ?_ (by rfl); (repeat (refine sz_put ?_)); assumption; done) | (apply slot_miss; focus rfl))); all_goals assumption)
                  · exact (by (repeat (first | (refine slot_hit (N := 112) ?_ (by rfl); (repeat (refine sz_put ?_)); assumption; done) | (apply slot_miss; focus rfl))); all_goals assumption)
                  · exact (by (repeat (first | (refine slot_hit (N := 112) ?_ (by rfl); (repeat (refine sz_put ?_)); assumption; done) | (apply slot_miss; focus rfl))); all_goals assumption)
              · refine wb_val 4 rfl rfl rfl (v := ?_) (w' := ?_) (fun ev hk => ?_) ?_
                rotate_left 2
                focus (go_simp; first | rfl | (constructor <;> rfl))
                intro V2 hV2
                have hb2 := hb1.al5
                unfold zc at hb2
                rw [hV2] at hb2
                clear hV2
                refine ⟨fun _ => hb2.x.box, ?_⟩
                refine wt_ways2 3 5 (by kernel_rfl) ?_ ?_
                · refine wb_call 3 35 rfl rfl rfl (by (repeat (first | (refine slot_hit (N := 112) ?_ (by rfl); (repeat (refine sz_put ?_)); assumption; done) | (apply slot_miss; focus rfl))); all_goals assumption) (f := ?_) (args := ?_) (fun ev hk hkf hv0 => ?_) ?_
                  rotate_left 2
                  focus (go_simp; first | rfl | (constructor <;> rfl))
                  (with_reducible refine (TW.out _ (Below.step hBd hBd.size hb2.B)).mono ?_)
                  rintro e V3 ⟨p3', rfl, ho3, hv3⟩
                  have hb3 := hb2.tw2 hv3 ho3
                  refine ⟨_, rfl, fun _ => hb3.x.box, ?_⟩
                  refine wt_one 5 (by kernel_rfl) ?_
                  refine wb_val 5 rfl rfl rfl (v := ?_) (w' := ?_) (fun ev hk => ?_) ?_
                  rotate_left 2
                  focus (go_simp; first | rfl | (constructor <;> rfl))
                  intro V4 hV4
                  have hb4 := hb3.al6
                  unfold zc at hb4
                  rw [hV4] at hb4
                  clear hV4
                  refine ⟨fun _ => hb4.x.box, ?_⟩
                  obtain ⟨⟨z0, z1, z2, z3, z4⟩, f0, f1, f2, f3, f4⟩ := (hb4.h5 _ rfl).2.z5
                  refine wt_one 6 (by kernel_rfl) ?_
                  refine wb_act2 6 5 34 rfl rfl rfl (by (repeat (first | (refine slot_hit (N := 112) ?_ (by rfl); (repeat (refine sz_put ?_)); assumption; done) | (apply slot_miss; focus rfl))); all_goals assumption) (by (repeat (first | (refine slot_hit (N := 112) ?_ (by rfl); (repeat (refine sz_put ?_)); assumption; done) | (apply slot_miss; focus rfl))); all_goals assumption) (w' := ?_) (fun ev hk hv0 hv1 => ?_) ?_
                  rotate_left
                  focus (go_simp; rfl)
                  intro U1 hU1
                  have hm := hb4.mid hU1
                  refine ⟨fun _ => hm.1, ?_⟩
                  clear z0 z1 z2 z3 z4 f0 f1 f2 f3 f4
                  obtain ⟨⟨z0, z1, z2, z3, z4⟩, f0, f1, f2, f3, f4⟩ := hm.2.z5
                  refine wt_one 7 (by kernel_rfl) ?_
                  refine wb_act2 7 6 36 rfl rfl rfl (by (repeat (first | (refine slot_hit (N := 112) ?_ (by rfl); (repeat (refine sz_put ?_)); assumption; done) | (apply slot_miss; focus rfl))); all_goals assumption) (by (repeat (first | (refine slot_hit (N := 112) ?_ (by rfl); (repeat (refine sz_put ?_)); assumption; done) | (apply slot_miss; focus rfl))); all_goals assumption) (w' := ?_) (fun ev hk hv0 hv1 => ?_) ?_
                  rotate_left
                  focus (go_simp; rfl)
                  intro U2 hU2
                  have h3 := hb4.fin3 hU1 hU2
                  refine ⟨fun _ => h3.x.box, ?_⟩
                  refine wt_done (by kernel_rfl) (NoPanic.normal ⟨rfl, _, _, _, _, ⟨?_, ?_, ?_, ?_, ?_, ?_, ?_⟩, h3⟩) _
                  · (repeat (refine sz_put ?_)); assumption
                  · exact (by (repeat (first | (refine slot_hit (N := 112) ?_ (by rfl); (repeat (refine sz_put ?_)); assumption; done) | (apply slot_miss; focus rfl))); all_goals assumption)
                  · exact (by (repeat (first | (refine slot_hit (N := 112) ?_ (by rfl); (repeat (refine sz_put ?_)); assumption; done) | (apply slot_miss; focus rfl))); all_goals assumption)
                  · exact (by (repeat (first | (refine slot_hit (N := 112) ?_ (by rfl); (repeat (refine sz_put ?_)); assumption; done) | (apply slot_miss; focus rfl))); all_goals assumption)
                  · exact (by (repeat (first | (refine slot_hit (N := 112) ?_ (by rfl); (repeat (refine sz_put ?_)); assumption; done) | (apply slot_miss; focus rfl))); all_goals assumption)
                  · exact (by (repeat (first | (refine slot_hit (N := 112) ?_ (by rfl); (repeat (refine sz_put ?_)); assumption; done) | (apply slot_miss; focus rfl))); all_goals assumption)
                  · exact (by (repeat (first | (refine slot_hit (N := 112) ?_ (by rfl); (repeat (refine sz_put ?_)); assumption; done) | (apply slot_miss; focus rfl))); all_goals assumption)
                · refine wb_val 5 rfl rfl rfl (v := ?_) (w' := ?_) (fun ev hk => ?_) ?_
                  rotate_left 2
                  focus (go_simp; first | rfl | (constructor <;> rfl))
                  intro V3 hV3
                  have hb3 := hb2.al6
                  unfold zc at hb3
                  rw [hV3] at hb3
                  clear hV3
                  refine ⟨fun _ => hb3.x.box, ?_⟩
                  refine wt_one 3 (by kernel_rfl) ?_
                  refine wb_call 3 35 rfl rfl rfl (by (repeat (first | (refine slot_hit (N := 112) ?_ (by rfl); (repeat (refine sz_put ?_)); assumption; done) | (apply slot_miss; focus rfl))); all_goals assumption) (f := ?_) (args := ?_) (fun ev hk hkf hv0 => ?_) ?_
                  rotate_left 2
                  focus (go_simp; first | rfl | (constructor <;> rfl))
                  (with_reducible refine (TW.out _ (Below.step hBd hBd.size hb3.B)).mono ?_)
                  rintro e V4 ⟨p4', rfl, ho4, hv4⟩
                  have hb4 := hb3.tw2 hv4 ho4
                  refine ⟨_, rfl, fun _ => hb4.x.box, ?_⟩
                  obtain ⟨⟨z0, z1, z2, z3, z4⟩, f0, f1, f2, f3, f4⟩ := (hb4.h5 _ rfl).2.z5
                  refine wt_one 6 (by kernel_rfl) ?_
                  refine wb_act2 6 5 34 rfl rfl rfl (by (repeat (first | (refine slot_hit (N := 112) ?_ (by rfl); (repeat (refine sz_put ?_)); assumption; done) | (apply slot_miss; focus rfl))); all_goals assumption) (by (repeat (first | (refine slot_hit (N := 112) ?_ (by rfl); (repeat (refine sz_put ?_)); assumption; done) | (apply slot_miss; focus rfl))); all_goals assumption) (w' := ?_) (fun ev hk hv0 hv1 => ?_) ?_
                  rotate_left
                  focus (go_simp; rfl)
                  intro U1 hU1
                  have hm := hb4.mid hU1
                  refine ⟨fun _ => hm.1, ?_⟩
                  clear z0 z1 z2 z3 z4 f0 f1 f2 f3 f4
                  obtain ⟨⟨z0, z1, z2, z3, z4⟩, f0, f1, f2, f3, f4⟩ := hm.2.z5
                  refine wt_one 7 (by kernel_rfl) ?_
                  refine wb_act2 7 6 36 rfl rfl rfl (by (repeat (first | (refine slot_hit (N := 112) ?_ (by rfl); (repeat (refine sz_put ?_)); assumption; done) | (apply slot_miss; focus rfl))); all_goals assumption) (by (repeat (first | (refine slot_hit (N := 112) ?_ (by rfl); (repeat (refine sz_put ?_)); assumption; done) | (apply slot_miss; focus rfl))); all_goals assumption) (w' := ?_) (fun ev hk hv0 hv1 => ?_) ?_
                  rotate_left
                  focus (go_simp; rfl)
                  intro U2 hU2
                  have h3 := hb4.fin3 hU1 hU2
                  refine ⟨fun _ => h3.x.box, ?_⟩
                  refine wt_done (by kernel_rfl) (NoPanic.normal ⟨rfl, _, _, _, _, ⟨?_, ?_, ?_, ?_, ?_, ?_, ?_⟩, h3⟩) _
                  · (repeat (refine sz_put ?_)); assumption
                  · exact (by (repeat (first | (refine slot_hit (N := 112) ?_ (by rfl); (repeat (refine sz_put ?_)); assumption; done) | (apply slot_miss; focus rfl))); all_goals assumption)
                  · exact (by (repeat (first | (refine slot_hit (N := 112) ?_ (by rfl); (repeat (refine sz_put ?_)); assumption; done) | (apply slot_miss; focus rfl))); all_goals assumption)
                  · exact (by (repeat (first | (refine slot_hit (N := 112) ?_ (by rfl); (repeat (refine sz_put ?_)); assumption; done) | (apply slot_miss; focus rfl))); all_goals assumption)
                  · exact (by (repeat (first | (refine slot_hit (N := 112) ?_ (by rfl); (repeat (refine sz_put ?_)); assumption; done) | (apply slot_miss; focus rfl))); all_goals assumption)
                  · exact (by (repeat (first | (refine slot_hit (N := 112) ?_ (by rfl); (repeat (refine sz_put ?_)); assumption; done) | (apply slot_miss; focus rfl))); all_goals assumption)
                  · exact (by (repeat (first | (refine slot_hit (N := 112) ?_ (by rfl); (repeat (refine sz_put ?_)); assumption; done) | (apply slot_miss; focus rfl))); all_goals assumption)
              · refine wb_val 5 rfl rfl rfl (v := ?_) (w' := ?_) (fun ev hk => ?_) ?_
                rotate_left 2
                focus (go_simp; first | rfl | (constructor <;> rfl))
                intro V2 hV2
                have hb2 := hb1.al6
                unfold zc at hb2
                rw [hV2] at hb2
                clear hV2
                refine ⟨fun _ => hb2.x.box, ?_⟩
                refine wt_ways2 3 4 (by kernel_rfl) ?_ ?_
                · refine wb_call 3 35 rfl rfl rfl (by (repeat (first | (refine slot_hit (N := 112) ?_ (by rfl); (repeat (refine sz_put ?_)); assumption; done) | (apply slot_miss; focus rfl))); all_goals assumption) (f := ?_) (args := ?_) (fun ev hk hkf hv0 => ?_) ?_
                  rotate_left 2
                  focus (go_simp; first | rfl | (constructor <;> rfl))
                  (with_reducible refine (TW.out _ (Below.step hBd hBd.size hb2.B)).mono ?_)
                  rintro e V3 ⟨p3', rfl, ho3, hv3⟩
                  have hb3 := hb2.tw2 hv3 ho3
                  refine ⟨_, rfl, fun _ => hb3.x.box, ?_⟩
                  refine wt_one 4 (by kernel_rfl) ?_
                  refine wb_val 4 rfl rfl rfl (v := ?_) (w' := ?_) (fun ev hk => ?_) ?_
                  rotate_left 2
                  focus (go_simp; first | rfl | (constructor <;> rfl))
                  intro V4 hV4
                  have hb4 := hb3.al5
                  unfold zc at hb4
                  rw [hV4] at hb4
                  clear hV4
                  refine ⟨fun _ => hb4.x.box, ?_⟩
                  obtain ⟨⟨z0, z1, z2, z3, z4⟩, f0, f1, f2, f3, f4⟩ := (hb4.h5 _ rfl).2.z5
                  refine wt_one 6 (by kernel_rfl) ?_
                  refine wb_act2 6 5 34 rfl rfl rfl (by (repeat (first | (refine slot_hit (N := 112) ?_ (by rfl); (repeat (refine sz_put ?_)); assumption; done) | (apply slot_miss; focus rfl))); all_goals assumption) (by (repeat (first | (refine slot_hit (N := 112) ?_ (by rfl); (repeat (refine sz_put ?_)); assumption; done) | (apply slot_miss; focus rfl))); all_goals assumption) (w' := ?_) (fun ev hk hv0 hv1 => ?_) ?_
                  rotate_left
                  focus (go_simp; rfl)
                  intro U1 hU1
                  have hm := hb4.mid hU1
                  refine ⟨fun _ => hm.1, ?_⟩
                  clear z0 z1 z2 z3 z4 f0 f1 f2 f3 f4
                  obtain ⟨⟨z0, z1, z2, z3, z4⟩, f0, f1, f2, f3, f4⟩ := hm.2.z5
                  refine wt_one 7 (by kernel_rfl) ?_
                  refine wb_act2 7 6 36 rfl rfl rfl (by (repeat (first | (refine slot_hit (N := 112) ?_ (by rfl); (repeat (refine sz_put ?_)); assumption; done) | (apply slot_miss; focus rfl))); all_goals assumption) (by (repeat (first | (refine slot_hit (N := 112) ?_ (by rfl); (repeat (refine sz_put ?_)); assumption; done) | (apply slot_miss; focus rfl))); all_goals assumption) (w' := ?_) (fun ev hk hv0 hv1 => ?_) ?_
                  rotate_left
                  focus (go_simp; rfl)
                  intro U2 hU2
                  have h3 := hb4.fin3 hU1 hU2
                  refine ⟨fun _ => h3.x.box, ?_⟩
                  refine wt_done (by kernel_rfl) (NoPanic.normal ⟨rfl, _, _, _, _, ⟨?_, ?_, ?_, ?_, ?_, ?_, ?_⟩, h3⟩) _
                  · (repeat (refine sz_put ?_)); assumption
                  · exact (by (repeat (first | (refine slot_hit (N := 112) ?_ (by rfl); (repeat (refine sz_put ?_)); assumption; done) | (apply slot_miss; focus rfl))); all_goals assumption)
                  · exact (by (repeat (first | (refine slot_hit (N := 112) ?_ (by rfl); (repeat (refine sz_put ?_)); assumption; done) | (apply slot_miss; focus rfl))); all_goals assumption)
                  · exact (by (repeat (first | (refine slot_hit (N := 112) ?_ (by rfl); (repeat (refine sz_put ?_)); assumption; done) | (apply slot_miss; focus rfl))); all_goals assumption)
                  · exact (by (repeat (first | (refine slot_hit (N := 112) ?_ (by rfl); (repeat (refine sz_put ?_)); assumption; done) | (apply slot_miss; focus rfl))); all_goals assumption)
                  · exact (by (repeat (first | (refine slot_hit (N := 112) ?_ (by rfl); (repeat (refine sz_put ?_)); assumption; done) | (apply slot_miss; focus rfl))); all_goals assumption)
                  · exact (by (repeat (first | (refine slot_hit (N := 112) ?_ (by rfl); (repeat (refine sz_put ?_)); assumption; done) | (apply slot_miss; focus rfl))); all_goals assumption)
                · refine wb_val 4 rfl rfl rfl (v := ?_) (w' := ?_) (fun ev hk => ?_) ?_
                  rotate_left 2
                  focus (go_simp; first | rfl | (constructor <;> rfl))
                  intro V3 hV3
                  have hb3 := hb2.al5
                  unfold zc at hb3
                  rw [hV3] at hb3
                  clear hV3
                  refine ⟨fun _ => hb3.x.box, ?_⟩
                  refine wt_one 3 (by kernel_rfl) ?_
                  refine wb_call 3 35 rfl rfl rfl (by (repeat (first | (refine slot_hit (N := 112) ?_ (by rfl); (repeat (refine sz_put ?_)); assumption; done) | (apply slot_miss; focus rfl))); all_goals assumption) (f := ?_) (args := ?_) (fun ev hk hkf hv0 => ?_) ?_
                  rotate_left 2
                  focus (go_simp; first | rfl | (constructor <;> rfl))
                  (with_reducible refine (TW.out _ (Below.step hBd hBd.size hb3.B)).mono ?_)
                  rintro e V4 ⟨p4', rfl, ho4, hv4⟩
                  have hb4 := hb3.tw2 hv4 ho4
                  refine ⟨_, rfl, fun _ => hb4.x.box, ?_⟩
                  obtain ⟨⟨z0, z1, z2, z3, z4⟩, f0, f1, f2, f3, f4⟩ := (hb4.h5 _ rfl).2.z5
                  refine wt_one 6 (by kernel_rfl) ?_
                  refine wb_act2 6 5 34 rfl rfl rfl (by (repeat (first | (refine slot_hit (N := 112) ?_ (by rfl); (repeat (refine sz_put ?_)); assumption; done) | (apply slot_miss; focus rfl))); all_goals assumption) (by (repeat (first | (refine slot_hit (N := 112) ?_ (by rfl); (repeat (refine sz_put ?_)); assumption; done) | (apply slot_miss; focus rfl))); all_goals assumption) (w' := ?_) (fun ev hk hv0 hv1 => ?_) ?_
                  rotate_left
                  focus (go_simp; rfl)
                  intro U1 hU1
                  have hm := hb4.mid hU1
                  refine ⟨fun _ => hm.1, ?_⟩
                  clear z0 z1 z2 z3 z4 f0 f1 f2 f3 f4
                  obtain ⟨⟨z0, z1, z2, z3, z4⟩, f0, f1, f2, f3, f4⟩ := hm.2.z5
                  refine wt_one 7 (by kernel_rfl) ?_
                  refine wb_act2 7 6 36 rfl rfl rfl (by (repeat (first | (refine slot_hit (N := 112) ?_ (by rfl); (repeat (refine sz_put ?_)); assumption; done) | (apply slot_miss; focus rfl))); all_goals assumption) (by (repeat (first | (refine slot_hit (N := 112) ?_ (by rfl); (repeat (refine sz_put ?_)); assumption; done) | (apply slot_miss; focus rfl))); all_goals assumption) (w' := ?_) (fun ev hk hv0 hv1 => ?_) ?_
                  rotate_left
                  focus (go_simp; rfl)
                  intro U2 hU2
                  have h3 := hb4.fin3 hU1 hU2
                  refine ⟨fun _ => h3.x.box, ?_⟩
                  refine wt_done (by kernel_rfl) (NoPanic.normal ⟨rfl, _, _, _, _, ⟨?_, ?_, ?_, ?_, ?_, ?_, ?_⟩, h3⟩) _
                  · (repeat (refine sz_put ?_)); assumption
                  · exact (by (repeat (first | (refine slot_hit (N := 112) ?_ (by rfl); (repeat (refine sz_put ?_)); assumption; done) | (apply slot_miss; focus rfl))); all_goals assumption)
                  · exact (by (repeat (first | (refine slot_hit (N := 112) ?_ (by rfl); (repeat (refine sz_put ?_)); assumption; done) | (apply slot_miss; focus rfl))); all_goals assumption)
                  · exact (by (repeat (first | (refine slot_hit (N := 112) ?_ (by rfl); (repeat (refine sz_put ?_)); assumption; done) | (apply slot_miss; focus rfl))); all_goals assumption)
                  · exact (by (repeat (first | (refine slot_hit (N := 112) ?_ (by rfl); (repeat (refine sz_put ?_)); assumption; done) | (apply slot_miss; focus rfl))); all_goals assumption)
                  · exact (by (repeat (first | (refine slot_hit (N := 112) ?_ (by rfl); (repeat (refine sz_put ?_)); assumption; done) | (apply slot_miss; focus rfl))); all_goals assumption)
                  · exact (by (repeat (first | (refine slot_hit (N := 112) ?_ (by rfl); (repeat (refine sz_put ?_)); assumption; done) | (apply slot_miss; focus rfl))); all_goals assumption)
            · refine wb_val 4 rfl rfl rfl (v := ?_) (w' := ?_) (fun ev hk => ?_) ?_
              rotate_left 2
              focus (go_simp; first | rfl | (constructor <;> rfl))
              intro V1 hV1
              have hb1 := hb0.al5
              unfold zc at hb1
              rw [hV1] at hb1
              clear hV1
              refine ⟨fun _ => hb1.x.box, ?_⟩
              refine wt_ways2 1 5 (by kernel_rfl) ?_ ?_
              · refine wb_call 1 33 rfl rfl rfl (by (repeat (first | (refine slot_hit (N := 112) ?_ (by rfl); (repeat (refine sz_put ?_)); assumption; done) | (apply slot_miss; focus rfl))); all_goals assumption) (f := ?_) (args := ?_) (fun ev hk hkf hv0 => ?_) ?_
                rotate_left 2
                focus (go_simp; first | rfl | (constructor <;> rfl))
                (with_reducible refine (TW.out _ (Below.step hBd hBd.size hb1.B)).mono ?_)
                rintro e V2 ⟨p2', rfl, ho2, hv2⟩
                have hb2 := hb1.tw1 hv2 ho2
                refine ⟨_, rfl, fun _ => hb2.x.box, ?_⟩
                refine wt_ways2 3 5 (by kernel_rfl) ?_ ?_
                · refine wb_call 3 35 rfl rfl rfl (by (repeat (first | (refine slot_hit (N := 112) ?_ (by rfl); (repeat (refine sz_put ?_)); assumption; done) | (apply slot_miss; focus rfl))); all_goals assumption) (f := ?_) (args := ?_) (fun ev hk hkf hv0 => ?_) ?_
                  rotate_left 2
                  focus (go_simp; first | rfl | (constructor <;> rfl))
                  (with_reducible refine (TW.out _ (Below.step hBd hBd.size hb2.B)).mono ?_)
                  rintro e V3 ⟨p3', rfl, ho3, hv3⟩
                  have hb3 := hb2.tw2 hv3 ho3
                  refine ⟨_, rfl, fun _ => hb3.x.box, ?_⟩
                  refine wt_one 5 (by kernel_rfl) ?_
                  refine wb_val 5 rfl rfl rfl (v := ?_) (w' := ?_) (fun ev hk => ?_) ?_
                  rotate_left 2
                  focus (go_simp; first | rfl | (constructor <;> rfl))
                  intro V4 hV4
                  have hb4 := hb3.al6
                  unfold zc at hb4
                  rw [hV4] at hb4
                  clear hV4
                  refine ⟨fun _ => hb4.x.box, ?_⟩
                  obtain ⟨⟨z0, z1, z2, z3, z4⟩, f0, f1, f2, f3, f4⟩ := (hb4.h5 _ rfl).2.z5
                  refine wt_one 6 (by kernel_rfl) ?_
                  refine wb_act2 6 5 34 rfl rfl rfl (by (repeat (first | (refine slot_hit (N := 112) ?_ (by rfl); (repeat (refine sz_put ?_)); assumption; done) | (apply slot_miss; focus rfl))); all_goals assumption) (by (repeat (first | (refine slot_hit (N := 112) ?_ (by rfl); (repeat (refine sz_put ?_)); assumption; done) | (apply slot_miss; focus rfl))); all_goals assumption) (w' := ?_) (fun ev hk hv0 hv1 => ?_) ?_
                  rotate_left
                  focus (go_simp; rfl)
                  intro U1 hU1
                  have hm := hb4.mid hU1
                  refine ⟨fun _ => hm.1, ?_⟩
                  clear z0 z1 z2 z3 z4 f0 f1 f2 f3 f4
                  obtain ⟨⟨z0, z1, z2, z3, z4⟩, f0, f1, f2, f3, f4⟩ := hm.2.z5
                  refine wt_one 7 (by kernel_rfl) ?_
                  refine wb_act2 7 6 36 rfl rfl rfl (by (repeat (first | (refine slot_hit (N := 112) ?_ (by rfl); (repeat (refine sz_put ?_)); assumption; done) | (apply slot_miss; focus rfl))); all_goals assumption) (by (repeat (first | (refine slot_hit (N := 112) ?_ (by rfl); (repeat (refine sz_put ?_)); assumption; done) | (apply slot_miss; focus rfl))); all_goals assumption) (w' := ?_) (fun ev hk hv0 hv1 => ?_) ?_
                  rotate_left
                  focus (go_simp; rfl)
                  intro U2 hU2
                  have h3 := hb4.fin3 hU1 hU2
                  refine ⟨fun _ => h3.x.box, ?_⟩
                  refine wt_done (by kernel_rfl) (NoPanic.normal ⟨rfl, _, _, _, _, ⟨?_, ?_, ?_, ?_, ?_, ?_, ?_⟩, h3⟩) _
                  · (repeat (refine sz_put ?_)); assumption
                  · exact (by (repeat (first | (refine slot_hit (N := 112) ?_ (by rfl); (repeat (refine sz_put ?_)); assumption; done) | (apply slot_miss; focus rfl))); all_goals assumption)
                  · exact (by (repeat (first | (refine slot_hit (N := 112) ?_ (by rfl); (repeat (refine sz_put ?_)); assumption; done) | (apply slot_miss; focus rfl))); all_goals assumption)
                  · exact (by (repeat (first | (refine slot_hit (N := 112) ?_ (by rfl); (repeat (refine sz_put ?_)); assumption; done) | (apply slot_miss; focus rfl))); all_goals assumption)
                  · exact (by (repeat (first | (refine slot_hit (N := 112) ?_ (by rfl); (repeat (refine sz_put ?_)); assumption; done) | (apply slot_miss; focus rfl))); all_goals assumption)
                  · exact (by (repeat (first | (refine slot_hit (N := 112) ?_ (by rfl); (repeat (refine sz_put ?_)); assumption; done) | (apply slot_miss; focus rfl))); all_goals assumption)
                  · exact (by (repeat (first | (refine slot_hit (N := 112) ?_ (by rfl); (repeat (refine sz_put ?_)); assumption; done) | (apply slot_miss; focus rfl))); all_goals assumption)
                · refine wb_val 5 rfl rfl rfl (v := ?_) (w' := ?_) (fun ev hk => ?_) ?_
                  rotate_left 2
                  focus (go_simp; first | rfl | (constructor <;> rfl))
                  intro V3 hV3
                  have hb3 := hb2.al6
                  unfold zc at hb3
                  rw [hV3] at hb3
                  clear hV3
                  refine ⟨fun _ => hb3.x.box, ?_⟩
                  refine wt_one 3 (by kernel_rfl) ?_
                  refine wb_call 3 35 rfl rfl rfl (by (repeat (first | (refine slot_hit (N := 112) ?_ (by rfl); (repeat (refine sz_put ?_)); assumption; done) | (apply slot_miss; focus rfl))); all_goals assumption) (f := ?_) (args := ?_) (fun ev hk hkf hv0 => ?_) ?_
                  rotate_left 2
                  focus (go_simp; first | rfl | (constructor <;> rfl))
                  (with_reducible refine (TW.out _ (Below.step hBd hBd.size hb3.B)).mono ?_)
                  rintro e V4 ⟨p4', rfl, ho4, hv4⟩
                  have hb4 := hb3.tw2 hv4 ho4
                  refine ⟨_, rfl, fun _ => hb4.x.box, ?_⟩
                  obtain ⟨⟨z0, z1, z2, z3, z4⟩, f0, f1, f2, f3, f4⟩ := (hb4.h5 _ rfl).2.z5
                  refine wt_one 6 (by kernel_rfl) ?_
                  refine wb_act2 6 5 34 rfl rfl rfl (by (repeat (first | (refine slot_hit (N := 112) ?_ (by rfl); (repeat (refine sz_put ?_)); assumption; done) | (apply slot_miss; focus rfl))); all_goals assumption) (by (repeat (first | (refine slot_hit (N := 112) ?_ (by rfl); (repeat (refine sz_put ?_)); assumption; done) | (apply slot_miss; focus rfl))); all_goals assumption) (w' := ?_) (fun ev hk hv0 hv1 => ?_) ?_
                  rotate_left
                  focus (go_simp; rfl)
                  intro U1 hU1
                  have hm := hb4.mid hU1
                  refine ⟨fun _ => hm.1, ?_⟩
                  clear z0 z1 z2 z3 z4 f0 f1 f2 f3 f4
                  obtain ⟨⟨z0, z1, z2, z3, z4⟩, f0, f1, f2, f3, f4⟩ := hm.2.z5
                  refine wt_one 7 (by kernel_rfl) ?_
                  refine wb_act2 7 6 36 rfl rfl rfl (by (repeat (first | (refine slot_hit (N := 112) ?_ (by rfl); (repeat (refine sz_put ?_)); assumption; done) | (apply slot_miss; focus rfl))); all_goals assumption) (by (repeat (first | (refine slot_hit (N := 112) ?_ (by rfl); (repeat (refine sz_put ?_)); assumption; done) | (apply slot_miss; focus rfl))); all_goals assumption) (w' := ?_) (fun ev hk hv0 hv1 => ?_) ?_
                  rotate_left
                  focus (go_simp; rfl)
                  intro U2 hU2
                  have h3 := hb4.fin3 hU1 hU2
                  refine ⟨fun _ => h3.x.box, ?_⟩
                  refine wt_done (by kernel_rfl) (NoPanic.normal ⟨rfl, _, _, _, _, ⟨?_, ?_, ?_, ?_, ?_, ?_, ?_⟩, h3⟩) _
                  · (repeat (refine sz_put ?_)); assumption
                  · exact (by (repeat (first | (refine slot_hit (N := 112) ?_ (by rfl); (repeat (refine sz_put ?_)); assumption; done) | (apply slot_miss; focus rfl))); all_goals assumption)
                  · exact (by (repeat (first | (refine slot_hit (N := 112) ?_ (by rfl); (repeat (refine sz_put ?_)); assumption; done) | (apply slot_miss; focus rfl))); all_goals assumption)
                  · exact (by (repeat (first | (refine slot_hit (N := 112) ?_ (by rfl); (repeat (refine sz_put ?_)); assumption; done) | (apply slot_miss; focus rfl))); all_goals assumption)
                  · exact (by (repeat (first | (refine slot_hit (N := 112) ?_ (by rfl); (repeat (refine sz_put ?_)); assumption; done) | (apply slot_miss; focus rfl))); all_goals assumption)
                  · exact (by (repeat (first | (refine slot_hit (N := 112) ?_ (by rfl); (repeat (refine sz_put ?_)); assumption; done) | (apply slot_miss; focus rfl))); all_goals assumption)
                  · exact (by (repeat (first | (refine slot_hit (N := 112) ?_ (by rfl); (repeat (refine sz_put ?_)); assumption; done) | (apply slot_miss; focus rfl))); all_goals assumption)
              · refine wb_val 5 rfl rfl rfl (v := ?_) (w' := ?_) (fun ev hk => ?_) ?_
                rotate_left 2
                focus (go_simp; first | rfl | (constructor <;> rfl))
                intro V2 hV2
                have hb2 := hb1.al6
                unfold zc at hb2
                rw [hV2] at hb2
                clear hV2
                refine ⟨fun _ => hb2.x.box, ?_⟩
                refine wt_one 1 (by kernel_rfl) ?_
                refine wb_call 1 33 rfl rfl rfl (by (repeat (first | (refine slot_hit (N := 112) ?_ (by rfl); (repeat (refine sz_put ?_)); assumption; done) | (apply slot_miss; focus rfl))); all_goals assumption) (f := ?_) (args := ?_) (fun ev hk hkf hv0 => ?_) ?_
                rotate_left 2
                focus (go_simp; first | rfl | (constructor <;> rfl))
                (with_reducible refine (TW.out _ (Below.step hBd hBd.size hb2.B)).mono ?_)
                rintro e V3 ⟨p3', rfl, ho3, hv3⟩
                have hb3 := hb2.tw1 hv3 ho3
                refine ⟨_, rfl, fun _ => hb3.x.box, ?_⟩
                refine wt_one 3 (by kernel_rfl) ?_
                refine wb_call 3 35 rfl rfl rfl (by (repeat (first | (refine slot_hit (N := 112) ?_ (by rfl); (repeat (refine sz_put ?_)); assumption; done) | (apply slot_miss; focus rfl))); all_goals assumption) (f := ?_) (args := ?_) (fun ev hk hkf hv0 => ?_) ?_
                rotate_left 2
                focus (go_simp; first | rfl | (constructor <;> rfl))
                (with_reducible refine (TW.out _ (Below.step hBd hBd.size hb3.B)).mono ?_)
                rintro e V4 ⟨p4', rfl, ho4, hv4⟩
                have hb4 := hb3.tw2 hv4 ho4
                refine ⟨_, rfl, fun _ => hb4.x.box, ?_⟩
                obtain ⟨⟨z0, z1, z2, z3, z4⟩, f0, f1, f2, f3, f4⟩ := (hb4.h5 _ rfl).2.z5
                refine wt_one 6 (by kernel_rfl) ?_
                refine wb_act2 6 5 34 rfl rfl rfl (by (repeat (first | (refine slot_hit (N := 112) ?_ (by rfl); (repeat (refine sz_put ?_)); assumption; done) | (apply slot_miss; focus rfl))); all_goals assumption) (by (repeat (first | (refine slot_hit (N := 112) ?_ (by rfl); (repeat (refine sz_put ?_)); assumption; done) | (apply slot_miss; focus rfl))); all_goals assumption) (w' := ?_) (fun ev hk hv0 hv1 => ?_) ?_
                rotate_left
                focus (go_simp; rfl)
                intro U1 hU1
                have hm := hb4.mid hU1
                refine ⟨fun _ => hm.1, ?_⟩
                clear z0 z1 z2 z3 z4 f0 f1 f2 f3 f4
                obtain ⟨⟨z0, z1, z2, z3, z4⟩, f0, f1, f2, f3, f4⟩ := hm.2.z5
                refine wt_one 7 (by kernel_rfl) ?_
                refine wb_act2 7 6 36 rfl rfl rfl (by (repeat (first | (refine slot_hit (N := 112) ?_ (by rfl); (repeat (refine sz_put ?_)); assumption; done) | (apply slot_miss; focus rfl))); all_goals assumption) (by (repeat (first | (refine slot_hit (N := 112) ?_ (by rfl); (repeat (refine sz_put ?_)); assumption; done) | (apply slot_miss; focus rfl))); all_goals assumption) (w' := ?_) (fun ev hk hv0 hv1 => ?_) ?_
                rotate_left
                focus (go_simp; rfl)
                intro U2 hU2
                have h3 := hb4.fin3 hU1 hU2
                refine ⟨fun _ => h3.x.box, ?_⟩
                refine wt_done (by kernel_rfl) (NoPanic.normal ⟨rfl, _, _, _, _, ⟨?_, ?_, ?_, ?_, ?_, ?_, ?_⟩, h3⟩) _
                · (repeat (refine sz_put ?_)); assumption
                · exact (by (repeat (first | (refine slot_hit (N := 112) ?_ (by rfl); (repeat (refine sz_put ?_)); assumption; done) | (apply slot_miss; focus rfl))); all_goals assumption)
                · exact (by (repeat (first | (refine slot_hit (N := 112) ?_ (by rfl); (repeat (refine sz_put ?_)); assumption; done) | (apply slot_miss; focus rfl))); all_goals assumption)
                · exact (by (repeat (first | (refine slot_hit (N := 112) ?_ (by rfl); (repeat (refine sz_put ?_)); assumption; done) | (apply slot_miss; focus rfl))); all_goals assumption)
                · exact (by (repeat (first | (refine slot_hit (N := 112) ?_ (by rfl); (repeat (refine sz_put ?_)); assumption; done) | (apply slot_miss; focus rfl))); all_goals assumption)
                · exact (by (repeat (first | (refine slot_hit (N := 112) ?_ (by rfl); (repeat (refine sz_put ?_)); assumption; done) | (apply slot_miss; focus rfl))); all_goals assumption)
                · exact (by (repeat (first | (refine slot_hit (N := 112) ?_ (by rfl); (repeat (refine sz_put ?_)); assumption; done) | (apply slot_miss; focus rfl))); all_goals assumption)
            · refine wb_val 5 rfl rfl rfl (v := ?_) (w' := ?_) (fun ev hk => ?_) ?_
              rotate_left 2
              focus (go_simp; first | rfl | (constructor <;> rfl))
              intro V1 hV1
              have hb1 := hb0.al6
              unfold zc at hb1
              rw [hV1] at hb1
              clear hV1
              refine ⟨fun _ => hb1.x.box, ?_⟩
              refine wt_ways2 1 4 (by kernel_rfl) ?_ ?_
              · refine wb_call 1 33 rfl rfl rfl (by (repeat (first | (refine slot_hit (N := 112) ?_ (by rfl); (repeat (refine sz_put ?_)); assumption; done) | (apply slot_miss; focus rfl))); all_goals assumption) (f := ?_) (args := ?_) (fun ev hk hkf hv0 => ?_) ?_
                rotate_left 2
                focus (go_simp; first | rfl | (constructor <;> rfl))
                (with_reducible refine (TW.out _ (Below.step hBd hBd.size hb1.B)).mono ?_)
                rintro e V2 ⟨p2', rfl, ho2, hv2⟩
                have hb2 := hb1.tw1 hv2 ho2
                refine ⟨_, rfl, fun _ => hb2.x.box, ?_⟩
                refine wt_ways2 3 4 (by kernel_rfl) ?_ ?_
                · refine wb_call 3 35 rfl rfl rfl (by (repeat (first | (refine slot_hit (N := 112) ?_ (by rfl); (repeat (refine sz_put ?_)); assumption; done) | (apply slot_miss; focus rfl))); all_goals assumption) (f := ?_) (args := ?_) (fun ev hk hkf hv0 => ?_) ?_
                  rotate_left 2
                  focus (go_simp; first | rfl | (constructor <;> rfl))
                  (with_reducible refine (TW.out _ (Below.step hBd hBd.size hb2.B)).mono ?_)
                  rintro e V3 ⟨p3', rfl, ho3, hv3⟩
                  have hb3 := hb2.tw2 hv3 ho3
                  refine ⟨_, rfl, fun _ => hb3.x.box, ?_⟩
                  refine wt_one 4 (by kernel_rfl) ?_
                  refine wb_val 4 rfl rfl rfl (v := ?_) (w' := ?_) (fun ev hk => ?_) ?_
                  rotate_left 2
                  focus (go_simp; first | rfl | (constructor <;> rfl))
                  intro V4 hV4
                  have hb4 := hb3.al5
                  unfold zc at hb4
                  rw [hV4] at hb4
                  clear hV4
                  refine ⟨fun _ => hb4.x.box, ?_⟩
                  obtain ⟨⟨z0, z1, z2, z3, z4⟩, f0, f1, f2, f3, f4⟩ := (hb4.h5 _ rfl).2.z5
                  refine wt_one 6 (by kernel_rfl) ?_
                  refine wb_act2 6 5 34 rfl rfl rfl (by (repeat (first | (refine slot_hit (N := 112) ?_ (by rfl); (repeat (refine sz_put ?_)); assumption; done) | (apply slot_miss; focus rfl))); all_goals assumption) (by (repeat (first | (refine slot_hit (N := 112) ?_ (by rfl); (repeat (refine sz_put ?_)); assumption; done) | (apply slot_miss; focus rfl))); all_goals assumption) (w' := ?_) (fun ev hk hv0 hv1 => ?_) ?_
                  rotate_left
                  focus (go_simp; rfl)
                  intro U1 hU1
                  have hm := hb4.mid hU1
                  refine ⟨fun _ => hm.1, ?_⟩
                  clear z0 z1 z2 z3 z4 f0 f1 f2 f3 f4
                  obtain ⟨⟨z0, z1, z2, z3, z4⟩, f0, f1, f2, f3, f4⟩ := hm.2.z5
                  refine wt_one 7 (by kernel_rfl) ?_
                  refine wb_act2 7 6 36 rfl rfl rfl (by (repeat (first | (refine slot_hit (N := 112) ?_ (by rfl); (repeat (refine sz_put ?_)); assumption; done) | (apply slot_miss; focus rfl))); all_goals assumption) (by (repeat (first | (refine slot_hit (N := 112) ?_ (by rfl); (repeat (refine sz_put ?_)); assumption; done) | (apply slot_miss; focus rfl))); all_goals assumption) (w' := ?_) (fun ev hk hv0 hv1 => ?_) ?_
                  rotate_left
                  focus (go_simp; rfl)
                  intro U2 hU2
                  have h3 := hb4.fin3 hU1 hU2
                  refine ⟨fun _ => h3.x.box, ?_⟩
                  refine wt_done (by kernel_rfl) (NoPanic.normal ⟨rfl, _, _, _, _, ⟨?_, ?_, ?_, ?_, ?_, ?_, ?_⟩, h3⟩) _
                  · (repeat (refine sz_put ?_)); assumption
                  · exact (by (repeat (first | (refine slot_hit (N := 112) ?_ (by rfl); (repeat (refine sz_put ?_)); assumption; done) | (apply slot_miss; focus rfl))); all_goals assumption)
                  · exact (by (repeat (first | (refine slot_hit (N := 112) ?_ (by rfl); (repeat (refine sz_put ?_)); assumption; done) | (apply slot_miss; focus rfl))); all_goals assumption)
                  · exact (by (repeat (first | (refine slot_hit (N := 112) ?_ (by rfl); (repeat (refine sz_put ?_)); assumption; done) | (apply slot_miss; focus rfl))); all_goals assumption)
                  · exact (by (repeat (first | (refine slot_hit (N := 112) ?_ (by rfl); (repeat (refine sz_put ?_)); assumption; done) | (apply slot_miss; focus rfl))); all_goals assumption)
                  · exact (by (repeat (first | (refine slot_hit (N := 112) ?_ (by rfl); (repeat (refine sz_put ?_)); assumption; done) | (apply slot_miss; focus rfl))); all_goals assumption)
                  · exact (by (repeat (first | (refine slot_hit (N := 112) ?_ (by rfl); (repeat (refine sz_put ?_)); assumption; done) | (apply slot_miss; focus rfl))); all_goals assumption)
                · refine wb_val 4 rfl rfl rfl (v := ?_) (w' := ?_) (fun ev hk => ?_) ?_
                  rotate_left 2
                  focus (go_simp; first | rfl | (constructor <;> rfl))
                  intro V3 hV3
                  have hb3 := hb2.al5
                  unfold zc at hb3
                  rw [hV3] at hb3
                  clear hV3
                  refine ⟨fun _ => hb3.x.box, ?_⟩
                  refine wt_one 3 (by kernel_rfl) ?_
                  refine wb_call 3 35 rfl rfl rfl (by (repeat (first | (refine slot_hit (N := 112) ?_ (by rfl); (repeat (refine sz_put ?_)); assumption; done) | (apply slot_miss; focus rfl))); all_goals assumption) (f := ?_) (args := ?_) (fun ev hk hkf hv0 => ?_) ?_
                  rotate_left 2
                  focus (go_simp; first | rfl | (constructor <;> rfl))
                  (with_reducible refine (TW.out _ (Below.step hBd hBd.size hb3.B)).mono ?_)
                  rintro e V4 ⟨p4', rfl, ho4, hv4⟩
                  have hb4 := hb3.tw2 hv4 ho4
                  refine ⟨_, rfl, fun _ => hb4.x.box, ?_⟩
                  obtain ⟨⟨z0, z1, z2, z3, z4⟩, f0, f1, f2, f3, f4⟩ := (hb4.h5 _ rfl).2.z5
                  refine wt_one 6 (by kernel_rfl) ?_
                  refine wb_act2 6 5 34 rfl rfl rfl (by (repeat (first | (refine slot_hit (N := 112) ?_ (by rfl); (repeat (refine sz_put ?_)); assumption; done) | (apply slot_miss; focus rfl))); all_goals assumption) (by (repeat (first | (refine slot_hit (N := 112) ?_ (by rfl); (repeat (refine sz_put ?_)); assumption; done) | (apply slot_miss; focus rfl))); all_goals assumption) (w' := ?_) (fun ev hk hv0 hv1 => ?_) ?_
                  rotate_left
                  focus (go_simp; rfl)
                  intro U1 hU1
                  have hm := hb4.mid hU1
                  refine ⟨fun _ => hm.1, ?_⟩
                  clear z0 z1 z2 z3 z4 f0 f1 f2 f3 f4
                  obtain ⟨⟨z0, z1, z2, z3, z4⟩, f0, f1, f2, f3, f4⟩ := hm.2.z5
                  refine wt_one 7 (by kernel_rfl) ?_
                  refine wb_act2 7 6 36 rfl rfl rfl (by (repeat (first | (refine slot_hit (N := 112) ?_ (by rfl); (repeat (refine sz_put ?_)); assumption; done) | (apply slot_miss; focus rfl))); all_goals assumption) (by (repeat (first | (refine slot_hit (N := 112) ?_ (by rfl); (repeat (refine sz_put ?_)); assumption; done) | (apply slot_miss; focus rfl))); all_goals assumption) (w' := ?_) (fun ev hk hv0 hv1 => ?_) ?_
                  rotate_left
                  focus (go_simp; rfl)
                  intro U2 hU2
                  have h3 := hb4.fin3 hU1 hU2
                  refine ⟨fun _ => h3.x.box, ?_⟩
                  refine wt_done (by kernel_rfl) (NoPanic.normal ⟨rfl, _, _, _, _, ⟨?_, ?_, ?_, ?_, ?_, ?_, ?_⟩, h3⟩) _
                  · (repeat (refine sz_put ?_)); assumption
                  · exact (by (repeat (first | (refine slot_hit (N := 112) ?_ (by rfl); (repeat (refine sz_put ?_)); assumption; done) | (apply slot_miss; focus rfl))); all_goals assumption)
                  · exact (by (repeat (first | (refine slot_hit (N := 112) ?_ (by rfl); (repeat (refine sz_put ?_)); assumption; done) | (apply slot_miss; focus rfl))); all_goals assumption)
                  · exact (by (repeat (first | (refine slot_hit (N := 112) ?_ (by rfl); (repeat (refine sz_put ?_)); assumption; done) | (apply slot_miss; focus rfl))); all_goals assumption)
                  · exact (by (repeat (first | (refine slot_hit (N := 112) ?_ (by rfl); (repeat (refine sz_put ?_)); assumption; done) | (apply slot_miss; focus rfl))); all_goals assumption)
                  · exact (by (repeat (first | (refine slot_hit (N := 112) ?_ (by rfl); (repeat (refine sz_put ?_)); assumption; done) | (apply slot_miss; focus rfl))); all_goals assumption)
                  · exact (by (repeat (first | (refine slot_hit (N := 112) ?_ (by rfl); (repeat (refine sz_put ?_)); assumption; done) | (apply slot_miss; focus rfl))); all_goals assumption)
              · refine wb_val 4 rfl rfl rfl (v := ?_) (w' := ?_) (fun ev hk => ?_) ?_
                rotate_left 2
                focus (go_simp; first | rfl | (constructor <;> rfl))
                intro V2 hV2
                have hb2 := hb1.al5
                unfold zc at hb2
                rw [hV2] at hb2
                clear hV2
                refine ⟨fun _ => hb2.x.box, ?_⟩
                refine wt_one 1 (by kernel_rfl) ?_
                refine wb_call 1 33 rfl rfl rfl (by (repeat (first | (refine slot_hit (N := 112) ?_ (by rfl); (repeat (refine sz_put ?_)); assumption; done) | (apply slot_miss; focus rfl))); all_goals assumption) (f := ?_) (args := ?_) (fun ev hk hkf hv0 => ?_) ?_
                rotate_left 2
                focus (go_simp; first | rfl | (constructor <;> rfl))
                (with_reducible refine (TW.out _ (Below.step hBd hBd.size hb2.B)).mono ?_)
                rintro e V3 ⟨p3', rfl, ho3, hv3⟩
                have hb3 := hb2.tw1 hv3 ho3
                refine ⟨_, rfl, fun _ => hb3.x.box, ?_⟩
                refine wt_one 3 (by kernel_rfl) ?_
                refine wb_call 3 35 rfl rfl rfl (by (repeat (first | (refine slot_hit (N := 112) ?_ (by rfl); (repeat (refine sz_put ?_)); assumption; done) | (apply slot_miss; focus rfl))); all_goals assumption) (f := ?_) (args := ?_) (fun ev hk hkf hv0 => ?_) ?_
                rotate_left 2
                focus (go_simp; first | rfl | (constructor <;> rfl))
                (with_reducible refine (TW.out _ (Below.step hBd hBd.size hb3.B)).mono ?_)
                rintro e V4 ⟨p4', rfl, ho4, hv4⟩
                have hb4 := hb3.tw2 hv4 ho4
                refine ⟨_, rfl, fun _ => hb4.x.box, ?_⟩
                obtain ⟨⟨z0, z1, z2, z3, z4⟩, f0, f1, f2, f3, f4⟩ := (hb4.h5 _ rfl).2.z5
                refine wt_one 6 (by kernel_rfl) ?_
                refine wb_act2 6 5 34 rfl rfl rfl (by (repeat (first | (refine slot_hit (N := 112) ?_ (by rfl); (repeat (refine sz_put ?_)); assumption; done) | (apply slot_miss; focus rfl))); all_goals assumption) (by (repeat (first | (refine slot_hit (N := 112) ?_ (by rfl); (repeat (refine sz_put ?_)); assumption; done) | (apply slot_miss; focus rfl))); all_goals assumption) (w' := ?_) (fun ev hk hv0 hv1 => ?_) ?_
                rotate_left
                focus (go_simp; rfl)
                intro U1 hU1
                have hm := hb4.mid hU1
                refine ⟨fun _ => hm.1, ?_⟩
                clear z0 z1 z2 z3 z4 f0 f1 f2 f3 f4
                obtain ⟨⟨z0, z1, z2, z3, z4⟩, f0, f1, f2, f3, f4⟩ := hm.2.z5
                refine wt_one 7 (by kernel_rfl) ?_
                refine wb_act2 7 6 36 rfl rfl rfl (by (repeat (first | (refine slot_hit (N := 112) ?_ (by rfl); (repeat (refine sz_put ?_)); assumption; done) | (apply slot_miss; focus rfl))); all_goals assumption) (by (repeat (first | (refine slot_hit (N := 112) ?_ (by rfl); (repeat (refine sz_put ?_)); assumption; done) | (apply slot_miss; focus rfl))); all_goals assumption) (w' := ?_) (fun ev hk hv0 hv1 => ?_) ?_
                rotate_left
                focus (go_simp; rfl)
                intro U2 hU2
                have h3 := hb4.fin3 hU1 hU2
                refine ⟨fun _ => h3.x.box, ?_⟩
                refine wt_done (by kernel_rfl) (NoPanic.normal ⟨rfl, _, _, _, _, ⟨?_, ?_, ?_, ?_, ?_, ?_, ?_⟩, h3⟩) _
                · (repeat (refine sz_put ?_)); assumption
                · exact (by (repeat (first | (refine slot_hit (N := 112) ?_ (by rfl); (repeat (refine sz_put ?_)); assumption; done) | (apply slot_miss; focus rfl))); all_goals assumption)
                · exact (by (repeat (first | (refine slot_hit (N := 112) ?_ (by rfl); (repeat (refine sz_put ?_)); assumption; done) | (apply slot_miss; focus rfl))); all_goals assumption)
                · exact (by (repeat (first | (refine slot_hit (N := 112) ?_ (by rfl); (repeat (refine sz_put ?_)); assumption; done) | (apply slot_miss; focus rfl))); all_goals assumption)
                · exact (by (repeat (first | (refine slot_hit (N := 112) ?_ (by rfl); (repeat (refine sz_put ?_)); assumption; done) | (apply slot_miss; focus rfl))); all_goals assumption)
                · exact (by (repeat (first | (refine slot_hit (N := 112) ?_ (by rfl); (repeat (refine sz_put ?_)); assumption; done) | (apply slot_miss; focus rfl))); all_goals assumption)
                · exact (by (repeat (first | (refine slot_hit (N := 112) ?_ (by rfl); (repeat (refine sz_put ?_)); assumption; done) | (apply slot_miss; focus rfl))); all_goals assumption)
          case rest =>
            rintro e a' W3 ⟨rfl, b5, b6, q1, q2, ⟨hZ, hs0, hs1, hs2, hs4, hs5, hs6⟩, hX3⟩
            refine q_known hZ [(0, (cv c0 p0)), (1, (.int .i64 (k : Int))), (2, (.pointer (some ⟨w.heap.size, 0, none⟩))), (4, (.bool false)), (5, (.pointer (some ⟨b5, 0, none⟩))), (6, (.pointer (some ⟨b6, 0, none⟩)))] ⟨hs0, hs1, hs2, hs4, hs5, hs6, trivial⟩ fun fv fl hfl => ?_
            obtain rfl : fl = [(((cv c0 p0)) : Value), (((.int .i64 (k : Int))) : Value), (((.pointer (some ⟨w.heap.size, 0, none⟩))) : Value), fv 3, (((.bool false)) : Value), (((.pointer (some ⟨b5, 0, none⟩))) : Value), (((.pointer (some ⟨b6, 0, none⟩))) : Value), fv 7, fv 8, fv 9, fv 10, fv 11, fv 12, fv 13, fv 14, fv 15, fv 16, fv 17, fv 18, fv 19, fv 20, fv 21, fv 22, fv 23, fv 24, fv 25, fv 26, fv 27, fv 28, fv 29, fv 30, fv 31, fv 32, fv 33, fv 34, fv 35, fv 36, fv 37, fv 38, fv 39, fv 40, fv 41, fv 42, fv 43, fv 44, fv 45, fv 46, fv 47, fv 48, fv 49, fv 50, fv 51, fv 52, fv 53, fv 54, fv 55, fv 56, fv 57, fv 58, fv 59, fv 60, fv 61, fv 62, fv 63, fv 64, fv 65, fv 66, fv 67, fv 68, fv 69, fv 70, fv 71, fv 72, fv 73, fv 74, fv 75, fv 76, fv 77, fv 78, fv 79, fv 80, fv 81, fv 82, fv 83, fv 84, fv 85, fv 86, fv 87, fv 88, fv 89, fv 90, fv 91, fv 92, fv 93, fv 94, fv 95, fv 96, fv 97, fv 98, fv 99, fv 100, fv 101, fv 102, fv 103, fv 104, fv 105, fv 106, fv 107, fv 108, fv 109, fv 110, fv 111] := hfl.symm.trans (by kernel_rfl)
            clear hfl hZ hs0 hs1 hs2 hs4 hs5 hs6
            obtain ⟨⟨g1, e1, r1⟩, ⟨g2, e2, r2⟩, ⟨g3, e3, r3⟩, g4, e4, r4⟩ := hX3.o1
            clear r1 r2 r3 r4
            obtain ⟨⟨h1, e1', r1⟩, ⟨h2, e2', r2⟩, ⟨h3, e3', r3⟩, h4, e4', r4⟩ := hX3.o2
            clear r1 r2 r3 r4
            obtain ⟨Q1, Q2, Q3, Q4, l1, l2, l3, l4⟩ := q1
            obtain ⟨R1, R2, R3, R4, m1, m2, m3, m4⟩ := q2
            dsimp only at e1 e2 e3 e4 e1' e2' e3' e4'
            subst e1 e2 e3 e4 e1' e2' e3' e4'
            clear hb0 hB1 hB2 hA1 hA2 x0 x1 x2 x3 x4 hb1 hb2 TW
            have y1 : W3.cell? ⟨b5, 1, none⟩ = some (.slice (some ⟨g1, 0, none⟩) c0.nl l1) := hX3.h5.cell 1
            have y2 : W3.cell? ⟨b6, 1, none⟩ = some (.slice (some ⟨h1, 0, none⟩) c0.nl m1) := hX3.h6.cell 1
            have hk0 : (0 : Int) ≤ (k : Int) := by omega
            have hk1 : (k : Int) < (c0.nl : Int) := by omega
            go_wp2
            obtain ⟨U3, hU3⟩ : ∃ U3, W3.drew = U3 := ⟨_, rfl⟩
            have hX4 : Bx3 U U3 w.heap.size c0 p0 b5 b6 c0 c0 (mP g1 g2 g3 g4 l1 l2 l3 l4) (mP h1 h2 h3 h4 m1 m2 m3 m4) := hU3 ▸ hX3.drew
            have hS0 : (fun W' : World => W'.cell? ⟨b5, 1, none⟩ = some (.slice (some ⟨g1, 0, none⟩) c0.nl l1) ∧ W'.cell? ⟨b6, 1, none⟩ = some (.slice (some ⟨h1, 0, none⟩) c0.nl m1)) U3 := ⟨hX4.h5.cell 1, hX4.h6.cell 1⟩
            refine wp_slots (fun f => Sz f 112 ∧ Slot f 1 (.int .i64 (k : Int)) ∧ Slot f 2 (.pointer (some ⟨w.heap.size, 0, none⟩)) ∧ Slot f 4 (.bool false) ∧ Slot f 5 (.pointer (some ⟨b5, 0, none⟩)) ∧ Slot f 6 (.pointer (some ⟨b6, 0, none⟩))) ⟨⟨rfl, rfl⟩, ⟨rfl⟩, ⟨rfl⟩, ⟨rfl⟩, ⟨rfl⟩, ⟨rfl⟩⟩ fun a0 hA0 hR => ?_
            obtain ⟨hZ, hs1, hs2, hs4, hs5, hs6⟩ := hR
            have HA := Lib.hid hA0
            clear hA0 y1 y2
            refine wp_region_T' hU3 (fun W' : World => W'.cell? ⟨b5, 1, none⟩ = some (.slice (some ⟨g1, 0, none⟩) c0.nl l1) ∧ W'.cell? ⟨b6, 1, none⟩ = some (.slice (some ⟨h1, 0, none⟩) c0.nl m1)) 12 (by kernel_rfl) ?_
            refine WT.h ?_
            (refine wt_take1 0 5 (v := ?_) rfl rfl (by kernel_rfl) (by kernel_rfl) (by kernel_rfl) (by kernel_rfl) (fun _ _ _ h => h) rfl hS0 (by (repeat (first | (refine slot_hit (N := 112) ?_ (by rfl); (repeat (refine sz_put ?_)); assumption; done) | (apply slot_miss; focus rfl))); all_goals assumption) (fun ev hk hv0 w hS => ?_) ?_; rotate_left; focus (obtain ⟨j1, j2⟩ := hS; go_simp; rfl)); (refine wt_take1 1 37 (v := ?_) rfl rfl (by kernel_rfl) (by kernel_rfl) (by kernel_rfl) (by kernel_rfl) (fun _ _ _ h => h) rfl hS0 (by (repeat (first | (refine slot_hit (N := 112) ?_ (by rfl); (repeat (refine sz_put ?_)); assumption; done) | (apply slot_miss; focus rfl))); all_goals assumption) (fun ev hk hv0 w hS => ?_) ?_; rotate_left; focus (obtain ⟨j1, j2⟩ := hS; go_simp; rfl)); (refine wt_move 2 1 rfl rfl (by kernel_rfl) (by kernel_rfl) (by kernel_rfl) (by kernel_rfl) (fun _ _ _ h => h) rfl hS0 (by (repeat (first | (refine slot_hit (N := 112) ?_ (by rfl); (repeat (refine sz_put ?_)); assumption; done) | (apply slot_miss; focus rfl))); all_goals assumption) rfl ?_); (refine wt_take1 3 6 (v := ?_) rfl rfl (by kernel_rfl) (by kernel_rfl) (by kernel_rfl) (by kernel_rfl) (fun _ _ _ h => h) rfl hS0 (by (repeat (first | (refine slot_hit (N := 112) ?_ (by rfl); (repeat (refine sz_put ?_)); assumption; done) | (apply slot_miss; focus rfl))); all_goals assumption) (fun ev hk hv0 w hS => ?_) ?_; rotate_left; focus (obtain ⟨j1, j2⟩ := hS; go_simp; rfl)); (refine wt_take1 4 40 (v := ?_) rfl rfl (by kernel_rfl) (by kernel_rfl) (by kernel_rfl) (by kernel_rfl) (fun _ _ _ h => h) rfl hS0 (by (repeat (first | (refine slot_hit (N := 112) ?_ (by rfl); (repeat (refine sz_put ?_)); assumption; done) | (apply slot_miss; focus rfl))); all_goals assumption) (fun ev hk hv0 w hS => ?_) ?_; rotate_left; focus (obtain ⟨j1, j2⟩ := hS; go_simp; rfl)); (refine wt_move 5 1 rfl rfl (by kernel_rfl) (by kernel_rfl) (by kernel_rfl) (by kernel_rfl) (fun _ _ _ h => h) rfl hS0 (by (repeat (first | (refine slot_hit (N := 112) ?_ (by rfl); (repeat (refine sz_put ?_)); assumption; done) | (apply slot_miss; focus rfl))); all_goals assumption) rfl ?_); (refine wt_take2 6 38 39 (v := ?_) rfl rfl (by kernel_rfl) (by kernel_rfl) (by kernel_rfl) (by kernel_rfl) (fun _ _ _ h => h) rfl hS0 (by (repeat (first | (refine slot_hit (N := 112) ?_ (by rfl); (repeat (refine sz_put ?_)); assumption; done) | (apply slot_miss; focus rfl))); all_goals assumption) (by (repeat (first | (refine slot_hit (N := 112) ?_ (by rfl); (repeat (refine sz_put ?_)); assumption; done) | (apply slot_miss; focus rfl))); all_goals assumption) (fun ev hk hv0 hv1 w hS => ?_) ?_; rotate_left; focus (obtain ⟨j1, j2⟩ := hS; go_simp; rfl)); (refine wt_take1 7 43 (v := ?_) rfl rfl (by kernel_rfl) (by kernel_rfl) (by kernel_rfl) (by kernel_rfl) (fun _ _ _ h => h) rfl hS0 (by (repeat (first | (refine slot_hit (N := 112) ?_ (by rfl); (repeat (refine sz_put ?_)); assumption; done) | (apply slot_miss; focus rfl))); all_goals assumption) (fun ev hk hv0 w hS => ?_) ?_; rotate_left; focus (obtain ⟨j1, j2⟩ := hS; go_simp; rfl))
            obtain ⟨z1, z2, _⟩ := ownC_at (z := 0) hX4.o1 hkl
            refine wt_one 8 (by kernel_rfl) ?_
            refine wb_act1 8 44 rfl rfl rfl (by (repeat (first | (refine slot_hit (N := 112) ?_ (by rfl); (repeat (refine sz_put ?_)); assumption; done) | (apply slot_miss; focus rfl))); all_goals assumption) (w' := ?_) (fun ev hk hv0 => ?_) ?_
            rotate_left
            focus (go_simp; rfl)
            intro U4 hU4
            have hX5 := hX4.st1 hkl hU4
            refine ⟨fun _ => ⟨hX5.h5.cell 1, hX5.h6.cell 1⟩, ?_⟩
            clear z1 z2 hS0
            have hS0 : (fun W' : World => W'.cell? ⟨b5, 1, none⟩ = some (.slice (some ⟨g1, 0, none⟩) c0.nl l1) ∧ W'.cell? ⟨b6, 1, none⟩ = some (.slice (some ⟨h1, 0, none⟩) c0.nl m1)) U4 := ⟨hX5.h5.cell 1, hX5.h6.cell 1⟩
            (refine wt_take2 9 41 42 (v := ?_) rfl rfl (by kernel_rfl) (by kernel_rfl) (by kernel_rfl) (by kernel_rfl) (fun _ _ _ h => h) rfl hS0 (by (repeat (first | (refine slot_hit (N := 112) ?_ (by rfl); (repeat (refine sz_put ?_)); assumption; done) | (apply slot_miss; focus rfl))); all_goals assumption) (by (repeat (first | (refine slot_hit (N := 112) ?_ (by rfl); (repeat (refine sz_put ?_)); assumption; done) | (apply slot_miss; focus rfl))); all_goals assumption) (fun ev hk hv0 hv1 w hS => ?_) ?_; rotate_left; focus (obtain ⟨j1, j2⟩ := hS; go_simp; rfl)); (refine wt_take1 10 45 (v := ?_) rfl rfl (by kernel_rfl) (by kernel_rfl) (by kernel_rfl) (by kernel_rfl) (fun _ _ _ h => h) rfl hS0 (by (repeat (first | (refine slot_hit (N := 112) ?_ (by rfl); (repeat (refine sz_put ?_)); assumption; done) | (apply slot_miss; focus rfl))); all_goals assumption) (fun ev hk hv0 w hS => ?_) ?_; rotate_left; focus (obtain ⟨j1, j2⟩ := hS; go_simp; rfl))
            obtain ⟨z1, z2, _⟩ := ownC_at (z := 0) hX5.o2 hkl
            refine wt_one 11 (by kernel_rfl) ?_
            refine wb_act1 11 46 rfl rfl rfl (by (repeat (first | (refine slot_hit (N := 112) ?_ (by rfl); (repeat (refine sz_put ?_)); assumption; done) | (apply slot_miss; focus rfl))); all_goals assumption) (w' := ?_) (fun ev hk hv0 => ?_) ?_
            rotate_left
            focus (go_simp; rfl)
            intro U5 hU5
            have hX6 := hX5.st2 hkl hU5
            refine ⟨fun _ => ⟨hX6.h5.cell 1, hX6.h6.cell 1⟩, ?_⟩
            refine wt_known (N := 112) (by kernel_rfl) (by (repeat (refine sz_put ?_)); assumption) [(1, .int .i64 (k : Int)), (2, .pointer (some ⟨w.heap.size, 0, none⟩)), (4, .bool false), (5, .pointer (some ⟨b5, 0, none⟩)), (6, .pointer (some ⟨b6, 0, none⟩))] ⟨(by (repeat (first | (refine slot_hit (N := 112) ?_ (by rfl); (repeat (refine sz_put ?_)); assumption; done) | (apply slot_miss; focus rfl))); all_goals assumption), (by (repeat (first | (refine slot_hit (N := 112) ?_ (by rfl); (repeat (refine sz_put ?_)); assumption; done) | (apply slot_miss; focus rfl))); all_goals assumption), (by (repeat (first | (refine slot_hit (N := 112) ?_ (by rfl); (repeat (refine sz_put ?_)); assumption; done) | (apply slot_miss; focus rfl))); all_goals assumption), (by (repeat (first | (refine slot_hit (N := 112) ?_ (by rfl); (repeat (refine sz_put ?_)); assumption; done) | (apply slot_miss; focus rfl))); all_goals assumption), (by (repeat (first | (refine slot_hit (N := 112) ?_ (by rfl); (repeat (refine sz_put ?_)); assumption; done) | (apply slot_miss; focus rfl))); all_goals assumption), trivial⟩ fun fv fl hfl => ?_; obtain rfl : fl = [fv 0, (.int .i64 (k : Int) : Value), (.pointer (some ⟨w.heap.size, 0, none⟩) : Value), fv 3, (.bool false : Value), (.pointer (some ⟨b5, 0, none⟩) : Value), (.pointer (some ⟨b6, 0, none⟩) : Value), fv 7, fv 8, fv 9, fv 10, fv 11, fv 12, fv 13, fv 14, fv 15, fv 16, fv 17, fv 18, fv 19, fv 20, fv 21, fv 22, fv 23, fv 24, fv 25, fv 26, fv 27, fv 28, fv 29, fv 30, fv 31, fv 32, fv 33, fv 34, fv 35, fv 36, fv 37, fv 38, fv 39, fv 40, fv 41, fv 42, fv 43, fv 44, fv 45, fv 46, fv 47, fv 48, fv 49, fv 50, fv 51, fv 52, fv 53, fv 54, fv 55, fv 56, fv 57, fv 58, fv 59, fv 60, fv 61, fv 62, fv 63, fv 64, fv 65, fv 66, fv 67, fv 68, fv 69, fv 70, fv 71, fv 72, fv 73, fv 74, fv 75, fv 76, fv 77, fv 78, fv 79, fv 80, fv 81, fv 82, fv 83, fv 84, fv 85, fv 86, fv 87, fv 88, fv 89, fv 90, fv 91, fv 92, fv 93, fv 94, fv 95, fv 96, fv 97, fv 98, fv 99, fv 100, fv 101, fv 102, fv 103, fv 104, fv 105, fv 106, fv 107, fv 108, fv 109, fv 110, fv 111] := hfl.symm.trans (by kernel_rfl); clear hfl
            clear z1 z2 hX3 hX4 hX5 hU3 hU4 hU5 hS0 hZ hs1 hs2 hs4 hs5 hs6 HA
            obtain ⟨SS, hSS⟩ : ∃ SS, str (c0.rz k 0).raw.txt = SS := ⟨_, rfl⟩
            obtain ⟨S1, hS1⟩ : ∃ S1, str (c0.rz k 1).raw.txt = S1 := ⟨_, rfl⟩
            rw [hSS, hS1] at hX
            have T0 : Hid (∀ W, Mem W W.heap.size (c0.rz k 0) (mP g1 g2 g3 g4 l1 l2 l3 l4) → Tab W.heap.size W → Calls Tryd.prog 11 #[.agg #[.int .i64 c0.i, .slice (some ⟨g1, 0, none⟩) c0.nl l1, .slice (some ⟨g2, 0, none⟩) c0.na l2, .slice (some ⟨g3, 0, none⟩) c0.nb l3, .slice (some ⟨g4, 0, none⟩) c0.nc l4]] W fun e w' => e = .returned (.tuple #[.string SS, .int .i64 0]) ∧ Below W.heap.size W w') := fun W hm ht => rzText hk HS.out (by omega) hSS W hm ht
            have T1 : Hid (∀ W, Mem W W.heap.size (c0.rz k 1) (mP h1 h2 h3 h4 m1 m2 m3 m4) → Tab W.heap.size W → Calls Tryd.prog 11 #[.agg #[.int .i64 c0.i, .slice (some ⟨h1, 0, none⟩) c0.nl m1, .slice (some ⟨h2, 0, none⟩) c0.na m2, .slice (some ⟨h3, 0, none⟩) c0.nb m3, .slice (some ⟨h4, 0, none⟩) c0.nc m4]] W fun e w' => e = .returned (.tuple #[.string S1, .int .i64 0]) ∧ Below W.heap.size W w') := fun W hm ht => rzText hk HS.out (by omega) hS1 W hm ht
            obtain ⟨ci0, ci1, _⟩ := Cr.chk_zero hk
            have ci2 : c0.i ≤ 1000 := by unfold Cr.sz at ci1; omega
            have kLa := hX.len
            have kLb := hX.len1
            have kTo := hX.cto
            have kFr := hX.cfr
            have kA1 := hX.a1
            have kA2 := hX.a2
            have hup := hX.nup
            have hen := hX.en
            have HX := Lib.hid hX
            have HK2 := Lib.hid hk
            have hB5 : Below w.heap.size w U5 := Below.step hBd hBd.size hX6.B
            obtain ⟨v0, v1, v2, v3, v4⟩ := rz_box hX6.h5
            clear hX hk hSS hS1 hg hv0 hm0 hN0 hC0 ci1 hBd
            go_wp2_with (go_at_call 11; (with_reducible refine (T0.out _ hX6.o1.mem (Tab.up (HT.out.on hB5) hB5.size)).mono ?_); rintro e w6 ⟨rfl, hb6⟩; have hB6 := Below.step hB5 hB5.size hb6; have hX7 := hX6.on hb6; obtain ⟨u0, u1, u2, u3, u4⟩ := rz_box hX7.h6)
            go_wp2_with (go_at_call 11; (with_reducible refine (T1.out _ hX7.o2.mem (Tab.up (HT.out.on hB6) hB6.size)).mono ?_); rintro e w7 ⟨rfl, hb7⟩; have hB7 := Below.step hB6 hB6.size hb7; have x0 : w7.cell? ⟨w.heap.size, 0, none⟩ = some (.int .i64 c0.i) := (hX7.on hb7).x.cell 0)
            clear hX6 hX7 v0 v1 v2 v3 v4 u0 u1 u2 u3 u4
            go_loopw [11, 12, 13] (fun u e i wr => ∃ q : Nat, q ≤ E + 1 ∧ i = .int .i64 q ∧ u = .int .i64 (K q : Int) ∧ e = .int .i64 (if q ≤ E then -1 else (E : Int)) ∧ w7 = wr) (fun _ _ i _ => E + 1 - (intOf i).toNat)
            case atStart => exact ⟨0, by omega, rfl, by rw [HX.out.k0]; rfl, by rw [if_pos (by omega)], rfl⟩
            case round =>
              obtain ⟨q, hq, rfl, rfl, rfl, rfl⟩ := hrel
              have hKq := HX.out.kle q
              by_cases hqE : q ≤ E
              · have hqn : q < n := by omega
                have hi : (q : Int) < (n : Int) := by omega
                have kx := HX.out.idx q (q : Int) rfl hqn
                have HKS := Lib.hid (HX.out.ks q hqn)
                have HXE := Lib.hid HX.out.xe
                obtain ⟨x, hx⟩ : ∃ x, X q = x := ⟨_, rfl⟩
                rw [hx] at kx
                have HXQ := Lib.hid hx
                clear hx
                have hif : (if q ≤ E then (-1 : Int) else (E : Int)) = -1 := if_pos hqE
                by_cases h10 : x = 10
                · subst h10
                  have HKS := Lib.hid (show K (q + 1) = K q + 1 by rw [HKS.out, HXQ.out, if_pos rfl])
                  by_cases he : q = E
                  · subst he
                    have hkt : ((K q : Int) == 1 + c0.i + (k : Int)) = true := by rw [HX.out.ke]; simp
                    clear hq hqE
                    go_wp2
                    go_roundw
                    case rel => exact ⟨q + 1, by omega, by go_num, by rw [HKS.out]; go_num, by rw [if_neg (by omega)], trivial⟩
                    case measure => simp [intOf] <;> omega
                  · have hlt := HX.out.kl q (by omega) HXQ.out
                    have hkt : ((K q : Int) == 1 + c0.i + (k : Int)) = false := by simp; omega
                    have hq' : q + 1 ≤ E := by omega
                    clear hq hqE he hlt
                    go_wp2
                    go_roundw
                    case rel => exact ⟨q + 1, by omega, by go_num, by rw [HKS.out]; go_num, by rw [if_pos hq', if_pos (by omega)], trivial⟩
                    case measure => simp [intOf]; omega
                · have h10b : (x == 10) = false := by simpa using h10
                  have HKS := Lib.hid (show K (q + 1) = K q by rw [HKS.out, HXQ.out, if_neg h10]; rfl)
                  have hq' : q + 1 ≤ E := by
                    rcases Nat.lt_or_ge q E with h | h
                    · exact h
                    · have : q = E := by omega
                      subst this
                      exact absurd (HXQ.out.symm.trans HXE.out) h10
                  clear hq hqE h10
                  go_wp2
                  go_roundw
                  case rel => exact ⟨q + 1, by omega, by go_num, by rw [HKS.out], by rw [if_pos hq', if_pos (by omega)], trivial⟩
                  case measure => simp [intOf]; omega
              · have hif : (if q ≤ E then (-1 : Int) else (E : Int)) = E := if_neg hqE
                have hE0 : (0 : Int) ≤ (E : Int) := by omega
                have hE1 : ¬ (E : Int) < 0 := by omega
                have hAB : Hid (Calls Tryd.prog 12 #[] w7.drew fun e w' => e = .returned (.bool true) ∧ Below w7.drew.heap.size w7.drew w') := AL.out _ (below_dn hB7 1)
                clear hq hqE
                by_cases hi : (q : Int) < (n : Int)
                all_goals
                  go_wp2
                  refine wp_slots (fun f => Sz f 112 ∧ Slot f 4 (.bool false) ∧ Slot f 7 (.string SS) ∧ Slot f 9 (.string S1) ∧ Slot f 12 (.int .i64 (E : Int))) ⟨⟨rfl, rfl⟩, ⟨rfl⟩, ⟨rfl⟩, ⟨rfl⟩, ⟨rfl⟩⟩ fun a0 hA0 hR => ?_
                  obtain ⟨hZ, hs4, hs7, hs9, hs12⟩ := hR
                  have HA := Lib.hid hA0
                  clear hA0
                  have hS0 : (fun _ : World => True) w7.drew := trivial
                  refine wp_region_T (fun _ : World => True) 18 (by kernel_rfl) ?_
                  refine WT.h ?_
                  (refine wt_move 0 12 rfl rfl (by kernel_rfl) (by kernel_rfl) (by kernel_rfl) (by kernel_rfl) (fun _ _ _ h => h) rfl hS0 (by (repeat (first | (refine slot_hit (N := 112) ?_ (by rfl); (repeat (refine sz_put ?_)); assumption; done) | (apply slot_miss; focus rfl))); all_goals assumption) rfl ?_); (refine wt_take1 1 95 (v := ?_) rfl rfl (by kernel_rfl) (by kernel_rfl) (by kernel_rfl) (by kernel_rfl) (fun _ _ _ h => h) rfl hS0 (by (repeat (first | (refine slot_hit (N := 112) ?_ (by rfl); (repeat (refine sz_put ?_)); assumption; done) | (apply slot_miss; focus rfl))); all_goals assumption) (fun ev hk hv0 w hS => ?_) ?_; rotate_left; focus (go_simp; rfl)); (refine wt_move 2 96 rfl rfl (by kernel_rfl) (by kernel_rfl) (by kernel_rfl) (by kernel_rfl) (fun _ _ _ h => h) rfl hS0 (by (repeat (first | (refine slot_hit (N := 112) ?_ (by rfl); (repeat (refine sz_put ?_)); assumption; done) | (apply slot_miss; focus rfl))); all_goals assumption) rfl ?_); (refine wt_move 3 9 rfl rfl (by kernel_rfl) (by kernel_rfl) (by kernel_rfl) (by kernel_rfl) (fun _ _ _ h => h) (wanted_of rfl rfl (by (repeat (first | (refine slot_hit (N := 112) ?_ (by rfl); (repeat (refine sz_put ?_)); assumption; done) | (apply slot_miss; focus rfl))); all_goals assumption) rfl) hS0 (by (repeat (first | (refine slot_hit (N := 112) ?_ (by rfl); (repeat (refine sz_put ?_)); assumption; done) | (apply slot_miss; focus rfl))); all_goals assumption) rfl ?_); (refine wt_move 4 7 rfl rfl (by kernel_rfl) (by kernel_rfl) (by kernel_rfl) (by kernel_rfl) (fun _ _ _ h => h) (wanted_of rfl rfl (by (repeat (first | (refine slot_hit (N := 112) ?_ (by rfl); (repeat (refine sz_put ?_)); assumption; done) | (apply slot_miss; focus rfl))); all_goals assumption) rfl) hS0 (by (repeat (first | (refine slot_hit (N := 112) ?_ (by rfl); (repeat (refine sz_put ?_)); assumption; done) | (apply slot_miss; focus rfl))); all_goals assumption) rfl ?_); (refine wt_move 5 12 rfl rfl (by kernel_rfl) (by kernel_rfl) (by kernel_rfl) (by kernel_rfl) (fun _ _ _ h => h) (wanted_of rfl rfl (by (repeat (first | (refine slot_hit (N := 112) ?_ (by rfl); (repeat (refine sz_put ?_)); assumption; done) | (apply slot_miss; focus rfl))); all_goals assumption) rfl) hS0 (by (repeat (first | (refine slot_hit (N := 112) ?_ (by rfl); (repeat (refine sz_put ?_)); assumption; done) | (apply slot_miss; focus rfl))); all_goals assumption) rfl ?_); (refine wt_take2 6 99 100 (v := ?_) rfl rfl (by kernel_rfl) (by kernel_rfl) (by kernel_rfl) (by kernel_rfl) (fun _ _ _ h => h) (wanted_of rfl rfl (by (repeat (first | (refine slot_hit (N := 112) ?_ (by rfl); (repeat (refine sz_put ?_)); assumption; done) | (apply slot_miss; focus rfl))); all_goals assumption) rfl) hS0 (by (repeat (first | (refine slot_hit (N := 112) ?_ (by rfl); (repeat (refine sz_put ?_)); assumption; done) | (apply slot_miss; focus rfl))); all_goals assumption) (by (repeat (first | (refine slot_hit (N := 112) ?_ (by rfl); (repeat (refine sz_put ?_)); assumption; done) | (apply slot_miss; focus rfl))); all_goals assumption) (fun ev hk hv0 hv1 w hS => ?_) ?_; rotate_left; focus (go_simp; rfl)); (refine wt_take1 7 101 (v := ?_) rfl rfl (by kernel_rfl) (by kernel_rfl) (by kernel_rfl) (by kernel_rfl) (fun _ _ _ h => h) (wanted_of rfl rfl (by (repeat (first | (refine slot_hit (N := 112) ?_ (by rfl); (repeat (refine sz_put ?_)); assumption; done) | (apply slot_miss; focus rfl))); all_goals assumption) rfl) hS0 (by (repeat (first | (refine slot_hit (N := 112) ?_ (by rfl); (repeat (refine sz_put ?_)); assumption; done) | (apply slot_miss; focus rfl))); all_goals assumption) (fun ev hk hv0 w hS => ?_) ?_; rotate_left; focus (go_simp; rfl)); (refine wt_move 8 7 rfl rfl (by kernel_rfl) (by kernel_rfl) (by kernel_rfl) (by kernel_rfl) (fun _ _ _ h => h) (wanted_of rfl rfl (by (repeat (first | (refine slot_hit (N := 112) ?_ (by rfl); (repeat (refine sz_put ?_)); assumption; done) | (apply slot_miss; focus rfl))); all_goals assumption) rfl) hS0 (by (repeat (first | (refine slot_hit (N := 112) ?_ (by rfl); (repeat (refine sz_put ?_)); assumption; done) | (apply slot_miss; focus rfl))); all_goals assumption) rfl ?_); (refine wt_move 9 12 rfl rfl (by kernel_rfl) (by kernel_rfl) (by kernel_rfl) (by kernel_rfl) (fun _ _ _ h => h) (wanted_of rfl rfl (by (repeat (first | (refine slot_hit (N := 112) ?_ (by rfl); (repeat (refine sz_put ?_)); assumption; done) | (apply slot_miss; focus rfl))); all_goals assumption) rfl) hS0 (by (repeat (first | (refine slot_hit (N := 112) ?_ (by rfl); (repeat (refine sz_put ?_)); assumption; done) | (apply slot_miss; focus rfl))); all_goals assumption) rfl ?_); (refine wt_take2 10 103 104 (v := ?_) rfl rfl (by kernel_rfl) (by kernel_rfl) (by kernel_rfl) (by kernel_rfl) (fun _ _ _ h => h) (wanted_of rfl rfl (by (repeat (first | (refine slot_hit (N := 112) ?_ (by rfl); (repeat (refine sz_put ?_)); assumption; done) | (apply slot_miss; focus rfl))); all_goals assumption) rfl) hS0 (by (repeat (first | (refine slot_hit (N := 112) ?_ (by rfl); (repeat (refine sz_put ?_)); assumption; done) | (apply slot_miss; focus rfl))); all_goals assumption) (by (repeat (first | (refine slot_hit (N := 112) ?_ (by rfl); (repeat (refine sz_put ?_)); assumption; done) | (apply slot_miss; focus rfl))); all_goals assumption) (fun ev hk hv0 hv1 w hS => ?_) ?_; rotate_left; focus (go_simp; rfl)); (refine wt_take2 11 102 105 (v := ?_) rfl rfl (by kernel_rfl) (by kernel_rfl) (by kernel_rfl) (by kernel_rfl) (fun _ _ _ h => h) (wanted_of rfl rfl (by (repeat (first | (refine slot_hit (N := 112) ?_ (by rfl); (repeat (refine sz_put ?_)); assumption; done) | (apply slot_miss; focus rfl))); all_goals assumption) rfl) hS0 (by (repeat (first | (refine slot_hit (N := 112) ?_ (by rfl); (repeat (refine sz_put ?_)); assumption; done) | (apply slot_miss; focus rfl))); all_goals assumption) (by (repeat (first | (refine slot_hit (N := 112) ?_ (by rfl); (repeat (refine sz_put ?_)); assumption; done) | (apply slot_miss; focus rfl))); all_goals assumption) (fun ev hk hv0 hv1 w hS => ?_) ?_; rotate_left; focus (go_simp; rfl)); (refine wt_take2 12 98 106 (v := ?_) rfl rfl (by kernel_rfl) (by kernel_rfl) (by kernel_rfl) (by kernel_rfl) (fun _ _ _ h => h) (wanted_of rfl rfl (by (repeat (first | (refine slot_hit (N := 112) ?_ (by rfl); (repeat (refine sz_put ?_)); assumption; done) | (apply slot_miss; focus rfl))); all_goals assumption) rfl) hS0 (by (repeat (first | (refine slot_hit (N := 112) ?_ (by rfl); (repeat (refine sz_put ?_)); assumption; done) | (apply slot_miss; focus rfl))); all_goals assumption) (by (repeat (first | (refine slot_hit (N := 112) ?_ (by rfl); (repeat (refine sz_put ?_)); assumption; done) | (apply slot_miss; focus rfl))); all_goals assumption) (fun ev hk hv0 hv1 w hS => ?_) ?_; rotate_left; focus (go_simp; rfl)); (refine wt_take2 13 97 107 (v := ?_) rfl rfl (by kernel_rfl) (by kernel_rfl) (by kernel_rfl) (by kernel_rfl) (fun _ _ _ h => h) rfl hS0 (by (repeat (first | (refine slot_hit (N := 112) ?_ (by rfl); (repeat (refine sz_put ?_)); assumption; done) | (apply slot_miss; focus rfl))); all_goals assumption) (by (repeat (first | (refine slot_hit (N := 112) ?_ (by rfl); (repeat (refine sz_put ?_)); assumption; done) | (apply slot_miss; focus rfl))); all_goals assumption) (fun ev hk hv0 hv1 w hS => ?_) ?_; rotate_left; focus (go_simp; rfl)); (refine wt_move 14 108 rfl rfl (by kernel_rfl) (by kernel_rfl) (by kernel_rfl) (by kernel_rfl) (fun _ _ _ h => h) rfl hS0 (by (repeat (first | (refine slot_hit (N := 112) ?_ (by rfl); (repeat (refine sz_put ?_)); assumption; done) | (apply slot_miss; focus rfl))); all_goals assumption) rfl ?_)
                  refine wt_call0 15  (by kernel_rfl) rfl rfl (wanted_of rfl rfl (by (repeat (first | (refine slot_hit (N := 112) ?_ (by rfl); (repeat (refine sz_put ?_)); assumption; done) | (apply slot_miss; focus rfl))); all_goals assumption) rfl)  (f := ?_) (args := ?_) (fun ev hk hkf  => ?_) ?_; rotate_left 2; focus (go_simp; first | rfl | (constructor <;> rfl))
                  refine hAB.out.mono ?_
                  rintro e w8 ⟨rfl, hb8⟩
                  have hB8 : Below w.heap.size w w8 := Below.step (below_dn hB7 1) (below_dn hB7 1).size hb8
                  have hS0 : (fun _ : World => True) w8 := trivial
                  refine ⟨_, rfl, fun _ => hS0, ?_⟩
                  (refine wt_take2 16 109 110 (v := ?_) rfl rfl (by kernel_rfl) (by kernel_rfl) (by kernel_rfl) (by kernel_rfl) (fun _ _ _ h => h) rfl hS0 (by (repeat (first | (refine slot_hit (N := 112) ?_ (by rfl); (repeat (refine sz_put ?_)); assumption; done) | (apply slot_miss; focus rfl))); all_goals assumption) (by (repeat (first | (refine slot_hit (N := 112) ?_ (by rfl); (repeat (refine sz_put ?_)); assumption; done) | (apply slot_miss; focus rfl))); all_goals assumption) (fun ev hk hv0 hv1 w hS => ?_) ?_; rotate_left; focus (go_simp; rfl)); (refine wt_assign 17 111 rfl rfl (by kernel_rfl) (by kernel_rfl) (by kernel_rfl) (by kernel_rfl) (fun _ _ _ h => h) rfl hS0 (by (repeat (first | (refine slot_hit (N := 112) ?_ (by rfl); (repeat (refine sz_put ?_)); assumption; done) | (apply slot_miss; focus rfl))); all_goals assumption) rfl ?_)
                  refine wt_known (N := 112) (by kernel_rfl) (by (repeat (refine sz_put ?_)); assumption) [(4, .bool true)] ⟨(by (repeat (first | (refine slot_hit (N := 112) ?_ (by rfl); (repeat (refine sz_put ?_)); assumption; done) | (apply slot_miss; focus rfl))); all_goals assumption), trivial⟩ fun fv fl hfl => ?_; obtain rfl : fl = [fv 0, fv 1, fv 2, fv 3, (.bool true : Value), fv 5, fv 6, fv 7, fv 8, fv 9, fv 10, fv 11, fv 12, fv 13, fv 14, fv 15, fv 16, fv 17, fv 18, fv 19, fv 20, fv 21, fv 22, fv 23, fv 24, fv 25, fv 26, fv 27, fv 28, fv 29, fv 30, fv 31, fv 32, fv 33, fv 34, fv 35, fv 36, fv 37, fv 38, fv 39, fv 40, fv 41, fv 42, fv 43, fv 44, fv 45, fv 46, fv 47, fv 48, fv 49, fv 50, fv 51, fv 52, fv 53, fv 54, fv 55, fv 56, fv 57, fv 58, fv 59, fv 60, fv 61, fv 62, fv 63, fv 64, fv 65, fv 66, fv 67, fv 68, fv 69, fv 70, fv 71, fv 72, fv 73, fv 74, fv 75, fv 76, fv 77, fv 78, fv 79, fv 80, fv 81, fv 82, fv 83, fv 84, fv 85, fv 86, fv 87, fv 88, fv 89, fv 90, fv 91, fv 92, fv 93, fv 94, fv 95, fv 96, fv 97, fv 98, fv 99, fv 100, fv 101, fv 102, fv 103, fv 104, fv 105, fv 106, fv 107, fv 108, fv 109, fv 110, fv 111] := hfl.symm.trans (by kernel_rfl); clear hfl
                  go_wp2
                  go_ret
                  exact ⟨rfl, hB8⟩
    · have hk' : (c0.chk != 0) = true := by simpa using hk
      have K0 : Hid (∀ W, Below w.heap.size w W → Calls Tryd.prog 21 #[cv c0 p0] W fun e w' => e = .returned (.int .i64 c0.chk) ∧ Below W.heap.size W w') := fun W hb => by have := rCheck_any c0 p0 W (HM.out.to hb hb.size) HS.out; exact this
      clear hk hg hv0 hm0 hN0 hC0
      go_enter Tryd.func8, Tryd.ntmps8
      go_wp2_with (go_at_call 19; (with_reducible refine (G0.out _).mono ?_); rintro e w1 ⟨rfl, hb1⟩; have hB1 : Below w.heap.size w w1 := Below.step (by go_grown) (by go_size) hb1; have hA1 : Has w1 w.heap.size 37 (cc c0 p0) := (Has.new w 37 (cc c0 p0)).keep hb1 (by simp); obtain ⟨x0, x1, x2, x3, x4⟩ := hA1.box)
      go_wp2_with (go_at_call 21; (with_reducible refine (K0.out _ hB1).mono ?_); rintro e w2 ⟨rfl, hb2⟩; have hB2 := Below.step hB1 hB1.size hb2; have hA2 : Has w2 w.heap.size 37 (cc c0 p0) := hA1.keep hb2 hA1.lt; obtain ⟨x0, x1, x2, x3, x4⟩ := hA2.box)
      go_wp2_with (go_at_call 12; (with_reducible refine (AL.out _ hB2).mono ?_); rintro e w3 ⟨rfl, hb3⟩; have hB3 := Below.step hB2 hB2.size hb3; have hA3 : Has w3 w.heap.size 37 (cc c0 p0) := hA2.keep hb3 hA2.lt; obtain ⟨x0, x1, x2, x3, x4⟩ := hA3.box)
      go_ret
      exact ⟨rfl, hB3⟩
  · have G0 : Hid (∀ W, Calls Tryd.prog 19 #[cv c0 p0] W fun e w' => e = .returned (.bool true) ∧ Below W.heap.size W w') := fun W => by have := rGreat_any c0 p0 W; rwa [hg] at this
    clear hg hv0 hm0 hN0 hC0
    go_enter Tryd.func8, Tryd.ntmps8
    go_wp2_with (go_at_call 19; (with_reducible refine (G0.out _).mono ?_); rintro e w1 ⟨rfl, hb1⟩; have hB1 : Below w.heap.size w w1 := Below.step (by go_grown) (by go_size) hb1; have hA1 : Has w1 w.heap.size 37 (cc c0 p0) := (Has.new w 37 (cc c0 p0)).keep hb1 (by simp); obtain ⟨x0, x1, x2, x3, x4⟩ := hA1.box)
    go_wp2_with (go_at_call 12; (with_reducible refine (AL.out _ hB1).mono ?_); rintro e w2 ⟨rfl, hb2⟩; have hB2 := Below.step hB1 hB1.size hb2; have hA2 : Has w2 w.heap.size 37 (cc c0 p0) := hA1.keep hb2 hA1.lt; obtain ⟨x0, x1, x2, x3, x4⟩ := hA2.box)
    go_ret
    exact ⟨rfl, hB2⟩

set_option maxRecDepth 100000 in
theorem lifted (os : Os) (started : os.Started) (H : Type) (enc : TypeId × Value → H) :
    ReturnsInHanded {} Tryd.checked os 8 .any (fun w args => (Rows.asciiResetSpec.pre enc Tryd.prog Tryd.f8 Rows.asciiResetRow.domain false w args ∧ laidMetH Tryd.prog Rows.asciiResetRow.laid w) ∧ sizedMet enc Tryd.prog Tryd.f8 (OpenSpec.ofChange Rows.asciiResetSpec) false w args) (Rows.asciiResetSpec.post enc Tryd.prog Tryd.f8 false true false false) := by
  refine returnsInHanded_of_change_and (C := Tryd.checked) (X := fun w _ => laidMetH Tryd.prog Rows.asciiResetRow.laid w) (fun _ _ _ hh h => h.of_heap hh) own started (by kernel_rfl) Tryd.func8
    (ChangeSpec.witness_shaped (enc := enc) (C := Tryd.checked) (os := os) (X := fun w _ => laidMetH Tryd.prog Rows.asciiResetRow.laid w) false (World.laidAll Tryd.prog os Rows.asciiResetRow.laid) #[.agg #[.int .i64 0, .slice none 0 0, .slice none 0 0, .slice none 0 0, .slice none 0 0], .int .i64 0] 12 (World.laidAll_os _ _ _)
      (World.shaped_of_ZipB (by kernel_rfl) (by kernel_rfl)) (by kernel_rfl) (by kernel_rfl) (by kernel_rfl)
      (by rw [MakeChecks.laidMetH_plain _ _ _ (by kernel_rfl)]; exact laidMet_laidAll _ (by kernel_rfl) (by kernel_rfl))) ?_
  intro W base args ds gs before hval0 hW hcnd _ hL _
  have hval : ∀ (j : Nat) t v, Tryd.f8.params[j]? = some t → args[j]? = some v → Value.okWide Tryd.prog W .any base t v := hval0
  have hW' := hW
  have hlt : ∀ x ∈ before, x.block < W.heap.size := fun x hx => by simpa using hW'.lt x hx
  obtain ⟨p, q, hA0, hV, rfl, hfz, hnd⟩ := hW
  have hA : DataW.TrodAll enc Tryd.prog W 0 (fun _ => true) true Tryd.f8.params.toList args.toList ds p := hA0
  rw [Tryd.params8] at hA hval
  obtain ⟨v0, vs0, d0, ds0, b0, q0, hargs, rfl, rfl, h0, r0⟩ := trodAll_cons hA
  obtain ⟨v1, vs1, d1, ds1, b1, q1, rfl, rfl, rfl, h1, r1⟩ := trodAll_cons r0
  obtain ⟨rfl, rfl, rfl⟩ := trodAll_nil r1
  obtain rfl : args = #[v0, v1] := by cases args; simp_all
  obtain ⟨rfl, rfl⟩ := trodVars_none hV
  obtain ⟨c0, p0, rfl, hm0, hN0, hv0, hC0⟩ := open_circ (hval 0 37 v0 rfl rfl) h0
  obtain ⟨a1, rfl, rfl, rfl, w1⟩ := open_int Tryd.underlying3 (hval 1 3 v1 rfl rfl) h1
  have hlo : laidOutB Tryd.prog = true := by kernel_rfl
  clear hA0 hval0
  simp only [List.append_nil] at hW' hlt
  refine (walk c0 p0 a1 W hm0 hN0 hv0 hC0 w1 (tab_of_laid hL)).mono fun e W' ⟨he, hb⟩ => ?_
  subst he
  have hback := (trodAll_cons_mk (arg_back (W' := W') hlo (by kernel_rfl) (of_decide_eq_true (by kernel_rfl)) h0 hb (fun x hx => hlt x (by simp [hx]))) (trodAll_cons_mk (shut_int (enc := enc) (w := W') (base := 0) (spare := fun b => decide (b < W.heap.size)) (held := true) Tryd.underlying3 w1) trodAll_mk0))
  simp only [List.append_nil, List.nil_append] at hback
  exact ⟨_, rfl, law_post hW' (trodAll_cons_mk (shut_bool Tryd.underlying4 _) trodAll_mk0) hback rfl hb⟩

theorem over : Rows.asciiResetRow.holds Tryd.pinned (OpenSpec.ofChange Rows.asciiResetSpec) :=
  OpenClaim.holds_of_wide 8 Tryd.f8 rfl rfl rfl rfl rfl rfl rfl ⟨rfl, rfl, rfl, rfl, rfl⟩ rfl rfl rfl rfl rfl (by kernel_rfl) Tryd.func8 (by kernel_rfl)
    (of_decide_eq_true (by kernel_rfl)) (by unfold Func.isWrapper; first | (rw [if_pos (by decide +kernel)]; kernel_rfl) | (rw [if_neg (by decide +kernel)]; exact ⟨rfl, rfl⟩))
    (fun os started H enc _ => lifted os started H enc)

theorem proved : Rows.AsciiResetCardSaid :=
  Claim7.holds_tied_plain_at .later [] [.data, .data, .data] true (true, "ab68182b2c92bb541f92756573780a25648848fc1fdf43171e6b4a4bf608f501") false over (fun _ h => by cases h) (by kernel_rfl) (fun _ h => by cases h) asciiReset_row_tie rfl ⟨rfl, rfl⟩ (by kernel_rfl) rfl
    (fun f fn hf hfn => by
      obtain rfl : f = 8 := Option.some.inj ((show Tryd.prog.funcNamed "spiritlevel/spiritlevellaw07.AsciiReset" = some 8 by kernel_rfl).symm.trans hf) |>.symm
      obtain rfl : fn = Tryd.f8 := (Option.some.inj (Tryd.func8.symm.trans hfn)).symm
      exact ⟨by kernel_rfl, fun j t ht => by
        rw [Tryd.params8] at ht
        have hm : t ∈ [37, 3] := by simpa using Array.mem_of_getElem? ht
        have hall : ([37, 3].all fun u => !Tryd.prog.wantsStandIn u) = true := by kernel_rfl
        exact (show Tryd.prog.wantsStandIn t = false by simpa using List.all_eq_true.1 hall t hm)⟩)
    (by kernel_rfl)
end Go.Proofs.YtmholdmcmbbdgaaDoor.asciiReset
