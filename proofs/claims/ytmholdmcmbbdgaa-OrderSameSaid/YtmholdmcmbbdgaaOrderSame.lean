/- For all valid circuits that are not great: the circuit of the raw circuit is the circuit, and no variable has another number. No conditions. -/
import Derived.Test.YtmholdmcmbbdgaaGatesFrame
import Derived.Test.YtmholdmcmbbdgaaGatesRef2
import Derived.Test.YtmholdmcmbbdgaaOrderSameKit
import Derived.Test.YtmholdmcmbbdgaaHeadTail
namespace Go.Proofs.Ytmholdmcmbbdgaa.orderSame
open Go.ChangeShapes Go.WideShapes Go.ChangeAt Go.RowKit
set_option linter.unusedVariables false
set_option linter.unusedSimpArgs false


theorem own : ownKnob Try.prog.godebug = none := by kernel_rfl

set_option maxRecDepth 100000 in
set_option maxHeartbeats 40000000 in
theorem walk (c0 : Cr) (p0 : Pl) (w : World) (hm0 : Mem w w.heap.size c0 p0) (hN0 : Nils c0 p0) (hv0 : Vals c0) (hC0 : Caps c0 p0) :
    Calls Try.prog 6 #[cv c0 p0] w fun e w' => e = .returned (.bool true) ∧ Below w.heap.size w w' := by
  have HM := Lib.hid hm0
  have HN := Lib.hid hN0
  have AL : Hid (∀ W, Calls Try.prog 16 #[] W fun e w' => e = .returned (.bool true) ∧ Below W.heap.size W w') := fun W => alive3_any W
  cases hg : c0.gr
  · have G0 : Hid (∀ W, Calls Try.prog 25 #[cv c0 p0] W fun e w' => e = .returned (.bool false) ∧ Below W.heap.size W w') := fun W => by have := rGreat_any c0 p0 W; rwa [hg] at this
    have hgr := Cr.gr_no hg
    have HS := Lib.hid (show Sm c0 from hv0.sm (by omega) (by omega) (by omega) (by omega))
    by_cases hk : c0.chk = 0
    · have hkb : (c0.chk == 0) = true := by simpa using hk
      have hkn : (c0.chk != 0) = false := by simp [bne, hkb]
      have K0 : Hid (∀ W, Below w.heap.size w W → Calls Try.prog 26 #[cv c0 p0] W fun e w' => e = .returned (.int .i64 0) ∧ Below W.heap.size W w') := fun W hb => by have := rCheck_any c0 p0 W (HM.out.to hb hb.size) HS.out; rwa [hk] at this
      have HRS := Lib.hid (raw_sm HS.out hkb)
      have R0 : Hid (∀ W, Below w.heap.size w W → Calls Try.prog 15 #[cv c0 p0] W (RawIs c0.raw W)) := fun W hb => oRaw_yes c0 p0 W (HM.out.to hb hb.size) HS.out HN.out hkb
      have C0 : Hid (∀ W p, RMem W W.heap.size c0.raw p → RNils c0.raw p → Calls Try.prog 10 #[rv c0.raw p] W fun e w' => ∃ p' g, e = .returned (.tuple #[cv c0 p', .slice (some ⟨g, 0, none⟩) (c0.szN + 1) (c0.szN + 1), .int .i64 0]) ∧ Mem w' w'.heap.size c0 p' ∧ w'.rowIs g 3 (c0.szN + 1) (fun v => .int .i64 (v : Int)) ∧ Below W.heap.size W w') := fun W p hm hn => circ_self W hk HRS.out hm hn
      have P0 : Hid (∀ W p, RMem W W.heap.size c0.raw p → RNils c0.raw p → Calls Try.prog 14 #[.agg #[.int .i64 c0.sz, .slice p.A1 c0.raw.ni p.k1, .slice p.A2 c0.raw.nl p.k2, .slice p.A3 c0.raw.na p.k3, .slice p.A4 c0.raw.nb p.k4, .slice p.A5 c0.raw.nc p.k5]] W fun e w' => e = .returned (.int .i64 0) ∧ Below W.heap.size W w') := fun W p hm hn => by have h := pCheck_any c0.raw p W HRS.out hm hn; rw [raw_chk hk] at h; exact h
      obtain ⟨s1, s2, s3, s4⟩ := szN_eq hk
      have S0 : Hid (∀ W, Calls Try.prog 27 #[cv c0 p0] W fun e w' => e = .returned (.int .i64 c0.sz) ∧ Below W.heap.size W w') := fun W => by
        obtain ⟨q0, q1, q2⟩ := Cr.chk_i hkb HS.out
        exact rSize_any c0 p0 W q0 q1 HS.out.nl HS.out.na
      obtain ⟨N, hNN⟩ : ∃ N, c0.szN = N := ⟨_, rfl⟩
      rw [hNN] at s1 s4 C0
      have HSZ := Lib.hid s1
      clear hgr hk hkb hkn s1 s2 s3 hg hv0 hm0 hN0 hC0 hNN
      go_enter Try.func6, Try.ntmps6
      go_wp2_with (go_at_call 25; (with_reducible refine (G0.out _).mono ?_); rintro e w1 ⟨rfl, hb1⟩; have hB1 : Below w.heap.size w w1 := Below.step (by go_grown) (by go_size) hb1; have hA1 : Has w1 w.heap.size 26 (cc c0 p0) := (Has.new w 26 (cc c0 p0)).keep hb1 (by simp); obtain ⟨x0, x1, x2, x3, x4⟩ := hA1.box)
      go_wp2_with (go_at_call 26; (with_reducible refine (K0.out _ hB1).mono ?_); rintro e w2 ⟨rfl, hb2⟩; have hB2 := Below.step hB1 hB1.size hb2; have hA2 : Has w2 w.heap.size 26 (cc c0 p0) := hA1.keep hb2 hA1.lt; obtain ⟨x0, x1, x2, x3, x4⟩ := hA2.box)
      go_wp2_with (go_at_call 15; (with_reducible refine (R0.out _ hB2).mono ?_); rintro e w3 ⟨⟨A1, A2, A3, A4, A5, k1, k2, k3, k4, k5⟩, rfl, hr3, hn3, hb3⟩; have hB3 := Below.step hB2 hB2.size hb3; have hA3 := hA2.keep hb3 hA2.lt)
      have hbx : Below w3.heap.size w3 (w3.alloc (.cells #[.int .i64 c0.raw.m, .slice A1 c0.raw.ni k1, .slice A2 c0.raw.nl k2, .slice A3 c0.raw.na k3, .slice A4 c0.raw.nb k4, .slice A5 c0.raw.nc k5] 32)) := (Below.refl _ _).alloc (Nat.le_refl _) _
      clear x0 x1 x2 x3 x4
      go_wp2_with (go_at_call 10; (with_reducible refine (C0.out _ ⟨A1, A2, A3, A4, A5, k1, k2, k3, k4, k5⟩ (hr3.to hbx hbx.size) hn3).mono ?_); rintro e w4 ⟨⟨Q1, Q2, Q3, Q4, l1, l2, l3, l4⟩, g, rfl, hm4, hR4, hb4⟩; have hb4' := Below.step hbx hbx.size hb4; have hB4 := Below.step hB3 hB3.size hb4'; have hA4 := hA3.keep hb4' hA3.lt; have hX4 : Has w4 w3.heap.size 32 (rc c0.raw ⟨A1, A2, A3, A4, A5, k1, k2, k3, k4, k5⟩) := (Has.new w3 32 (rc c0.raw ⟨A1, A2, A3, A4, A5, k1, k2, k3, k4, k5⟩)).keep hb4 (by simp); have hr4 := hr3.to hb4' hb4'.size)
      obtain ⟨U, hU⟩ : ∃ U, (w4.alloc (.cells #[.int .i64 c0.i, .slice Q1 c0.nl l1, .slice Q2 c0.na l2, .slice Q3 c0.nb l3, .slice Q4 c0.nc l4] 26)).drew = U := ⟨_, rfl⟩
      have hH : H3 w U w4.heap.size w3.heap.size c0 p0 ⟨Q1, Q2, Q3, Q4, l1, l2, l3, l4⟩ ⟨A1, A2, A3, A4, A5, k1, k2, k3, k4, k5⟩ := hU ▸ ⟨below_dn (hB4.alloc hB4.size _) 1, hA4.al _, Has.new w4 26 (cc c0 ⟨Q1, Q2, Q3, Q4, l1, l2, l3, l4⟩), hX4.al _, (hm4.to ((Below.refl _ _).alloc (Nat.le_refl _) _) (by simp)).keep (below_dn (Below.refl _ _) 1), (hr4.to ((Below.refl _ _).alloc (Nat.le_refl _) _) (by simp)).keep (below_dn (Below.refl _ _) 1)⟩
      have hRU : U.rowIs g 3 (N + 1) (fun v => .int .i64 (v : Int)) := hU ▸ (hR4.alloc _).drew
      clear hB1 hB2 hB3 hB4 hA1 hA2 hA3 hA4 hX4 hr3 hr4 hm4 hR4 hb1 hb2 hb3 hb4 hb4' hbx K0 R0 C0 G0
      refine wp_slots (fun f => Sz f 73 ∧ Slot f 1 (.pointer (some ⟨w.heap.size, 0, none⟩)) ∧ Slot f 2 (.bool false) ∧ Slot f 3 (.pointer (some ⟨w3.heap.size, 0, none⟩)) ∧ Slot f 4 (.int .i64 0) ∧ Slot f 5 (.pointer (some ⟨w4.heap.size, 0, none⟩)) ∧ Slot f 6 (.slice (some ⟨g, 0, none⟩) (N + 1) (N + 1)) ∧ Slot f 7 (.int .i64 0)) ⟨⟨rfl, rfl⟩, ⟨rfl⟩, ⟨rfl⟩, ⟨rfl⟩, ⟨rfl⟩, ⟨rfl⟩, ⟨rfl⟩, ⟨rfl⟩⟩ fun a0 hA0 hR => ?_
      obtain ⟨hZ, hs1, hs2, hs3, hs4, hs5, hs6, hs7⟩ := hR
      have HA := Lib.hid hA0
      clear hA0
      have hS0 := hH.s
      refine wp_region_T' hU (S3 w.heap.size w4.heap.size w3.heap.size c0 p0 ⟨Q1, Q2, Q3, Q4, l1, l2, l3, l4⟩ ⟨A1, A2, A3, A4, A5, k1, k2, k3, k4, k5⟩) 24 (by kernel_rfl) ?_
      refine WT.h ?_
      (refine wt_move 0 4 rfl rfl (by kernel_rfl) (by kernel_rfl) (by kernel_rfl) (by kernel_rfl) (fun _ _ _ h => h) rfl hS0 (by (repeat (first | (refine slot_hit (N := 73) ?_ (by rfl); (repeat (refine sz_put ?_)); assumption; done) | (apply slot_miss; focus rfl))); all_goals assumption) rfl ?_); (refine wt_take1 1 28 (v := ?_) rfl rfl (by kernel_rfl) (by kernel_rfl) (by kernel_rfl) (by kernel_rfl) (fun _ _ _ h => h) rfl hS0 (by (repeat (first | (refine slot_hit (N := 73) ?_ (by rfl); (repeat (refine sz_put ?_)); assumption; done) | (apply slot_miss; focus rfl))); all_goals assumption) (fun ev hk hv0 w hS => ?_) ?_; rotate_left; focus (obtain ⟨⟨j0, j1, j2, j3, j4⟩, ⟨m0, m1, m2, m3, m4⟩, n0, n1, n2, n3, n4, n5⟩ := hS; go_simp; rfl)); (refine wt_move 2 29 rfl rfl (by kernel_rfl) (by kernel_rfl) (by kernel_rfl) (by kernel_rfl) (fun _ _ _ h => h) rfl hS0 (by (repeat (first | (refine slot_hit (N := 73) ?_ (by rfl); (repeat (refine sz_put ?_)); assumption; done) | (apply slot_miss; focus rfl))); all_goals assumption) rfl ?_); (refine wt_move 3 7 rfl rfl (by kernel_rfl) (by kernel_rfl) (by kernel_rfl) (by kernel_rfl) (fun _ _ _ h => h) (wanted_of rfl rfl (by (repeat (first | (refine slot_hit (N := 73) ?_ (by rfl); (repeat (refine sz_put ?_)); assumption; done) | (apply slot_miss; focus rfl))); all_goals assumption) rfl) hS0 (by (repeat (first | (refine slot_hit (N := 73) ?_ (by rfl); (repeat (refine sz_put ?_)); assumption; done) | (apply slot_miss; focus rfl))); all_goals assumption) rfl ?_); (refine wt_take1 4 31 (v := ?_) rfl rfl (by kernel_rfl) (by kernel_rfl) (by kernel_rfl) (by kernel_rfl) (fun _ _ _ h => h) (wanted_of rfl rfl (by (repeat (first | (refine slot_hit (N := 73) ?_ (by rfl); (repeat (refine sz_put ?_)); assumption; done) | (apply slot_miss; focus rfl))); all_goals assumption) rfl) hS0 (by (repeat (first | (refine slot_hit (N := 73) ?_ (by rfl); (repeat (refine sz_put ?_)); assumption; done) | (apply slot_miss; focus rfl))); all_goals assumption) (fun ev hk hv0 w hS => ?_) ?_; rotate_left; focus (obtain ⟨⟨j0, j1, j2, j3, j4⟩, ⟨m0, m1, m2, m3, m4⟩, n0, n1, n2, n3, n4, n5⟩ := hS; go_simp; rfl)); (refine wt_take2 5 30 32 (v := ?_) rfl rfl (by kernel_rfl) (by kernel_rfl) (by kernel_rfl) (by kernel_rfl) (fun _ _ _ h => h) rfl hS0 (by (repeat (first | (refine slot_hit (N := 73) ?_ (by rfl); (repeat (refine sz_put ?_)); assumption; done) | (apply slot_miss; focus rfl))); all_goals assumption) (by (repeat (first | (refine slot_hit (N := 73) ?_ (by rfl); (repeat (refine sz_put ?_)); assumption; done) | (apply slot_miss; focus rfl))); all_goals assumption) (fun ev hk hv0 hv1 w hS => ?_) ?_; rotate_left; focus (obtain ⟨⟨j0, j1, j2, j3, j4⟩, ⟨m0, m1, m2, m3, m4⟩, n0, n1, n2, n3, n4, n5⟩ := hS; go_simp; rfl)); (refine wt_move 6 33 rfl rfl (by kernel_rfl) (by kernel_rfl) (by kernel_rfl) (by kernel_rfl) (fun _ _ _ h => h) rfl hS0 (by (repeat (first | (refine slot_hit (N := 73) ?_ (by rfl); (repeat (refine sz_put ?_)); assumption; done) | (apply slot_miss; focus rfl))); all_goals assumption) rfl ?_); (refine wt_take1 7 1 (v := ?_) rfl rfl (by kernel_rfl) (by kernel_rfl) (by kernel_rfl) (by kernel_rfl) (fun _ _ _ h => h) (wanted_of rfl rfl (by (repeat (first | (refine slot_hit (N := 73) ?_ (by rfl); (repeat (refine sz_put ?_)); assumption; done) | (apply slot_miss; focus rfl))); all_goals assumption) rfl) hS0 (by (repeat (first | (refine slot_hit (N := 73) ?_ (by rfl); (repeat (refine sz_put ?_)); assumption; done) | (apply slot_miss; focus rfl))); all_goals assumption) (fun ev hk hv0 w hS => ?_) ?_; rotate_left; focus (obtain ⟨⟨j0, j1, j2, j3, j4⟩, ⟨m0, m1, m2, m3, m4⟩, n0, n1, n2, n3, n4, n5⟩ := hS; go_simp; rfl)); (refine wt_take1 8 5 (v := ?_) rfl rfl (by kernel_rfl) (by kernel_rfl) (by kernel_rfl) (by kernel_rfl) (fun _ _ _ h => h) (wanted_of rfl rfl (by (repeat (first | (refine slot_hit (N := 73) ?_ (by rfl); (repeat (refine sz_put ?_)); assumption; done) | (apply slot_miss; focus rfl))); all_goals assumption) rfl) hS0 (by (repeat (first | (refine slot_hit (N := 73) ?_ (by rfl); (repeat (refine sz_put ?_)); assumption; done) | (apply slot_miss; focus rfl))); all_goals assumption) (fun ev hk hv0 w hS => ?_) ?_; rotate_left; focus (obtain ⟨⟨j0, j1, j2, j3, j4⟩, ⟨m0, m1, m2, m3, m4⟩, n0, n1, n2, n3, n4, n5⟩ := hS; go_simp; rfl))
      refine wt_call2 9 35 36 (by kernel_rfl) rfl rfl (wanted_of rfl rfl (by (repeat (first | (refine slot_hit (N := 73) ?_ (by rfl); (repeat (refine sz_put ?_)); assumption; done) | (apply slot_miss; focus rfl))); all_goals assumption) rfl) (by (repeat (first | (refine slot_hit (N := 73) ?_ (by rfl); (repeat (refine sz_put ?_)); assumption; done) | (apply slot_miss; focus rfl))); all_goals assumption) (by (repeat (first | (refine slot_hit (N := 73) ?_ (by rfl); (repeat (refine sz_put ?_)); assumption; done) | (apply slot_miss; focus rfl))); all_goals assumption) (f := ?_) (args := ?_) (fun ev hk hkf hv0 hv1 => ?_) ?_; rotate_left 2; focus (go_simp; first | rfl | (constructor <;> rfl))
      (with_reducible refine (same_self c0 p0 ⟨Q1, Q2, Q3, Q4, l1, l2, l3, l4⟩ U HS.out (HM.out.to hH.B hH.B.size) hH.m5).mono ?_)
      rintro e w5 ⟨rfl, hb5⟩
      have hH5 := hH.on hb5
      have hR5 := hRU.of_block (hb5.block g hRU.lt)
      clear hS0
      have hS0 := hH5.s
      refine ⟨_, rfl, fun _ => hS0, ?_⟩
      (refine wt_take1 10 37 (v := ?_) rfl rfl (by kernel_rfl) (by kernel_rfl) (by kernel_rfl) (by kernel_rfl) (fun _ _ _ h => h) (wanted_of rfl rfl (by (repeat (first | (refine slot_hit (N := 73) ?_ (by rfl); (repeat (refine sz_put ?_)); assumption; done) | (apply slot_miss; focus rfl))); all_goals assumption) rfl) hS0 (by (repeat (first | (refine slot_hit (N := 73) ?_ (by rfl); (repeat (refine sz_put ?_)); assumption; done) | (apply slot_miss; focus rfl))); all_goals assumption) (fun ev hk hv0 w hS => ?_) ?_; rotate_left; focus (obtain ⟨⟨j0, j1, j2, j3, j4⟩, ⟨m0, m1, m2, m3, m4⟩, n0, n1, n2, n3, n4, n5⟩ := hS; go_simp; rfl)); (refine wt_take2 11 34 38 (v := ?_) rfl rfl (by kernel_rfl) (by kernel_rfl) (by kernel_rfl) (by kernel_rfl) (fun _ _ _ h => h) rfl hS0 (by (repeat (first | (refine slot_hit (N := 73) ?_ (by rfl); (repeat (refine sz_put ?_)); assumption; done) | (apply slot_miss; focus rfl))); all_goals assumption) (by (repeat (first | (refine slot_hit (N := 73) ?_ (by rfl); (repeat (refine sz_put ?_)); assumption; done) | (apply slot_miss; focus rfl))); all_goals assumption) (fun ev hk hv0 hv1 w hS => ?_) ?_; rotate_left; focus (obtain ⟨⟨j0, j1, j2, j3, j4⟩, ⟨m0, m1, m2, m3, m4⟩, n0, n1, n2, n3, n4, n5⟩ := hS; go_simp; rfl)); (refine wt_move 12 39 rfl rfl (by kernel_rfl) (by kernel_rfl) (by kernel_rfl) (by kernel_rfl) (fun _ _ _ h => h) rfl hS0 (by (repeat (first | (refine slot_hit (N := 73) ?_ (by rfl); (repeat (refine sz_put ?_)); assumption; done) | (apply slot_miss; focus rfl))); all_goals assumption) rfl ?_); (refine wt_take1 13 3 (v := ?_) rfl rfl (by kernel_rfl) (by kernel_rfl) (by kernel_rfl) (by kernel_rfl) (fun _ _ _ h => h) (wanted_of rfl rfl (by (repeat (first | (refine slot_hit (N := 73) ?_ (by rfl); (repeat (refine sz_put ?_)); assumption; done) | (apply slot_miss; focus rfl))); all_goals assumption) rfl) hS0 (by (repeat (first | (refine slot_hit (N := 73) ?_ (by rfl); (repeat (refine sz_put ?_)); assumption; done) | (apply slot_miss; focus rfl))); all_goals assumption) (fun ev hk hv0 w hS => ?_) ?_; rotate_left; focus (obtain ⟨⟨j0, j1, j2, j3, j4⟩, ⟨m0, m1, m2, m3, m4⟩, n0, n1, n2, n3, n4, n5⟩ := hS; go_simp; rfl))
      refine wt_call1 14 41 (by kernel_rfl) rfl rfl (wanted_of rfl rfl (by (repeat (first | (refine slot_hit (N := 73) ?_ (by rfl); (repeat (refine sz_put ?_)); assumption; done) | (apply slot_miss; focus rfl))); all_goals assumption) rfl) (by (repeat (first | (refine slot_hit (N := 73) ?_ (by rfl); (repeat (refine sz_put ?_)); assumption; done) | (apply slot_miss; focus rfl))); all_goals assumption) (f := ?_) (args := ?_) (fun ev hk hkf hv0 => ?_) ?_; rotate_left 2; focus (go_simp; first | rfl | (constructor <;> rfl))
      (with_reducible refine (P0.out _ ⟨A1, A2, A3, A4, A5, k1, k2, k3, k4, k5⟩ hH5.m3 hn3).mono ?_)
      rintro e w6 ⟨rfl, hb6⟩
      have hH6 := hH5.on hb6
      have hR6 := hR5.of_block (hb6.block g hR5.lt)
      clear hS0
      have hS0 := hH6.s
      refine ⟨_, rfl, fun _ => hS0, ?_⟩
      (refine wt_take1 15 42 (v := ?_) rfl rfl (by kernel_rfl) (by kernel_rfl) (by kernel_rfl) (by kernel_rfl) (fun _ _ _ h => h) (wanted_of rfl rfl (by (repeat (first | (refine slot_hit (N := 73) ?_ (by rfl); (repeat (refine sz_put ?_)); assumption; done) | (apply slot_miss; focus rfl))); all_goals assumption) rfl) hS0 (by (repeat (first | (refine slot_hit (N := 73) ?_ (by rfl); (repeat (refine sz_put ?_)); assumption; done) | (apply slot_miss; focus rfl))); all_goals assumption) (fun ev hk hv0 w hS => ?_) ?_; rotate_left; focus (obtain ⟨⟨j0, j1, j2, j3, j4⟩, ⟨m0, m1, m2, m3, m4⟩, n0, n1, n2, n3, n4, n5⟩ := hS; go_simp; rfl)); (refine wt_take2 16 40 43 (v := ?_) rfl rfl (by kernel_rfl) (by kernel_rfl) (by kernel_rfl) (by kernel_rfl) (fun _ _ _ h => h) rfl hS0 (by (repeat (first | (refine slot_hit (N := 73) ?_ (by rfl); (repeat (refine sz_put ?_)); assumption; done) | (apply slot_miss; focus rfl))); all_goals assumption) (by (repeat (first | (refine slot_hit (N := 73) ?_ (by rfl); (repeat (refine sz_put ?_)); assumption; done) | (apply slot_miss; focus rfl))); all_goals assumption) (fun ev hk hv0 hv1 w hS => ?_) ?_; rotate_left; focus (obtain ⟨⟨j0, j1, j2, j3, j4⟩, ⟨m0, m1, m2, m3, m4⟩, n0, n1, n2, n3, n4, n5⟩ := hS; go_simp; rfl)); (refine wt_move 17 44 rfl rfl (by kernel_rfl) (by kernel_rfl) (by kernel_rfl) (by kernel_rfl) (fun _ _ _ h => h) rfl hS0 (by (repeat (first | (refine slot_hit (N := 73) ?_ (by rfl); (repeat (refine sz_put ?_)); assumption; done) | (apply slot_miss; focus rfl))); all_goals assumption) rfl ?_); (refine wt_take1 18 3 (v := ?_) rfl rfl (by kernel_rfl) (by kernel_rfl) (by kernel_rfl) (by kernel_rfl) (fun _ _ _ h => h) (wanted_of rfl rfl (by (repeat (first | (refine slot_hit (N := 73) ?_ (by rfl); (repeat (refine sz_put ?_)); assumption; done) | (apply slot_miss; focus rfl))); all_goals assumption) rfl) hS0 (by (repeat (first | (refine slot_hit (N := 73) ?_ (by rfl); (repeat (refine sz_put ?_)); assumption; done) | (apply slot_miss; focus rfl))); all_goals assumption) (fun ev hk hv0 w hS => ?_) ?_; rotate_left; focus (obtain ⟨⟨j0, j1, j2, j3, j4⟩, ⟨m0, m1, m2, m3, m4⟩, n0, n1, n2, n3, n4, n5⟩ := hS; go_simp; rfl)); (refine wt_take1 19 46 (v := ?_) rfl rfl (by kernel_rfl) (by kernel_rfl) (by kernel_rfl) (by kernel_rfl) (fun _ _ _ h => h) (wanted_of rfl rfl (by (repeat (first | (refine slot_hit (N := 73) ?_ (by rfl); (repeat (refine sz_put ?_)); assumption; done) | (apply slot_miss; focus rfl))); all_goals assumption) rfl) hS0 (by (repeat (first | (refine slot_hit (N := 73) ?_ (by rfl); (repeat (refine sz_put ?_)); assumption; done) | (apply slot_miss; focus rfl))); all_goals assumption) (fun ev hk hv0 w hS => ?_) ?_; rotate_left; focus (obtain ⟨⟨j0, j1, j2, j3, j4⟩, ⟨m0, m1, m2, m3, m4⟩, n0, n1, n2, n3, n4, n5⟩ := hS; go_simp; rfl)); (refine wt_take1 20 1 (v := ?_) rfl rfl (by kernel_rfl) (by kernel_rfl) (by kernel_rfl) (by kernel_rfl) (fun _ _ _ h => h) (wanted_of rfl rfl (by (repeat (first | (refine slot_hit (N := 73) ?_ (by rfl); (repeat (refine sz_put ?_)); assumption; done) | (apply slot_miss; focus rfl))); all_goals assumption) rfl) hS0 (by (repeat (first | (refine slot_hit (N := 73) ?_ (by rfl); (repeat (refine sz_put ?_)); assumption; done) | (apply slot_miss; focus rfl))); all_goals assumption) (fun ev hk hv0 w hS => ?_) ?_; rotate_left; focus (obtain ⟨⟨j0, j1, j2, j3, j4⟩, ⟨m0, m1, m2, m3, m4⟩, n0, n1, n2, n3, n4, n5⟩ := hS; go_simp; rfl))
      refine wt_call1 21 48 (by kernel_rfl) rfl rfl (wanted_of rfl rfl (by (repeat (first | (refine slot_hit (N := 73) ?_ (by rfl); (repeat (refine sz_put ?_)); assumption; done) | (apply slot_miss; focus rfl))); all_goals assumption) rfl) (by (repeat (first | (refine slot_hit (N := 73) ?_ (by rfl); (repeat (refine sz_put ?_)); assumption; done) | (apply slot_miss; focus rfl))); all_goals assumption) (f := ?_) (args := ?_) (fun ev hk hkf hv0 => ?_) ?_; rotate_left 2; focus (go_simp; first | rfl | (constructor <;> rfl))
      (with_reducible refine (S0.out _).mono ?_)
      rintro e w7 ⟨rfl, hb7⟩
      have hH7 := hH6.on hb7
      have hR7 := hR6.of_block (hb7.block g hR6.lt)
      clear hS0
      have hS0 := hH7.s
      refine ⟨_, rfl, fun _ => hS0, ?_⟩
      (refine wt_take2 22 47 49 (v := ?_) rfl rfl (by kernel_rfl) (by kernel_rfl) (by kernel_rfl) (by kernel_rfl) (fun _ _ _ h => h) (wanted_of rfl rfl (by (repeat (first | (refine slot_hit (N := 73) ?_ (by rfl); (repeat (refine sz_put ?_)); assumption; done) | (apply slot_miss; focus rfl))); all_goals assumption) rfl) hS0 (by (repeat (first | (refine slot_hit (N := 73) ?_ (by rfl); (repeat (refine sz_put ?_)); assumption; done) | (apply slot_miss; focus rfl))); all_goals assumption) (by (repeat (first | (refine slot_hit (N := 73) ?_ (by rfl); (repeat (refine sz_put ?_)); assumption; done) | (apply slot_miss; focus rfl))); all_goals assumption) (fun ev hk hv0 hv1 w hS => ?_) ?_; rotate_left; focus (obtain ⟨⟨j0, j1, j2, j3, j4⟩, ⟨m0, m1, m2, m3, m4⟩, n0, n1, n2, n3, n4, n5⟩ := hS; go_simp; rfl)); (refine wt_take2 23 45 50 (v := ?_) rfl rfl (by kernel_rfl) (by kernel_rfl) (by kernel_rfl) (by kernel_rfl) (fun _ _ _ h => h) rfl hS0 (by (repeat (first | (refine slot_hit (N := 73) ?_ (by rfl); (repeat (refine sz_put ?_)); assumption; done) | (apply slot_miss; focus rfl))); all_goals assumption) (by (repeat (first | (refine slot_hit (N := 73) ?_ (by rfl); (repeat (refine sz_put ?_)); assumption; done) | (apply slot_miss; focus rfl))); all_goals assumption) (fun ev hk hv0 hv1 w hS => ?_) ?_; rotate_left; focus (obtain ⟨⟨j0, j1, j2, j3, j4⟩, ⟨m0, m1, m2, m3, m4⟩, n0, n1, n2, n3, n4, n5⟩ := hS; go_simp; rfl))
      refine wt_known (N := 73) (by kernel_rfl) (by (repeat (refine sz_put ?_)); assumption) [(1, .pointer (some ⟨w.heap.size, 0, none⟩)), (2, .bool false), (3, .pointer (some ⟨w3.heap.size, 0, none⟩)), (4, .int .i64 0), (5, .pointer (some ⟨w4.heap.size, 0, none⟩)), (6, .slice (some ⟨g, 0, none⟩) (N + 1) (N + 1)), (7, .int .i64 0), (51, .bool false)] ⟨(by (repeat (first | (refine slot_hit (N := 73) ?_ (by rfl); (repeat (refine sz_put ?_)); assumption; done) | (apply slot_miss; focus rfl))); all_goals assumption), (by (repeat (first | (refine slot_hit (N := 73) ?_ (by rfl); (repeat (refine sz_put ?_)); assumption; done) | (apply slot_miss; focus rfl))); all_goals assumption), (by (repeat (first | (refine slot_hit (N := 73) ?_ (by rfl); (repeat (refine sz_put ?_)); assumption; done) | (apply slot_miss; focus rfl))); all_goals assumption), (by (repeat (first | (refine slot_hit (N := 73) ?_ (by rfl); (repeat (refine sz_put ?_)); assumption; done) | (apply slot_miss; focus rfl))); all_goals assumption), (by (repeat (first | (refine slot_hit (N := 73) ?_ (by rfl); (repeat (refine sz_put ?_)); assumption; done) | (apply slot_miss; focus rfl))); all_goals assumption), (by (repeat (first | (refine slot_hit (N := 73) ?_ (by rfl); (repeat (refine sz_put ?_)); assumption; done) | (apply slot_miss; focus rfl))); all_goals assumption), (by (repeat (first | (refine slot_hit (N := 73) ?_ (by rfl); (repeat (refine sz_put ?_)); assumption; done) | (apply slot_miss; focus rfl))); all_goals assumption), (by (repeat (first | (refine slot_hit (N := 73) ?_ (by rfl); (repeat (refine sz_put ?_)); assumption; done) | (apply slot_miss; focus rfl))); all_goals assumption), trivial⟩ fun fv fl hfl => ?_; obtain rfl : fl = [fv 0, (.pointer (some ⟨w.heap.size, 0, none⟩) : Value), (.bool false : Value), (.pointer (some ⟨w3.heap.size, 0, none⟩) : Value), (.int .i64 0 : Value), (.pointer (some ⟨w4.heap.size, 0, none⟩) : Value), (.slice (some ⟨g, 0, none⟩) (N + 1) (N + 1) : Value), (.int .i64 0 : Value), fv 8, fv 9, fv 10, fv 11, fv 12, fv 13, fv 14, fv 15, fv 16, fv 17, fv 18, fv 19, fv 20, fv 21, fv 22, fv 23, fv 24, fv 25, fv 26, fv 27, fv 28, fv 29, fv 30, fv 31, fv 32, fv 33, fv 34, fv 35, fv 36, fv 37, fv 38, fv 39, fv 40, fv 41, fv 42, fv 43, fv 44, fv 45, fv 46, fv 47, fv 48, fv 49, fv 50, (.bool false : Value), fv 52, fv 53, fv 54, fv 55, fv 56, fv 57, fv 58, fv 59, fv 60, fv 61, fv 62, fv 63, fv 64, fv 65, fv 66, fv 67, fv 68, fv 69, fv 70, fv 71, fv 72] := hfl.symm.trans (by kernel_rfl); clear hfl
      clear hS0 hZ HA hH5 hH6 hR5 hR6 hH hRU hb5 hb6 hb7 hs1 hs2 hs3 hs4 hs5 hs6 hs7
      have hB7 := hH7.B
      have c30 : w7.cell? ⟨w3.heap.size, 0, none⟩ = some (.int .i64 c0.sz) := hH7.h3.cell 0
      have hNe : ((N + 1 : Nat) : Int) = c0.sz + 1 := by have := HSZ.out; omega
      go_wp2
      go_loopw [8] (fun i wr => ∃ t : Nat, t ≤ N + 1 ∧ i = .int .i64 t ∧ w7 = wr) (fun i _ => N + 1 - (intOf i).toNat)
      case atStart => exact ⟨0, Nat.zero_le _, rfl, rfl⟩
      case round =>
        obtain ⟨t, ht, rfl, rfl⟩ := hrel
        by_cases htl : t < N + 1
        · have i1 : (0 : Int) ≤ (t : Int) := by omega
          have i2 : (t : Int) < ((N + 1 : Nat) : Int) := by omega
          have i3 : (t : Int) < (N : Int) + 1 := by omega
          have y0 := hR7.cell htl
          clear hNe
          go_wp2
          go_roundw
          case rel => exact ⟨t + 1, by omega, by go_num, trivial⟩
          case measure => simp [intOf]; omega
        · have i2 : ¬ (t : Int) < ((N + 1 : Nat) : Int) := by omega
          have i3 : ¬ (t : Int) < (N : Int) + 1 := by omega
          have hws : IntKind.i64.wrap (c0.sz + 1) = c0.sz + 1 := IntWalk.i64_in _ (by omega)
          have heq : (((N : Int) + 1) == c0.sz + 1) = true := by simp; omega
          clear htl ht hNe
          go_wp2_with (go_at_call 16; (with_reducible refine (AL.out _).mono ?_); rintro e w8 ⟨rfl, hb8⟩; have hB8 := Below.step hB7 hB7.size hb8)
          go_ret
          exact ⟨by simp, hB8⟩
    · have hk' : (c0.chk != 0) = true := by simpa using hk
      have K0 : Hid (∀ W, Below w.heap.size w W → Calls Try.prog 26 #[cv c0 p0] W fun e w' => e = .returned (.int .i64 c0.chk) ∧ Below W.heap.size W w') := fun W hb => rCheck_any c0 p0 W (HM.out.to hb hb.size) HS.out
      clear hk hgr hg hv0 hm0 hN0 hC0
      go_enter Try.func6, Try.ntmps6
      go_wp2_with (go_at_call 25; (with_reducible refine (G0.out _).mono ?_); rintro e w1 ⟨rfl, hb1⟩; have hB1 : Below w.heap.size w w1 := Below.step (by go_grown) (by go_size) hb1; have hA1 : Has w1 w.heap.size 26 (cc c0 p0) := (Has.new w 26 (cc c0 p0)).keep hb1 (by simp); obtain ⟨x0, x1, x2, x3, x4⟩ := hA1.box)
      go_wp2_with (go_at_call 26; (with_reducible refine (K0.out _ hB1).mono ?_); rintro e w2 ⟨rfl, hb2⟩; have hB2 := Below.step hB1 hB1.size hb2)
      go_wp2_with (go_at_call 16; (with_reducible refine (AL.out _).mono ?_); rintro e w3 ⟨rfl, hb3⟩; have hB3 := Below.step hB2 hB2.size hb3)
      go_ret
      exact ⟨rfl, hB3⟩
  · go_enter Try.func6, Try.ntmps6
    go_wp2_with (go_at_call 25; refine (rGreat_any c0 p0 _).mono ?_; rintro e w1 ⟨rfl, hb1⟩; have hB1 : Below w.heap.size w w1 := Below.step (by go_grown) (by go_size) hb1)
    go_wp2_with (go_at_call 16; refine (AL.out _).mono ?_; rintro e w2 ⟨rfl, hb2⟩; have hB2 := Below.step hB1 hB1.size hb2)
    go_ret
    exact ⟨rfl, hB2⟩

set_option maxRecDepth 100000 in
theorem lifted (os : Os) (started : os.Started) (H : Type) (enc : TypeId × Value → H) :
    ReturnsInHanded {} Try.checked os 6 .any (Rows.orderSameSpec.pre6 enc Try.prog Try.f6 Rows.orderSameRow.domain false) (Rows.orderSameSpec.post enc Try.prog Try.f6 false true false false) := by
  refine returnsInHanded_of_change (C := Try.checked) own started (by kernel_rfl) Try.func6
    (ChangeSpec.witness6 (enc := enc) (C := Try.checked) false ⟨#[], #[.agg #[.int .i64 0, .slice none 0 0, .slice none 0 0, .slice none 0 0, .slice none 0 0]], []⟩ 12 (by kernel_rfl) (by kernel_rfl) (by kernel_rfl) (by kernel_rfl)) ?_
  intro W base args ds gs before hval0 hW hcnd _
  have hval : ∀ (j : Nat) t v, Try.f6.params[j]? = some t → args[j]? = some v → Value.okWide Try.prog W .any base t v := hval0
  have hW' := hW
  have hlt : ∀ x ∈ before, x.block < W.heap.size := fun x hx => by simpa using hW'.lt x hx
  obtain ⟨p, q, hA0, hV, rfl, hfz, hnd⟩ := hW
  have hA : DataW.TrodAll enc Try.prog W 0 (fun _ => true) true Try.f6.params.toList args.toList ds p := hA0
  rw [Try.params6] at hA hval
  obtain ⟨v0, vs0, d0, ds0, b0, q0, hargs, rfl, rfl, h0, r0⟩ := trodAll_cons hA
  obtain ⟨rfl, rfl, rfl⟩ := trodAll_nil r0
  obtain rfl : args = #[v0] := by cases args; simp_all
  obtain ⟨rfl, rfl⟩ := trodVars_none hV
  obtain ⟨c0, p0, rfl, hm0, hN0, hv0, hC0⟩ := open_circ (hval 0 26 v0 rfl rfl) h0
  have hlo : laidOutB Try.prog = true := by kernel_rfl
  clear hA0 hval0
  simp only [List.append_nil] at hW' hlt
  refine (walk c0 p0 W hm0 hN0 hv0 hC0).mono fun e W' ⟨he, hb⟩ => ?_
  subst he
  have hback := (trodAll_cons_mk (arg_back (W' := W') hlo (by kernel_rfl) (of_decide_eq_true (by kernel_rfl)) h0 hb (fun x hx => hlt x (by simp [hx]))) trodAll_mk0)
  simp only [List.append_nil, List.nil_append] at hback
  exact ⟨_, rfl, law_post hW' (trodAll_cons_mk (shut_bool Try.underlying4 _) trodAll_mk0) hback rfl hb⟩

theorem over : Rows.orderSameRow.holds Try.pinned (OpenSpec.ofChange Rows.orderSameSpec) :=
  OpenClaim.holds_of_wide 6 Try.f6 rfl rfl rfl rfl rfl rfl rfl ⟨rfl, rfl, rfl, rfl, rfl⟩ rfl rfl rfl rfl rfl (by kernel_rfl) Try.func6 (by kernel_rfl)
    (of_decide_eq_true (by kernel_rfl)) (by unfold Func.isWrapper; first | (rw [if_pos (by decide +kernel)]; kernel_rfl) | (rw [if_neg (by decide +kernel)]; exact ⟨rfl, rfl⟩))
    (fun os started H enc _ => lifted os started H enc)

theorem proved : Rows.OrderSameSaid :=
  over
end Go.Proofs.Ytmholdmcmbbdgaa.orderSame
