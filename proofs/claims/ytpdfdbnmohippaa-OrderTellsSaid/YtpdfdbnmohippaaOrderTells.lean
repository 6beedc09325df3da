/- For all raw circuits that are not great: the circuit, the new variables and the errors are the reference's, and nothing is changed. No conditions. -/
import Derived.Test.YtpdfdbnmohippaaOrderFrame
import Derived.Test.YtpdfdbnmohippaaOrderAll
import Derived.Test.YtpdfdbnmohippaaOrderTwin
import Derived.Test.YtpdfdbnmohippaaHeadTail
namespace Go.Proofs.Ytpdfdbnmohippaa.orderTells
open Go.ChangeShapes Go.WideShapes Go.ChangeAt Go.RowKit
set_option linter.unusedVariables false
set_option linter.unusedSimpArgs false


theorem own : ownKnob Try.prog.godebug = none := by kernel_rfl

set_option maxRecDepth 100000 in
set_option maxHeartbeats 40000000 in
theorem walk (c0 : Rw) (p0 : Rp) (w : World) (hm0 : RMem w w.heap.size c0 p0) (hN0 : RNils c0 p0) (hv0 : RVals c0) (hC0 : RCaps c0 p0) :
    Calls Try.prog 4 #[rv c0 p0] w fun e w' => e = .returned (.bool true) ∧ Below w.heap.size w w' := by
  have HM := Lib.hid hm0
  have HN := Lib.hid hN0
  cases hg : c0.gr
  · have hs : RSm c0 := hv0.sm hg
    have HS := Lib.hid hs
    have G0 : Hid (∀ W, Calls Try.prog 16 #[rv c0 p0] W fun e w' => e = .returned (.bool false) ∧ Below W.heap.size W w') := fun W => by have := oGreat_any c0 p0 W; rwa [hg] at this
    have TW : Hid (∀ W, Below w.heap.size w W → Calls Try.prog 17 #[rv c0 p0] W fun e w' => ∃ p', e = .returned (rv c0 p') ∧ OwnR w' (W.heap.size + 2) c0 p' ∧ Below W.heap.size W w') := fun W hb => rtwin_any c0 p0 W hs (HM.out.to hb hb.size) HN.out
    have SC := Lib.hid c0.oc_sm
    have NL := Lib.hid c0.on_le
    obtain ⟨K, hK⟩ : ∃ K, c0.chk = K := ⟨_, rfl⟩
    obtain ⟨C, hC⟩ : ∃ C, c0.oc = C := ⟨_, rfl⟩
    obtain ⟨N, hN⟩ : ∃ N, c0.on = N := ⟨_, rfl⟩
    have C1 : Hid (∀ W p, RMem W W.heap.size c0 p → RNils c0 p → Calls Try.prog 9 #[rv c0 p] W fun e w' => ∃ (p' : Pl) (A : Option Addr) (k : Nat), e = .returned (.tuple #[cv C p', .slice A N k, .int .i64 K]) ∧ Mem w' w'.heap.size C p' ∧ IntsAt w' w'.heap.size A N (fun v => c0.nw (v : Int)) ∧ Below W.heap.size W w') := fun W p hm hn => by rw [← hK, ← hC, ← hN]; exact circ_all c0 p W HS.out hm hn
    have C2 : Hid (∀ W, Below w.heap.size w W → Calls Try.prog 18 #[rv c0 p0] W fun e w' => ∃ (p' : Pl) (A : Option Addr) (k : Nat), e = .returned (.tuple #[cv C p', .slice A N k, .int .i64 K]) ∧ Mem w' w'.heap.size C p' ∧ IntsAt w' w'.heap.size A N (fun v => c0.nw (v : Int)) ∧ Below W.heap.size W w') := fun W hb => by rw [← hK, ← hC, ← hN]; exact rcirc_all c0 p0 W HS.out (HM.out.to hb hb.size) HN.out
    have K1 : Hid (∀ W p, RMem W W.heap.size c0 p → RNils c0 p → Calls Try.prog 13 #[rv c0 p] W fun e w' => e = .returned (.int .i64 K) ∧ Below W.heap.size W w') := fun W p hm hn => by rw [← hK]; exact pCheck_any c0 p W HS.out hm hn
    have K2 : Hid (∀ W, Below w.heap.size w W → Calls Try.prog 19 #[rv c0 p0] W fun e w' => e = .returned (.int .i64 K) ∧ Below W.heap.size W w') := fun W hb => by rw [← hK]; exact oRCheck_any c0 p0 W HS.out (HM.out.to hb hb.size) HN.out
    rw [hC] at SC
    rw [hN] at NL
    clear hK hC hN hs hm0 hN0 hv0 hC0 hg
    go_enter Try.func4, Try.ntmps4
    go_wp2_with (go_at_call 16; (with_reducible refine (G0.out _).mono ?_); rintro e w1 ⟨rfl, hb1⟩; have hB1 : Below w.heap.size w w1 := Below.step (by go_grown) (by go_size) hb1; have hA1 : Has w1 w.heap.size 32 (rc c0 p0) := (Has.new w 32 (rc c0 p0)).keep hb1 (by simp); obtain ⟨x0, x1, x2, x3, x4, x5⟩ := hA1.rbox)
    go_wp2_with (go_at_call 17; (with_reducible refine (TW.out _ hB1).mono ?_); rintro e w2 ⟨⟨P1, P2, P3, P4, P5, k1, k2, k3, k4, k5⟩, rfl, hO2, hb2⟩; have hB2 := Below.step hB1 hB1.size hb2; have HM2 := Lib.hid hO2.mem; have HN2 := Lib.hid hO2.nils; clear hO2; have hA2 : Has w2 w.heap.size 32 (rc c0 p0) := hA1.keep hb2 hA1.lt)
    have hb2x : Below w2.heap.size w2 (w2.alloc (.cells #[.int .i64 c0.m, .slice P1 c0.ni k1, .slice P2 c0.nl k2, .slice P3 c0.na k3, .slice P4 c0.nb k4, .slice P5 c0.nc k5] 32)) := (Below.refl _ _).alloc (Nat.le_refl _) _
    have hB2x := Below.step hB2 hB2.size hb2x
    have HM2x := Lib.hid (HM2.out.to hb2x hb2x.size)
    have hA2x := hA2.keep hb2x hA2.lt
    have hO2x : Has (w2.alloc (.cells #[.int .i64 c0.m, .slice P1 c0.ni k1, .slice P2 c0.nl k2, .slice P3 c0.na k3, .slice P4 c0.nb k4, .slice P5 c0.nc k5] 32)) w2.heap.size 32 (rc c0 ⟨P1, P2, P3, P4, P5, k1, k2, k3, k4, k5⟩) := Has.new w2 32 (rc c0 ⟨P1, P2, P3, P4, P5, k1, k2, k3, k4, k5⟩)
    clear x0 x1 x2 x3 x4 x5
    go_wp2_with (go_at_call 9; (with_reducible refine (C1.out _ ⟨P1, P2, P3, P4, P5, k1, k2, k3, k4, k5⟩ HM2x.out HN2.out).mono ?_); rintro e w3 ⟨⟨Q1, Q2, Q3, Q4, l1, l2, l3, l4⟩, A5, k5', rfl, hm3, hi3, hb3⟩; have hB3 := Below.step hB2x hB2x.size hb3; have HM3 := Lib.hid (HM2x.out.to hb3 hb3.size); have hA3 := hA2x.keep hb3 hA2x.lt; have hO3 := hO2x.keep hb3 hO2x.lt; have hz3 := hA3.lt; obtain ⟨x0, x1, x2, x3, x4, x5⟩ := hA3.rbox)
    have hb3x : Below w3.heap.size w3 (w3.alloc (.cells #[.int .i64 C.i, .slice Q1 C.nl l1, .slice Q2 C.na l2, .slice Q3 C.nb l3, .slice Q4 C.nc l4] 26)) := (Below.refl _ _).alloc (Nat.le_refl _) _
    have hB3x := Below.step hB3 hB3.size hb3x
    have HM3x := Lib.hid (HM3.out.to hb3x hb3x.size)
    have hA3x := hA3.keep hb3x hA3.lt
    have hO3x := hO3.keep hb3x hO3.lt
    have hm3x := hm3.to hb3x hb3x.size
    have hi3x := hi3.to hb3x hb3x.size
    have hU3x : Has (w3.alloc (.cells #[.int .i64 C.i, .slice Q1 C.nl l1, .slice Q2 C.na l2, .slice Q3 C.nb l3, .slice Q4 C.nc l4] 26)) w3.heap.size 26 (cc C ⟨Q1, Q2, Q3, Q4, l1, l2, l3, l4⟩) := Has.new w3 26 (cc C ⟨Q1, Q2, Q3, Q4, l1, l2, l3, l4⟩)
    clear hb2 hb2x hB2 hA2 hA2x hO2x hB2x hb1 hB1 hA1
    go_wp2_with (go_at_call 18; (with_reducible refine (C2.out _ hB3x).mono ?_); rintro e w4 ⟨⟨R1, R2, R3, R4, m1, m2, m3, m4⟩, A8, k8, rfl, hm4, hi4, hb4⟩; have hB4 := Below.step hB3x hB3x.size hb4; have HM4 := Lib.hid (HM3x.out.to hb4 hb4.size); have hA4 := hA3x.keep hb4 hA3x.lt; have hO4 := hO3x.keep hb4 hO3x.lt; have hU4 := hU3x.keep hb4 hU3x.lt; have hmu4 := hm3x.to hb4 hb4.size; have hiu4 := hi3x.to hb4 hb4.size; clear x0 x1 x2 x3 x4 x5)
    have hb4x : Below w4.heap.size w4 (w4.alloc (.cells #[.int .i64 C.i, .slice R1 C.nl m1, .slice R2 C.na m2, .slice R3 C.nb m3, .slice R4 C.nc m4] 26)).drew := below_dn ((Below.refl _ _).alloc (Nat.le_refl _) _) 1
    obtain ⟨U, hU⟩ : ∃ U, (w4.alloc (.cells #[.int .i64 C.i, .slice R1 C.nl m1, .slice R2 C.na m2, .slice R3 C.nb m3, .slice R4 C.nc m4] 26)).drew = U := ⟨_, rfl⟩
    rw [hU] at hb4x
    have hH : H4 w U w2.heap.size w3.heap.size w4.heap.size c0 c0 p0 ⟨P1, P2, P3, P4, P5, k1, k2, k3, k4, k5⟩ C C ⟨Q1, Q2, Q3, Q4, l1, l2, l3, l4⟩ ⟨R1, R2, R3, R4, m1, m2, m3, m4⟩ A5 A8 N N (fun v => c0.nw (v : Int)) (fun v => c0.nw (v : Int)) :=
      ⟨Below.step hB4 hB4.size hb4x, hA4.keep hb4x hA4.lt, hO4.keep hb4x hO4.lt, hU4.keep hb4x hU4.lt, (hU ▸ (show Has (w4.alloc (.cells #[.int .i64 C.i, .slice R1 C.nl m1, .slice R2 C.na m2, .slice R3 C.nb m3, .slice R4 C.nc m4] 26)).drew w4.heap.size 26 (cc C ⟨R1, R2, R3, R4, m1, m2, m3, m4⟩) from Has.new w4 26 (cc C ⟨R1, R2, R3, R4, m1, m2, m3, m4⟩))), HM4.out.to hb4x hb4x.size, hmu4.to hb4x hb4x.size, hm4.to hb4x hb4x.size, hiu4.to hb4x hb4x.size, hi4.to hb4x hb4x.size⟩
    clear hB3 hB3x hB4 hA3 hA3x hA4 hO3 hO3x hO4 hU3x hU4 hm3 hm3x hmu4 hm4 hi3 hi3x hiu4 hi4 hb3 hb3x hb4 hb4x HM2 HM2x HM3 HM3x HM4 TW G0 C1 C2
    refine wp_slots (fun f => Sz f 51 ∧ Slot f 1 (.pointer (some ⟨w.heap.size, 0, none⟩)) ∧ Slot f 2 (.bool false) ∧ Slot f 3 (.pointer (some ⟨w2.heap.size, 0, none⟩)) ∧ Slot f 4 (.pointer (some ⟨w3.heap.size, 0, none⟩)) ∧ Slot f 5 (.slice A5 N k5') ∧ Slot f 6 (.int .i64 K) ∧ Slot f 7 (.pointer (some ⟨w4.heap.size, 0, none⟩)) ∧ Slot f 8 (.slice A8 N k8) ∧ Slot f 9 (.int .i64 K)) ⟨⟨rfl, rfl⟩, ⟨rfl⟩, ⟨rfl⟩, ⟨rfl⟩, ⟨rfl⟩, ⟨rfl⟩, ⟨rfl⟩, ⟨rfl⟩, ⟨rfl⟩, ⟨rfl⟩⟩ fun a0 hA0 hR => ?_
    obtain ⟨hZ, hs1, hs2, hs3, hs4, hs5, hs6, hs7, hs8, hs9⟩ := hR
    have HA := Lib.hid hA0
    clear hA0
    have hS0 := hH.ss
    refine wp_region_T' hU (S4 w.heap.size w2.heap.size w3.heap.size w4.heap.size c0 c0 p0 ⟨P1, P2, P3, P4, P5, k1, k2, k3, k4, k5⟩ C C ⟨Q1, Q2, Q3, Q4, l1, l2, l3, l4⟩ ⟨R1, R2, R3, R4, m1, m2, m3, m4⟩) 26 (by kernel_rfl) ?_
    refine WT.h ?_
    (refine wt_take1 0 3 (v := ?_) rfl rfl (by kernel_rfl) (by kernel_rfl) (by kernel_rfl) (by kernel_rfl) (fun _ _ _ h => h) rfl hS0 (by (repeat (first | (refine slot_hit (N := 51) ?_ (by rfl); (repeat (refine sz_put ?_)); assumption; done) | (apply slot_miss; focus rfl))); all_goals assumption) (fun ev hk hv0 w hS => ?_) ?_; rotate_left; focus (obtain ⟨⟨r0, r1, r2, r3, r4, r5⟩, ⟨j0, j1, j2, j3, j4, j5⟩, ⟨u0, u1, u2, u3, u4⟩, v0, v1, v2, v3, v4⟩ := hS; go_simp; rfl)); (refine wt_take1 2 1 (v := ?_) rfl rfl (by kernel_rfl) (by kernel_rfl) (by kernel_rfl) (by kernel_rfl) (fun _ _ _ h => h) rfl hS0 (by (repeat (first | (refine slot_hit (N := 51) ?_ (by rfl); (repeat (refine sz_put ?_)); assumption; done) | (apply slot_miss; focus rfl))); all_goals assumption) (fun ev hk hv0 w hS => ?_) ?_; rotate_left; focus (obtain ⟨⟨r0, r1, r2, r3, r4, r5⟩, ⟨j0, j1, j2, j3, j4, j5⟩, ⟨u0, u1, u2, u3, u4⟩, v0, v1, v2, v3, v4⟩ := hS; go_simp; rfl))
    refine wt_call1 1 26 (by kernel_rfl) rfl rfl rfl (by (repeat (first | (refine slot_hit (N := 51) ?_ (by rfl); (repeat (refine sz_put ?_)); assumption; done) | (apply slot_miss; focus rfl))); all_goals assumption) (f := ?_) (args := ?_) (fun ev hk hkf hv0 => ?_) ?_; rotate_left 2; focus (go_simp; first | rfl | (constructor <;> rfl))
    (with_reducible refine (K1.out _ ⟨P1, P2, P3, P4, P5, k1, k2, k3, k4, k5⟩ hH.m3 HN2.out).mono ?_)
    rintro e w5 ⟨rfl, hb5⟩
    have hH5 := hH.on hb5
    clear hS0
    have hS0 := hH5.ss
    refine ⟨_, rfl, fun _ => hS0, ?_⟩
    refine wt_call1 3 28 (by kernel_rfl) rfl rfl rfl (by (repeat (first | (refine slot_hit (N := 51) ?_ (by rfl); (repeat (refine sz_put ?_)); assumption; done) | (apply slot_miss; focus rfl))); all_goals assumption) (f := ?_) (args := ?_) (fun ev hk hkf hv0 => ?_) ?_; rotate_left 2; focus (go_simp; first | rfl | (constructor <;> rfl))
    (with_reducible refine (K2.out _ hH5.B).mono ?_)
    rintro e w6 ⟨rfl, hb6⟩
    have hH6 := hH5.on hb6
    clear hS0
    have hS0 := hH6.ss
    refine ⟨_, rfl, fun _ => hS0, ?_⟩
    (refine wt_take2 4 27 29 (v := ?_) rfl rfl (by kernel_rfl) (by kernel_rfl) (by kernel_rfl) (by kernel_rfl) (fun _ _ _ h => h) rfl hS0 (by (repeat (first | (refine slot_hit (N := 51) ?_ (by rfl); (repeat (refine sz_put ?_)); assumption; done) | (apply slot_miss; focus rfl))); all_goals assumption) (by (repeat (first | (refine slot_hit (N := 51) ?_ (by rfl); (repeat (refine sz_put ?_)); assumption; done) | (apply slot_miss; focus rfl))); all_goals assumption) (fun ev hk hv0 hv1 w hS => ?_) ?_; rotate_left; focus (obtain ⟨⟨r0, r1, r2, r3, r4, r5⟩, ⟨j0, j1, j2, j3, j4, j5⟩, ⟨u0, u1, u2, u3, u4⟩, v0, v1, v2, v3, v4⟩ := hS; go_simp; rfl)); (refine wt_move 5 30 rfl rfl (by kernel_rfl) (by kernel_rfl) (by kernel_rfl) (by kernel_rfl) (fun _ _ _ h => h) rfl hS0 (by (repeat (first | (refine slot_hit (N := 51) ?_ (by rfl); (repeat (refine sz_put ?_)); assumption; done) | (apply slot_miss; focus rfl))); all_goals assumption) rfl ?_); (refine wt_take1 6 4 (v := ?_) rfl rfl (by kernel_rfl) (by kernel_rfl) (by kernel_rfl) (by kernel_rfl) (fun _ _ _ h => h) (wanted_of rfl rfl (by (repeat (first | (refine slot_hit (N := 51) ?_ (by rfl); (repeat (refine sz_put ?_)); assumption; done) | (apply slot_miss; focus rfl))); all_goals assumption) rfl) hS0 (by (repeat (first | (refine slot_hit (N := 51) ?_ (by rfl); (repeat (refine sz_put ?_)); assumption; done) | (apply slot_miss; focus rfl))); all_goals assumption) (fun ev hk hv0 w hS => ?_) ?_; rotate_left; focus (obtain ⟨⟨r0, r1, r2, r3, r4, r5⟩, ⟨j0, j1, j2, j3, j4, j5⟩, ⟨u0, u1, u2, u3, u4⟩, v0, v1, v2, v3, v4⟩ := hS; go_simp; rfl)); (refine wt_take1 7 7 (v := ?_) rfl rfl (by kernel_rfl) (by kernel_rfl) (by kernel_rfl) (by kernel_rfl) (fun _ _ _ h => h) (wanted_of rfl rfl (by (repeat (first | (refine slot_hit (N := 51) ?_ (by rfl); (repeat (refine sz_put ?_)); assumption; done) | (apply slot_miss; focus rfl))); all_goals assumption) rfl) hS0 (by (repeat (first | (refine slot_hit (N := 51) ?_ (by rfl); (repeat (refine sz_put ?_)); assumption; done) | (apply slot_miss; focus rfl))); all_goals assumption) (fun ev hk hv0 w hS => ?_) ?_; rotate_left; focus (obtain ⟨⟨r0, r1, r2, r3, r4, r5⟩, ⟨j0, j1, j2, j3, j4, j5⟩, ⟨u0, u1, u2, u3, u4⟩, v0, v1, v2, v3, v4⟩ := hS; go_simp; rfl))
    refine wt_call2 8 32 33 (by kernel_rfl) rfl rfl (wanted_of rfl rfl (by (repeat (first | (refine slot_hit (N := 51) ?_ (by rfl); (repeat (refine sz_put ?_)); assumption; done) | (apply slot_miss; focus rfl))); all_goals assumption) rfl) (by (repeat (first | (refine slot_hit (N := 51) ?_ (by rfl); (repeat (refine sz_put ?_)); assumption; done) | (apply slot_miss; focus rfl))); all_goals assumption) (by (repeat (first | (refine slot_hit (N := 51) ?_ (by rfl); (repeat (refine sz_put ?_)); assumption; done) | (apply slot_miss; focus rfl))); all_goals assumption) (f := ?_) (args := ?_) (fun ev hk hkf hv0 hv1 => ?_) ?_; rotate_left 2; focus (go_simp; first | rfl | (constructor <;> rfl))
    (with_reducible refine (same_self C ⟨Q1, Q2, Q3, Q4, l1, l2, l3, l4⟩ ⟨R1, R2, R3, R4, m1, m2, m3, m4⟩ w6 SC.out hH6.m4 hH6.m7).mono ?_)
    rintro e w7 ⟨rfl, hb7⟩
    have hH7 := hH6.on hb7
    clear hS0
    have hS0 := hH7.ss
    refine ⟨_, rfl, fun _ => hS0, ?_⟩
    (refine wt_take2 9 31 34 (v := ?_) rfl rfl (by kernel_rfl) (by kernel_rfl) (by kernel_rfl) (by kernel_rfl) (fun _ _ _ h => h) rfl hS0 (by (repeat (first | (refine slot_hit (N := 51) ?_ (by rfl); (repeat (refine sz_put ?_)); assumption; done) | (apply slot_miss; focus rfl))); all_goals assumption) (by (repeat (first | (refine slot_hit (N := 51) ?_ (by rfl); (repeat (refine sz_put ?_)); assumption; done) | (apply slot_miss; focus rfl))); all_goals assumption) (fun ev hk hv0 hv1 w hS => ?_) ?_; rotate_left; focus (obtain ⟨⟨r0, r1, r2, r3, r4, r5⟩, ⟨j0, j1, j2, j3, j4, j5⟩, ⟨u0, u1, u2, u3, u4⟩, v0, v1, v2, v3, v4⟩ := hS; go_simp; rfl)); (refine wt_move 10 35 rfl rfl (by kernel_rfl) (by kernel_rfl) (by kernel_rfl) (by kernel_rfl) (fun _ _ _ h => h) rfl hS0 (by (repeat (first | (refine slot_hit (N := 51) ?_ (by rfl); (repeat (refine sz_put ?_)); assumption; done) | (apply slot_miss; focus rfl))); all_goals assumption) rfl ?_); (refine wt_move 11 5 rfl rfl (by kernel_rfl) (by kernel_rfl) (by kernel_rfl) (by kernel_rfl) (fun _ _ _ h => h) (wanted_of rfl rfl (by (repeat (first | (refine slot_hit (N := 51) ?_ (by rfl); (repeat (refine sz_put ?_)); assumption; done) | (apply slot_miss; focus rfl))); all_goals assumption) rfl) hS0 (by (repeat (first | (refine slot_hit (N := 51) ?_ (by rfl); (repeat (refine sz_put ?_)); assumption; done) | (apply slot_miss; focus rfl))); all_goals assumption) rfl ?_); (refine wt_move 12 8 rfl rfl (by kernel_rfl) (by kernel_rfl) (by kernel_rfl) (by kernel_rfl) (fun _ _ _ h => h) (wanted_of rfl rfl (by (repeat (first | (refine slot_hit (N := 51) ?_ (by rfl); (repeat (refine sz_put ?_)); assumption; done) | (apply slot_miss; focus rfl))); all_goals assumption) rfl) hS0 (by (repeat (first | (refine slot_hit (N := 51) ?_ (by rfl); (repeat (refine sz_put ?_)); assumption; done) | (apply slot_miss; focus rfl))); all_goals assumption) rfl ?_)
    refine wt_call2 13 37 38 (by kernel_rfl) rfl rfl (wanted_of rfl rfl (by (repeat (first | (refine slot_hit (N := 51) ?_ (by rfl); (repeat (refine sz_put ?_)); assumption; done) | (apply slot_miss; focus rfl))); all_goals assumption) rfl) (by (repeat (first | (refine slot_hit (N := 51) ?_ (by rfl); (repeat (refine sz_put ?_)); assumption; done) | (apply slot_miss; focus rfl))); all_goals assumption) (by (repeat (first | (refine slot_hit (N := 51) ?_ (by rfl); (repeat (refine sz_put ?_)); assumption; done) | (apply slot_miss; focus rfl))); all_goals assumption) (f := ?_) (args := ?_) (fun ev hk hkf hv0 hv1 => ?_) ?_; rotate_left 2; focus (go_simp; first | rfl | (constructor <;> rfl))
    (with_reducible refine (sameInts_self A5 A8 N k5' k8 (fun v => c0.nw (v : Int)) _ w7 (by have := NL.out; omega) hH7.i5 hH7.i8).mono ?_)
    rintro e w8 ⟨rfl, hb8⟩
    have hH8 := hH7.on hb8
    clear hS0
    have hS0 := hH8.ss
    refine ⟨_, rfl, fun _ => hS0, ?_⟩
    (refine wt_take2 14 36 39 (v := ?_) rfl rfl (by kernel_rfl) (by kernel_rfl) (by kernel_rfl) (by kernel_rfl) (fun _ _ _ h => h) rfl hS0 (by (repeat (first | (refine slot_hit (N := 51) ?_ (by rfl); (repeat (refine sz_put ?_)); assumption; done) | (apply slot_miss; focus rfl))); all_goals assumption) (by (repeat (first | (refine slot_hit (N := 51) ?_ (by rfl); (repeat (refine sz_put ?_)); assumption; done) | (apply slot_miss; focus rfl))); all_goals assumption) (fun ev hk hv0 hv1 w hS => ?_) ?_; rotate_left; focus (obtain ⟨⟨r0, r1, r2, r3, r4, r5⟩, ⟨j0, j1, j2, j3, j4, j5⟩, ⟨u0, u1, u2, u3, u4⟩, v0, v1, v2, v3, v4⟩ := hS; go_simp; rfl)); (refine wt_move 15 40 rfl rfl (by kernel_rfl) (by kernel_rfl) (by kernel_rfl) (by kernel_rfl) (fun _ _ _ h => h) rfl hS0 (by (repeat (first | (refine slot_hit (N := 51) ?_ (by rfl); (repeat (refine sz_put ?_)); assumption; done) | (apply slot_miss; focus rfl))); all_goals assumption) rfl ?_); (refine wt_move 16 6 rfl rfl (by kernel_rfl) (by kernel_rfl) (by kernel_rfl) (by kernel_rfl) (fun _ _ _ h => h) (wanted_of rfl rfl (by (repeat (first | (refine slot_hit (N := 51) ?_ (by rfl); (repeat (refine sz_put ?_)); assumption; done) | (apply slot_miss; focus rfl))); all_goals assumption) rfl) hS0 (by (repeat (first | (refine slot_hit (N := 51) ?_ (by rfl); (repeat (refine sz_put ?_)); assumption; done) | (apply slot_miss; focus rfl))); all_goals assumption) rfl ?_); (refine wt_move 17 9 rfl rfl (by kernel_rfl) (by kernel_rfl) (by kernel_rfl) (by kernel_rfl) (fun _ _ _ h => h) (wanted_of rfl rfl (by (repeat (first | (refine slot_hit (N := 51) ?_ (by rfl); (repeat (refine sz_put ?_)); assumption; done) | (apply slot_miss; focus rfl))); all_goals assumption) rfl) hS0 (by (repeat (first | (refine slot_hit (N := 51) ?_ (by rfl); (repeat (refine sz_put ?_)); assumption; done) | (apply slot_miss; focus rfl))); all_goals assumption) rfl ?_); (refine wt_take2 18 42 43 (v := ?_) rfl rfl (by kernel_rfl) (by kernel_rfl) (by kernel_rfl) (by kernel_rfl) (fun _ _ _ h => h) (wanted_of rfl rfl (by (repeat (first | (refine slot_hit (N := 51) ?_ (by rfl); (repeat (refine sz_put ?_)); assumption; done) | (apply slot_miss; focus rfl))); all_goals assumption) rfl) hS0 (by (repeat (first | (refine slot_hit (N := 51) ?_ (by rfl); (repeat (refine sz_put ?_)); assumption; done) | (apply slot_miss; focus rfl))); all_goals assumption) (by (repeat (first | (refine slot_hit (N := 51) ?_ (by rfl); (repeat (refine sz_put ?_)); assumption; done) | (apply slot_miss; focus rfl))); all_goals assumption) (fun ev hk hv0 hv1 w hS => ?_) ?_; rotate_left; focus (obtain ⟨⟨r0, r1, r2, r3, r4, r5⟩, ⟨j0, j1, j2, j3, j4, j5⟩, ⟨u0, u1, u2, u3, u4⟩, v0, v1, v2, v3, v4⟩ := hS; go_simp; rfl)); (refine wt_take2 19 41 44 (v := ?_) rfl rfl (by kernel_rfl) (by kernel_rfl) (by kernel_rfl) (by kernel_rfl) (fun _ _ _ h => h) rfl hS0 (by (repeat (first | (refine slot_hit (N := 51) ?_ (by rfl); (repeat (refine sz_put ?_)); assumption; done) | (apply slot_miss; focus rfl))); all_goals assumption) (by (repeat (first | (refine slot_hit (N := 51) ?_ (by rfl); (repeat (refine sz_put ?_)); assumption; done) | (apply slot_miss; focus rfl))); all_goals assumption) (fun ev hk hv0 hv1 w hS => ?_) ?_; rotate_left; focus (obtain ⟨⟨r0, r1, r2, r3, r4, r5⟩, ⟨j0, j1, j2, j3, j4, j5⟩, ⟨u0, u1, u2, u3, u4⟩, v0, v1, v2, v3, v4⟩ := hS; go_simp; rfl)); (refine wt_move 20 45 rfl rfl (by kernel_rfl) (by kernel_rfl) (by kernel_rfl) (by kernel_rfl) (fun _ _ _ h => h) rfl hS0 (by (repeat (first | (refine slot_hit (N := 51) ?_ (by rfl); (repeat (refine sz_put ?_)); assumption; done) | (apply slot_miss; focus rfl))); all_goals assumption) rfl ?_); (refine wt_take1 21 3 (v := ?_) rfl rfl (by kernel_rfl) (by kernel_rfl) (by kernel_rfl) (by kernel_rfl) (fun _ _ _ h => h) (wanted_of rfl rfl (by (repeat (first | (refine slot_hit (N := 51) ?_ (by rfl); (repeat (refine sz_put ?_)); assumption; done) | (apply slot_miss; focus rfl))); all_goals assumption) rfl) hS0 (by (repeat (first | (refine slot_hit (N := 51) ?_ (by rfl); (repeat (refine sz_put ?_)); assumption; done) | (apply slot_miss; focus rfl))); all_goals assumption) (fun ev hk hv0 w hS => ?_) ?_; rotate_left; focus (obtain ⟨⟨r0, r1, r2, r3, r4, r5⟩, ⟨j0, j1, j2, j3, j4, j5⟩, ⟨u0, u1, u2, u3, u4⟩, v0, v1, v2, v3, v4⟩ := hS; go_simp; rfl)); (refine wt_take1 22 1 (v := ?_) rfl rfl (by kernel_rfl) (by kernel_rfl) (by kernel_rfl) (by kernel_rfl) (fun _ _ _ h => h) (wanted_of rfl rfl (by (repeat (first | (refine slot_hit (N := 51) ?_ (by rfl); (repeat (refine sz_put ?_)); assumption; done) | (apply slot_miss; focus rfl))); all_goals assumption) rfl) hS0 (by (repeat (first | (refine slot_hit (N := 51) ?_ (by rfl); (repeat (refine sz_put ?_)); assumption; done) | (apply slot_miss; focus rfl))); all_goals assumption) (fun ev hk hv0 w hS => ?_) ?_; rotate_left; focus (obtain ⟨⟨r0, r1, r2, r3, r4, r5⟩, ⟨j0, j1, j2, j3, j4, j5⟩, ⟨u0, u1, u2, u3, u4⟩, v0, v1, v2, v3, v4⟩ := hS; go_simp; rfl))
    refine wt_call2 23 47 48 (by kernel_rfl) rfl rfl (wanted_of rfl rfl (by (repeat (first | (refine slot_hit (N := 51) ?_ (by rfl); (repeat (refine sz_put ?_)); assumption; done) | (apply slot_miss; focus rfl))); all_goals assumption) rfl) (by (repeat (first | (refine slot_hit (N := 51) ?_ (by rfl); (repeat (refine sz_put ?_)); assumption; done) | (apply slot_miss; focus rfl))); all_goals assumption) (by (repeat (first | (refine slot_hit (N := 51) ?_ (by rfl); (repeat (refine sz_put ?_)); assumption; done) | (apply slot_miss; focus rfl))); all_goals assumption) (f := ?_) (args := ?_) (fun ev hk hkf hv0 hv1 => ?_) ?_; rotate_left 2; focus (go_simp; first | rfl | (constructor <;> rfl))
    (with_reducible refine (oSame_self c0 ⟨P1, P2, P3, P4, P5, k1, k2, k3, k4, k5⟩ p0 w8 HS.out hH8.m3 (HM.out.to hH8.B hH8.B.size)).mono ?_)
    rintro e w9 ⟨rfl, hb9⟩
    have hH9 := hH8.on hb9
    clear hS0
    have hS0 := hH9.ss
    refine ⟨_, rfl, fun _ => hS0, ?_⟩
    (refine wt_take2 24 46 49 (v := ?_) rfl rfl (by kernel_rfl) (by kernel_rfl) (by kernel_rfl) (by kernel_rfl) (fun _ _ _ h => h) rfl hS0 (by (repeat (first | (refine slot_hit (N := 51) ?_ (by rfl); (repeat (refine sz_put ?_)); assumption; done) | (apply slot_miss; focus rfl))); all_goals assumption) (by (repeat (first | (refine slot_hit (N := 51) ?_ (by rfl); (repeat (refine sz_put ?_)); assumption; done) | (apply slot_miss; focus rfl))); all_goals assumption) (fun ev hk hv0 hv1 w hS => ?_) ?_; rotate_left; focus (obtain ⟨⟨r0, r1, r2, r3, r4, r5⟩, ⟨j0, j1, j2, j3, j4, j5⟩, ⟨u0, u1, u2, u3, u4⟩, v0, v1, v2, v3, v4⟩ := hS; go_simp; rfl)); (refine wt_assign 25 50 rfl rfl (by kernel_rfl) (by kernel_rfl) (by kernel_rfl) (by kernel_rfl) (fun _ _ _ h => h) rfl hS0 (by (repeat (first | (refine slot_hit (N := 51) ?_ (by rfl); (repeat (refine sz_put ?_)); assumption; done) | (apply slot_miss; focus rfl))); all_goals assumption) rfl ?_)
    refine wt_known (N := 51) (by kernel_rfl) (by (repeat (refine sz_put ?_)); assumption) [(2, .bool true)] ⟨(by (repeat (first | (refine slot_hit (N := 51) ?_ (by rfl); (repeat (refine sz_put ?_)); assumption; done) | (apply slot_miss; focus rfl))); all_goals assumption), trivial⟩ fun fv fl hfl => ?_; obtain rfl : fl = [fv 0, fv 1, (.bool true : Value), fv 3, fv 4, fv 5, fv 6, fv 7, fv 8, fv 9, fv 10, fv 11, fv 12, fv 13, fv 14, fv 15, fv 16, fv 17, fv 18, fv 19, fv 20, fv 21, fv 22, fv 23, fv 24, fv 25, fv 26, fv 27, fv 28, fv 29, fv 30, fv 31, fv 32, fv 33, fv 34, fv 35, fv 36, fv 37, fv 38, fv 39, fv 40, fv 41, fv 42, fv 43, fv 44, fv 45, fv 46, fv 47, fv 48, fv 49, fv 50] := hfl.symm.trans (by kernel_rfl); clear hfl
    go_wp2
    go_ret
    exact ⟨rfl, hH9.B⟩
  · go_enter Try.func4, Try.ntmps4
    go_wp2_with (go_at_call 16; refine (oGreat_any c0 p0 _).mono ?_; rintro e w1 ⟨rfl, hb1⟩; have hB1 : Below w.heap.size w w1 := Below.step (by go_grown) (by go_size) hb1; have hA1 : Has w1 w.heap.size 32 (rc c0 p0) := (Has.new w 32 (rc c0 p0)).keep hb1 (by simp); obtain ⟨x0, x1, x2, x3, x4, x5⟩ := hA1.rbox)
    go_ret
    exact ⟨rfl, hB1⟩

set_option maxRecDepth 100000 in
theorem lifted (os : Os) (started : os.Started) (H : Type) (enc : TypeId × Value → H) :
    ReturnsInHanded {} Try.checked os 4 .any (Rows.orderTellsSpec.pre6 enc Try.prog Try.f4 Rows.orderTellsRow.domain false) (Rows.orderTellsSpec.post enc Try.prog Try.f4 false true false false) := by
  refine returnsInHanded_of_change (C := Try.checked) own started (by kernel_rfl) Try.func4
    (ChangeSpec.witness6 (enc := enc) (C := Try.checked) false ⟨#[], #[.agg #[.int .i64 0, .slice none 0 0, .slice none 0 0, .slice none 0 0, .slice none 0 0, .slice none 0 0]], []⟩ 12 (by kernel_rfl) (by kernel_rfl) (by kernel_rfl) (by kernel_rfl)) ?_
  intro W base args ds gs before hval0 hW hcnd _
  have hval : ∀ (j : Nat) t v, Try.f4.params[j]? = some t → args[j]? = some v → Value.okWide Try.prog W .any base t v := hval0
  have hW' := hW
  have hlt : ∀ x ∈ before, x.block < W.heap.size := fun x hx => by simpa using hW'.lt x hx
  obtain ⟨p, q, hA0, hV, rfl, hfz, hnd⟩ := hW
  have hA : DataW.TrodAll enc Try.prog W 0 (fun _ => true) true Try.f4.params.toList args.toList ds p := hA0
  rw [Try.params4] at hA hval
  obtain ⟨v0, vs0, d0, ds0, b0, q0, hargs, rfl, rfl, h0, r0⟩ := trodAll_cons hA
  obtain ⟨rfl, rfl, rfl⟩ := trodAll_nil r0
  obtain rfl : args = #[v0] := by cases args; simp_all
  obtain ⟨rfl, rfl⟩ := trodVars_none hV
  obtain ⟨c0, p0, rfl, hm0, hN0, hv0, hC0⟩ := open_raw (hval 0 32 v0 rfl rfl) h0
  have hlo : laidOutB Try.prog = true := by kernel_rfl
  clear hA0 hval0
  simp only [List.append_nil] at hW' hlt
  refine (walk c0 p0 W hm0 hN0 hv0 hC0).mono fun e W' ⟨he, hb⟩ => ?_
  subst he
  have hback := (trodAll_cons_mk (arg_back (W' := W') hlo (by kernel_rfl) (of_decide_eq_true (by kernel_rfl)) h0 hb (fun x hx => hlt x (by simp [hx]))) trodAll_mk0)
  simp only [List.append_nil, List.nil_append] at hback
  exact ⟨_, rfl, law_post hW' (trodAll_cons_mk (shut_bool Try.underlying4 _) trodAll_mk0) hback rfl hb⟩

theorem over : Rows.orderTellsRow.holds Try.pinned (OpenSpec.ofChange Rows.orderTellsSpec) :=
  OpenClaim.holds_of_wide 4 Try.f4 rfl rfl rfl rfl rfl rfl rfl ⟨rfl, rfl, rfl, rfl, rfl⟩ rfl rfl rfl rfl rfl (by kernel_rfl) Try.func4 (by kernel_rfl)
    (of_decide_eq_true (by kernel_rfl)) (by unfold Func.isWrapper; first | (rw [if_pos (by decide +kernel)]; kernel_rfl) | (rw [if_neg (by decide +kernel)]; exact ⟨rfl, rfl⟩))
    (fun os started H enc _ => lifted os started H enc)

theorem proved : Rows.OrderTellsSaid :=
  over
end Go.Proofs.Ytpdfdbnmohippaa.orderTells
