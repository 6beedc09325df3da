/- For all raw circuits that are not great, and an index: with the gates turned there the errors, and how many inputs, latches and gates the circuit has, are the same, and it is valid. No conditions. -/
import Derived.Test.YtpdfdbnmohippaaOrderFrame
import Derived.Test.YtpdfdbnmohippaaOrderTurnedKit
import Derived.Test.YtpdfdbnmohippaaOrderSameKit
import Derived.Test.YtpdfdbnmohippaaHeadTail
namespace Go.Proofs.Ytpdfdbnmohippaa.orderTurned
open Go.ChangeShapes Go.WideShapes Go.ChangeAt Go.RowKit
set_option linter.unusedVariables false
set_option linter.unusedSimpArgs false


theorem own : ownKnob Try.prog.godebug = none := by kernel_rfl

set_option maxRecDepth 100000 in
set_option maxHeartbeats 40000000 in
theorem walk (c0 : Rw) (p0 : Rp) (a1 : Int) (w : World) (hm0 : RMem w w.heap.size c0 p0) (hN0 : RNils c0 p0) (hv0 : RVals c0) (hC0 : RCaps c0 p0) (w1 : (Lit.int .i64 a1).wf = true) :
    Calls Try.prog 7 #[rv c0 p0, .int .i64 a1] w fun e w' => e = .returned (.bool true) ∧ Below w.heap.size w w' := by
  have HM := Lib.hid hm0
  have HN := Lib.hid hN0
  have AL : Hid (∀ W, Calls Try.prog 15 #[] W fun e w' => e = .returned (.bool true) ∧ Below W.heap.size W w') := fun W => alive3_any W
  cases hg : c0.gr
  · have hs : RSm c0 := hv0.sm hg
    have HS := Lib.hid hs
    have G0 : Hid (∀ W, Calls Try.prog 16 #[rv c0 p0] W fun e w' => e = .returned (.bool false) ∧ Below W.heap.size W w') := fun W => by have := oGreat_any c0 p0 W; rwa [hg] at this
    by_cases h0 : a1 < 0
    · clear hs hm0 hN0 hv0 hC0 hg
      go_enter Try.func7, Try.ntmps7
      go_wp2_with (go_at_call 16; (with_reducible refine (G0.out _).mono ?_); rintro e w1 ⟨rfl, hb1⟩; have hB1 : Below w.heap.size w w1 := Below.step (by go_grown) (by go_size) hb1; have hA1 : Has w1 w.heap.size 32 (rc c0 p0) := (Has.new w 32 (rc c0 p0)).keep hb1 (by simp); obtain ⟨x0, x1, x2, x3, x4, x5⟩ := hA1.rbox)
      go_wp2_with (go_at_call 15; (with_reducible refine (AL.out _).mono ?_); rintro e w2 ⟨rfl, hb2⟩; have hB2 := Below.step hB1 hB1.size hb2)
      go_ret
      exact ⟨rfl, hB2⟩
    · obtain ⟨k, rfl⟩ : ∃ k : Nat, a1 = (k : Int) := ⟨a1.toNat, by omega⟩
      by_cases h1 : c0.na < k
      · have h1' : (c0.na : Int) < (k : Int) := by omega
        clear hs hm0 hN0 hv0 hC0 hg
        go_enter Try.func7, Try.ntmps7
        go_wp2_with (go_at_call 16; (with_reducible refine (G0.out _).mono ?_); rintro e w1 ⟨rfl, hb1⟩; have hB1 : Below w.heap.size w w1 := Below.step (by go_grown) (by go_size) hb1; have hA1 : Has w1 w.heap.size 32 (rc c0 p0) := (Has.new w 32 (rc c0 p0)).keep hb1 (by simp); obtain ⟨x0, x1, x2, x3, x4, x5⟩ := hA1.rbox)
        go_wp2_with (go_at_call 15; (with_reducible refine (AL.out _).mono ?_); rintro e w2 ⟨rfl, hb2⟩; have hB2 := Below.step hB1 hB1.size hb2)
        go_ret
        exact ⟨rfl, hB2⟩
      · have h1' : ¬ (c0.na : Int) < (k : Int) := by omega
        have h0' : ¬ (k : Int) < 0 := by omega
        have hk : k ≤ c0.na := by omega
        have TW : Hid (∀ W, Below w.heap.size w W → Calls Try.prog 17 #[rv c0 p0] W fun e w' => ∃ p', e = .returned (rv c0 p') ∧ OwnR w' (W.heap.size + 2) c0 p' ∧ Below W.heap.size W w') := fun W hb => rtwin_any c0 p0 W hs (HM.out.to hb hb.size) HN.out
        obtain ⟨A1, j1, A2, j2, hL1, hL2, hS1, hS2⟩ := cut_src (A := p0.A3) (c := p0.k3) HM.out.an HN.out.an hk hC0.an.1
        have HS1 := Lib.hid hS1
        have HS2 := Lib.hid hS2
        have HTT := Lib.hid (turn_trips c0 hk)
        have HRS := Lib.hid (hs.turn hk)
        have HKn := Lib.hid (show c0.na ≤ 1000 from hs.na)
        have HK := Lib.hid hk
        obtain ⟨K, hK⟩ : ∃ K, c0.chk = K := ⟨_, rfl⟩
        obtain ⟨C, hC⟩ : ∃ C, c0.oc = C := ⟨_, rfl⟩
        obtain ⟨D, hD⟩ : ∃ D, (c0.turn k).oc = D := ⟨_, rfl⟩
        obtain ⟨N, hN⟩ : ∃ N, c0.on = N := ⟨_, rfl⟩
        obtain ⟨M, hMM⟩ : ∃ M, (c0.turn k).on = M := ⟨_, rfl⟩
        have hK' : (c0.turn k).chk = K := (Rw.turn_chk hk).trans hK
        have SD := Lib.hid (show Sm D from hD ▸ (c0.turn k).oc_sm)
        have KD := Lib.hid (show D.chk = 0 from hD ▸ (c0.turn k).oc_chk)
        obtain ⟨z1, z2, z3⟩ := oc_sizes hk
        rw [hC, hD] at z1 z2 z3
        have C1 : Hid (∀ W, Below w.heap.size w W → Calls Try.prog 9 #[rv c0 p0] W fun e w' => ∃ (p' : Pl) (A : Option Addr) (k : Nat), e = .returned (.tuple #[cv C p', .slice A N k, .int .i64 K]) ∧ Mem w' w'.heap.size C p' ∧ Below W.heap.size W w') := fun W hb => by
          refine (circ_all c0 p0 W HS.out (HM.out.to hb hb.size) HN.out).mono fun e w' => ?_
          rintro ⟨p', A, k', he, hm, _, hb'⟩
          rw [hC, hN, hK] at he
          rw [hC] at hm
          exact ⟨p', A, k', he, hm, hb'⟩
        have C2 : Hid (∀ W p, RMem W W.heap.size (c0.turn k) p → RNils (c0.turn k) p → Calls Try.prog 9 #[rv (c0.turn k) p] W fun e w' => ∃ (p' : Pl) (A : Option Addr) (k : Nat), e = .returned (.tuple #[cv D p', .slice A M k, .int .i64 K]) ∧ Mem w' w'.heap.size D p' ∧ Below W.heap.size W w') := fun W p hm hn => by
          refine (circ_all (c0.turn k) p W HRS.out hm hn).mono fun e w' => ?_
          rintro ⟨p', A, k', he, hm, _, hb'⟩
          rw [hD, hMM, hK'] at he
          rw [hD] at hm
          exact ⟨p', A, k', he, hm, hb'⟩
        have K1 : Hid (∀ W p, RMem W W.heap.size (c0.turn k) p → RNils (c0.turn k) p → Calls Try.prog 13 #[rv (c0.turn k) p] W fun e w' => e = .returned (.int .i64 K) ∧ Below W.heap.size W w') := fun W p hm hn => by rw [← hK']; exact pCheck_any (c0.turn k) p W HRS.out hm hn
        obtain ⟨Cn, hCn⟩ : ∃ n, C.na = n := ⟨_, rfl⟩
        obtain ⟨Cl, hCl⟩ : ∃ n, C.nl = n := ⟨_, rfl⟩
        obtain ⟨Ci, hCi⟩ : ∃ n, C.i = n := ⟨_, rfl⟩
        have hDn : D.na = Cn := z1.symm.trans hCn
        have hDl : D.nl = Cl := z3.symm.trans hCl
        have hDi : D.i = Ci := z2.symm.trans hCi
        have GD : Hid (∀ W p, Mem W W.heap.size D p → Calls Try.prog 21 #[.agg #[.int .i64 Ci, .slice p.A1 Cl p.k1, .slice p.A2 Cn p.k2, .slice p.A3 D.nb p.k3, .slice p.A4 D.nc p.k4]] W fun e w' => e = .returned (.int .i64 0) ∧ Below W.heap.size W w') := fun W p hm => by have := gCheck_any D p W hm SD.out; rw [KD.out, show cv D p = .agg #[.int .i64 Ci, .slice p.A1 Cl p.k1, .slice p.A2 Cn p.k2, .slice p.A3 D.nb p.k3, .slice p.A4 D.nc p.k4] by rw [← hDn, ← hDl, ← hDi]] at this; exact this
        have HZ := Lib.hid (And.intro hCn (And.intro hCl (And.intro hCi (And.intro hDn (And.intro hDl hDi)))))
        clear hC hD hN hMM hK hK' hs hm0 hN0 hv0 hC0 hg z1 z2 z3 hk h1 h0 hS1 hS2 hCn hCl hCi hDn hDl hDi
        go_enter Try.func7, Try.ntmps7
        go_wp2_with (go_at_call 16; (with_reducible refine (G0.out _).mono ?_); rintro e w1 ⟨rfl, hb1⟩; have hB1 : Below w.heap.size w w1 := Below.step (by go_grown) (by go_size) hb1; have hA1 : Has w1 w.heap.size 32 (rc c0 p0) := (Has.new w 32 (rc c0 p0)).keep hb1 (by simp); obtain ⟨x0, x1, x2, x3, x4, x5⟩ := hA1.rbox)
        go_wp2_with (go_at_call 17; (with_reducible refine (TW.out _ hB1).mono ?_); rintro e w2 ⟨⟨P1, P2, P3, P4, P5, k1, k2, k3, k4, k5⟩, rfl, hO2, hb2⟩; have hB2 := Below.step hB1 hB1.size hb2; have hA2 : Has w2 w.heap.size 32 (rc c0 p0) := hA1.keep hb2 hA1.lt)
        obtain ⟨U, hU⟩ : ∃ U, (w2.alloc (.cells #[.int .i64 c0.m, .slice P1 c0.ni k1, .slice P2 c0.nl k2, .slice P3 c0.na k3, .slice P4 c0.nb k4, .slice P5 c0.nc k5] 32)).drew = U := ⟨_, rfl⟩
        have hb2U : Below w2.heap.size w2 U := hU ▸ below_dn ((Below.refl _ _).alloc (Nat.le_refl _) _) 1
        have hBU := Below.step hB2 hB2.size hb2U
        have hAU := hA2.keep hb2U hA2.lt
        have hOU := Lib.hid (hO2.on hb2U)
        have hXU : Has U w2.heap.size 32 (rc c0 ⟨P1, P2, P3, P4, P5, k1, k2, k3, k4, k5⟩) := hU ▸ (show Has (w2.alloc (.cells #[.int .i64 c0.m, .slice P1 c0.ni k1, .slice P2 c0.nl k2, .slice P3 c0.na k3, .slice P4 c0.nb k4, .slice P5 c0.nc k5] 32)).drew w2.heap.size 32 (rc c0 ⟨P1, P2, P3, P4, P5, k1, k2, k3, k4, k5⟩) from Has.new w2 32 (rc c0 ⟨P1, P2, P3, P4, P5, k1, k2, k3, k4, k5⟩))
        have hlt2 := Lib.hid hA2.lt
        clear hO2 hb1 hb2 hb2U hB1 hB2 hA1 hA2 x0 x1 x2 x3 x4 x5
        have hS0 := hAU.cell 3
        refine wp_slots (fun f => Sz f 96 ∧ Slot f 1 (.int .i64 (k : Int)) ∧ Slot f 2 (.pointer (some ⟨w.heap.size, 0, none⟩)) ∧ Slot f 4 (.bool false) ∧ Slot f 5 (.pointer (some ⟨w2.heap.size, 0, none⟩))) ⟨⟨rfl, rfl⟩, ⟨rfl⟩, ⟨rfl⟩, ⟨rfl⟩, ⟨rfl⟩⟩ fun a0 hA0 hR => ?_
        obtain ⟨hZ, hs1, hs2, hs4, hs5⟩ := hR
        clear hA0
        refine wp_region_T' hU (fun W : World => W.cell? ⟨w.heap.size, 3, none⟩ = some (.slice p0.A3 c0.na p0.k3)) 12 (by kernel_rfl) ?_
        refine WT.h ?_
        (refine wt_take1 1 2 (v := ?_) rfl rfl (by kernel_rfl) (by kernel_rfl) (by kernel_rfl) (by kernel_rfl) (fun _ _ _ h => h) rfl hS0 (by (repeat (first | (refine slot_hit (N := 96) ?_ (by rfl); (repeat (refine sz_put ?_)); assumption; done) | (apply slot_miss; focus rfl))); all_goals assumption) (fun ev hk hv0 w hS => ?_) ?_; rotate_left; focus (obtain j3 := hS; go_simp; rfl)); (refine wt_take1 2 29 (v := ?_) rfl rfl (by kernel_rfl) (by kernel_rfl) (by kernel_rfl) (by kernel_rfl) (fun _ _ _ h => h) rfl hS0 (by (repeat (first | (refine slot_hit (N := 96) ?_ (by rfl); (repeat (refine sz_put ?_)); assumption; done) | (apply slot_miss; focus rfl))); all_goals assumption) (fun ev hk hv0 w hS => ?_) ?_; rotate_left; focus (obtain j3 := hS; go_simp; rfl)); (refine wt_move 3 1 rfl rfl (by kernel_rfl) (by kernel_rfl) (by kernel_rfl) (by kernel_rfl) (fun _ _ _ h => h) rfl hS0 (by (repeat (first | (refine slot_hit (N := 96) ?_ (by rfl); (repeat (refine sz_put ?_)); assumption; done) | (apply slot_miss; focus rfl))); all_goals assumption) rfl ?_); (refine wt_take2 4 30 31 (v := ?_) rfl rfl (by kernel_rfl) (by kernel_rfl) (by kernel_rfl) (by kernel_rfl) (fun _ _ _ h => h) rfl hS0 (by (repeat (first | (refine slot_hit (N := 96) ?_ (by rfl); (repeat (refine sz_put ?_)); assumption; done) | (apply slot_miss; focus rfl))); all_goals assumption) (by (repeat (first | (refine slot_hit (N := 96) ?_ (by rfl); (repeat (refine sz_put ?_)); assumption; done) | (apply slot_miss; focus rfl))); all_goals assumption) (fun ev hk hv0 hv1 w hS => ?_) ?_; rotate_left; focus (obtain j3 := hS; go_simp; rfl)); (refine wt_take1 6 2 (v := ?_) rfl rfl (by kernel_rfl) (by kernel_rfl) (by kernel_rfl) (by kernel_rfl) (fun _ _ _ h => h) rfl hS0 (by (repeat (first | (refine slot_hit (N := 96) ?_ (by rfl); (repeat (refine sz_put ?_)); assumption; done) | (apply slot_miss; focus rfl))); all_goals assumption) (fun ev hk hv0 w hS => ?_) ?_; rotate_left; focus (obtain j3 := hS; go_simp; rfl)); (refine wt_take1 7 34 (v := ?_) rfl rfl (by kernel_rfl) (by kernel_rfl) (by kernel_rfl) (by kernel_rfl) (fun _ _ _ h => h) rfl hS0 (by (repeat (first | (refine slot_hit (N := 96) ?_ (by rfl); (repeat (refine sz_put ?_)); assumption; done) | (apply slot_miss; focus rfl))); all_goals assumption) (fun ev hk hv0 w hS => ?_) ?_; rotate_left; focus (obtain j3 := hS; go_simp; rfl)); (refine wt_move 8 1 rfl rfl (by kernel_rfl) (by kernel_rfl) (by kernel_rfl) (by kernel_rfl) (fun _ _ _ h => h) rfl hS0 (by (repeat (first | (refine slot_hit (N := 96) ?_ (by rfl); (repeat (refine sz_put ?_)); assumption; done) | (apply slot_miss; focus rfl))); all_goals assumption) rfl ?_); (refine wt_take2 9 35 36 (v := ?_) rfl rfl (by kernel_rfl) (by kernel_rfl) (by kernel_rfl) (by kernel_rfl) (fun _ _ _ h => h) rfl hS0 (by (repeat (first | (refine slot_hit (N := 96) ?_ (by rfl); (repeat (refine sz_put ?_)); assumption; done) | (apply slot_miss; focus rfl))); all_goals assumption) (by (repeat (first | (refine slot_hit (N := 96) ?_ (by rfl); (repeat (refine sz_put ?_)); assumption; done) | (apply slot_miss; focus rfl))); all_goals assumption) (fun ev hk hv0 hv1 w hS => ?_) ?_; rotate_left; focus (obtain j3 := hS; go_simp; rfl))
        have K0 := build0 U
        refine wt_val0 0  (by kernel_rfl) rfl rfl rfl  (v := ?_) (w' := ?_) (fun ev hk  => ?_) ?_; rotate_left 2; focus (go_simp; first | rfl | (constructor <;> rfl))
        have hbV : Below U.heap.size U (U.alloc (.cells #[] 41)) := (Below.refl _ _).alloc (Nat.le_refl _) _
        clear hS0
        have hS0 := (hAU.keep hbV hAU.lt).cell 3
        refine ⟨fun _ => hS0, ?_⟩
        have hO0 : (U.alloc (.cells #[] 41)).ownsRow U.heap.size 41 3 (.slice (some ⟨U.heap.size, 0, none⟩) 0 0) 0 [] := ⟨by simp, Or.inr ⟨U.heap.size, 0, #[], rfl, Nat.le_refl _, Has.new U 41 #[], Nat.le_refl _, by simp [maxLen], by simp, by simp⟩⟩
        refine wt_append 5 28 32 (by kernel_rfl) rfl rfl rfl (by (repeat (first | (refine slot_hit (N := 96) ?_ (by rfl); (repeat (refine sz_put ?_)); assumption; done) | (apply slot_miss; focus rfl))); all_goals assumption) (by (repeat (first | (refine slot_hit (N := 96) ?_ (by rfl); (repeat (refine sz_put ?_)); assumption; done) | (apply slot_miss; focus rfl))); all_goals assumption) rfl (fun ty => app_src hO0 (HS1.out _ (Below.step hBU hBU.size hbV)) (tripL_len _ _ _ _) (tripL_one _ _ _ _) (by have := HKn.out; omega) hbV.size ty) (fun v8 w8 hG => ?_)
        obtain ⟨ho8, hg8, hv8⟩ := hG
        have hb8 : Below U.heap.size U w8 := hbV.grown hg8 hbV.size (fun k hk => by (have hkk : U.heap.size = k := (by simpa [Value.ownBlock] using hk)); omega)
        clear hS0
        have hS0 := (hAU.keep hb8 hAU.lt).cell 3
        refine ⟨fun _ => hS0, ?_⟩
        refine wt_append 10 33 37 (by kernel_rfl) rfl rfl rfl (by (repeat (first | (refine slot_hit (N := 96) ?_ (by rfl); (repeat (refine sz_put ?_)); assumption; done) | (apply slot_miss; focus rfl))); all_goals assumption) (by (repeat (first | (refine slot_hit (N := 96) ?_ (by rfl); (repeat (refine sz_put ?_)); assumption; done) | (apply slot_miss; focus rfl))); all_goals assumption) rfl (fun ty => app_src ho8 (HS2.out _ (Below.step hBU hBU.size hb8)) (tripL_len _ _ _ _) (tripL_one _ _ _ _) (by have := HKn.out; have := HK.out; omega) hb8.size ty) (fun v9 w9 hG => ?_)
        obtain ⟨ho9, hg9, hv9⟩ := hG
        have hx8 : ∃ x, v8.ownBlock = some x := by rcases hv8 with e | e <;> exact ⟨_, e⟩
        have hx9 : ∃ x, v9.ownBlock = some x := by
          obtain ⟨x, hx⟩ := hx8
          rcases hv9 with e | e
          · exact ⟨x, e.trans hx⟩
          · exact ⟨_, e⟩
        obtain ⟨g9, hx9⟩ := hx9
        rw [List.nil_append, HTT.out, show 0 + (c0.na - k) + k = c0.na by have := HK.out; omega] at ho9
        obtain ⟨k9, rfl, hc9⟩ := own_some ho9 hx9
        have hb9 : Below U.heap.size U w9 := hb8.grown hg9 hb8.size (fun k hk => own_ge3 ho8 hk)
        clear hS0
        have hS0 := (hAU.keep hb9 hAU.lt).cell 3
        refine ⟨fun _ => hS0, ?_⟩
        (refine wt_take1 11 5 (v := ?_) rfl rfl (by kernel_rfl) (by kernel_rfl) (by kernel_rfl) (by kernel_rfl) (fun _ _ _ h => h) rfl hS0 (by (repeat (first | (refine slot_hit (N := 96) ?_ (by rfl); (repeat (refine sz_put ?_)); assumption; done) | (apply slot_miss; focus rfl))); all_goals assumption) (fun ev hk hv0 w hS => ?_) ?_; rotate_left; focus (obtain j3 := hS; go_simp; rfl))
        have hX9 := hXU.keep hb9 hXU.lt
        have y3 := hX9.cell 3
        have yf3 := hX9.fz 3
        obtain ⟨T1, T2, T3⟩ := turned_mem HK.out hOU.out hXU hb9 ho9
        have HT := Lib.hid (And.intro T1 (And.intro T2 T3))
        refine wt_act2 12 39 38 (by kernel_rfl) rfl rfl rfl (by (repeat (first | (refine slot_hit (N := 96) ?_ (by rfl); (repeat (refine sz_put ?_)); assumption; done) | (apply slot_miss; focus rfl))); all_goals assumption) (by (repeat (first | (refine slot_hit (N := 96) ?_ (by rfl); (repeat (refine sz_put ?_)); assumption; done) | (apply slot_miss; focus rfl))); all_goals assumption) (w' := ?_) (fun ev hk hv0 hv1 => ?_) ?_; rotate_left; focus (go_simp; rfl)
        refine ⟨fun h => absurd h (by decide), ?_⟩
        clear T1 T2 T3
        refine wt_known (N := 96) (by kernel_rfl) (by (repeat (refine sz_put ?_)); assumption) [(1, .int .i64 (k : Int)), (2, .pointer (some ⟨w.heap.size, 0, none⟩)), (4, .bool false), (5, .pointer (some ⟨w2.heap.size, 0, none⟩))] ⟨(by (repeat (first | (refine slot_hit (N := 96) ?_ (by rfl); (repeat (refine sz_put ?_)); assumption; done) | (apply slot_miss; focus rfl))); all_goals assumption), (by (repeat (first | (refine slot_hit (N := 96) ?_ (by rfl); (repeat (refine sz_put ?_)); assumption; done) | (apply slot_miss; focus rfl))); all_goals assumption), (by (repeat (first | (refine slot_hit (N := 96) ?_ (by rfl); (repeat (refine sz_put ?_)); assumption; done) | (apply slot_miss; focus rfl))); all_goals assumption), (by (repeat (first | (refine slot_hit (N := 96) ?_ (by rfl); (repeat (refine sz_put ?_)); assumption; done) | (apply slot_miss; focus rfl))); all_goals assumption), trivial⟩ fun fv fl hfl => ?_; obtain rfl : fl = [fv 0, (.int .i64 (k : Int) : Value), (.pointer (some ⟨w.heap.size, 0, none⟩) : Value), fv 3, (.bool false : Value), (.pointer (some ⟨w2.heap.size, 0, none⟩) : Value), fv 6, fv 7, fv 8, fv 9, fv 10, fv 11, fv 12, fv 13, fv 14, fv 15, fv 16, fv 17, fv 18, fv 19, fv 20, fv 21, fv 22, fv 23, fv 24, fv 25, fv 26, fv 27, fv 28, fv 29, fv 30, fv 31, fv 32, fv 33, fv 34, fv 35, fv 36, fv 37, fv 38, fv 39, fv 40, fv 41, fv 42, fv 43, fv 44, fv 45, fv 46, fv 47, fv 48, fv 49, fv 50, fv 51, fv 52, fv 53, fv 54, fv 55, fv 56, fv 57, fv 58, fv 59, fv 60, fv 61, fv 62, fv 63, fv 64, fv 65, fv 66, fv 67, fv 68, fv 69, fv 70, fv 71, fv 72, fv 73, fv 74, fv 75, fv 76, fv 77, fv 78, fv 79, fv 80, fv 81, fv 82, fv 83, fv 84, fv 85, fv 86, fv 87, fv 88, fv 89, fv 90, fv 91, fv 92, fv 93, fv 94, fv 95] := hfl.symm.trans (by kernel_rfl); clear hfl
        have hB10 : Below w.heap.size w (w9.setCell ⟨w2.heap.size, 3, none⟩ (.slice (some ⟨g9, 0, none⟩) c0.na k9)) := (Below.step hBU hBU.size hb9).setCell (show w.heap.size ≤ w2.heap.size by have := hlt2.out; omega) _
        have hne : w.heap.size ≠ w2.heap.size := fun e => by have := hlt2.out; omega
        have hA10 : Has (w9.setCell ⟨w2.heap.size, 3, none⟩ (.slice (some ⟨g9, 0, none⟩) c0.na k9)) w.heap.size 32 (rc c0 p0) := (hAU.keep hb9 hAU.lt).far hne _
        generalize hV : w9.setCell ⟨w2.heap.size, 3, none⟩ (.slice (some ⟨g9, 0, none⟩) c0.na k9) = V at HT hB10 hA10 ⊢
        have hX10 := HT.out.2.2
        obtain ⟨x0, x1, x2, x3, x4, x5⟩ := hA10.rbox
        clear hV hS0 hs1 hs2 hs4 hs5 hZ hX9 y3 yf3 hb9 ho9 hx9 hc9 hb8 hg9 hv9 hx8 ho8 hg8 hv8 hO0 hbV K0 hAU hOU hXU hBU hU hlt2 hne HTT hL1 hL2 HS1 HS2
        go_wp2_with (go_at_call 9; (with_reducible refine (C1.out _ hB10).mono ?_); rintro e w11 ⟨⟨Q1, Q2, Q3, Q4, l1, l2, l3, l4⟩, A5, k5', rfl, hm11, hb11⟩; have hB11 := Below.step hB10 hB10.size hb11; have hX11 := hX10.keep hb11 hX10.lt; have hz11 := hX11.lt; obtain ⟨y0, y1, y2, y3, y4, y5⟩ := hX11.rbox)
        have hb11x : Below w11.heap.size w11 (w11.alloc (.cells #[.int .i64 C.i, .slice Q1 C.nl l1, .slice Q2 C.na l2, .slice Q3 C.nb l3, .slice Q4 C.nc l4] 26)) := (Below.refl _ _).alloc (Nat.le_refl _) _
        have hB11x := Below.step hB11 hB11.size hb11x
        have hT11x := Lib.hid (And.intro ((HT.out.1.to hb11 hb11.size).to hb11x hb11x.size) HT.out.2.1)
        have hX11x := hX11.keep hb11x hX11.lt
        have hU11x : Has (w11.alloc (.cells #[.int .i64 C.i, .slice Q1 C.nl l1, .slice Q2 C.na l2, .slice Q3 C.nb l3, .slice Q4 C.nc l4] 26)) w11.heap.size 26 (cc C ⟨Q1, Q2, Q3, Q4, l1, l2, l3, l4⟩) := Has.new w11 26 (cc C ⟨Q1, Q2, Q3, Q4, l1, l2, l3, l4⟩)
        clear x0 x1 x2 x3 x4 x5 hA10 hX10 hb11 hB11 hm11
        go_wp2_with (go_at_call 9; (with_reducible refine (C2.out _ ⟨P1, P2, some ⟨g9, 0, none⟩, P4, P5, k1, k2, k9, k4, k5⟩ hT11x.out.1 hT11x.out.2).mono ?_); rintro e w12 ⟨⟨R1, R2, R3, R4, m1, m2, m3, m4⟩, A8, k8, rfl, hm12, hb12⟩; have hB12 := Below.step hB11x hB11x.size hb12; have hX12 := hX11x.keep hb12 hX11x.lt; have hz12 := hX12.lt; clear y0 y1 y2 y3 y4 y5; obtain ⟨y0, y1, y2, y3, y4, y5⟩ := hX12.rbox)
        have hb12x : Below w12.heap.size w12 (w12.alloc (.cells #[.int .i64 D.i, .slice R1 D.nl m1, .slice R2 D.na m2, .slice R3 D.nb m3, .slice R4 D.nc m4] 26)) := (Below.refl _ _).alloc (Nat.le_refl _) _
        have hB12x := Below.step hB12 hB12.size hb12x
        have hT12x := Lib.hid ((hT11x.out.1.to hb12 hb12.size).to hb12x hb12x.size)
        have hM12x := Lib.hid (hm12.to hb12x hb12x.size)
        have hU12x := (hU11x.keep hb12 hU11x.lt).keep hb12x (hU11x.keep hb12 hU11x.lt).lt
        have hD12x : Has (w12.alloc (.cells #[.int .i64 D.i, .slice R1 D.nl m1, .slice R2 D.na m2, .slice R3 D.nb m3, .slice R4 D.nc m4] 26)) w12.heap.size 26 (cc D ⟨R1, R2, R3, R4, m1, m2, m3, m4⟩) := Has.new w12 26 (cc D ⟨R1, R2, R3, R4, m1, m2, m3, m4⟩)
        have hKK : (K != K) = false := by simp
        clear hm12 hb12 hB12 hb12x hU11x hX11x hb11x hB11x
        by_cases hk0 : K = 0
        · subst hk0
          go_wp2_with (go_at_call 13; (with_reducible refine (K1.out _ ⟨P1, P2, some ⟨g9, 0, none⟩, P4, P5, k1, k2, k9, k4, k5⟩ hT12x.out hT11x.out.2).mono ?_); rintro e w13 ⟨rfl, hb13⟩; have hB13 := Below.step hB12x hB12x.size hb13; have hU13 := hU12x.keep hb13 hU12x.lt; have hD13 := hD12x.keep hb13 hD12x.lt; have hM13 := Lib.hid (hM12x.out.to hb13 hb13.size); clear y0 y1 y2 y3 y4 y5; obtain ⟨c0', c1', c2', c3', c4'⟩ := hU13.box; obtain ⟨d0', d1', d2', d3', d4'⟩ := hD13.box; obtain ⟨hCn, hCl, hCi, hDn, hDl, hDi⟩ := HZ.out; rw [hCi] at c0'; rw [hCl] at c1'; rw [hCn] at c2'; rw [hDi] at d0'; rw [hDl] at d1'; rw [hDn] at d2'; clear hCn hCl hCi hDn hDl hDi hU12x hD12x hU13 hD13)
          go_wp2_with (first
            | (go_at_call 21; (with_reducible refine (GD.out _ ⟨R1, R2, R3, R4, m1, m2, m3, m4⟩ hM13.out).mono ?_); rintro e w14 ⟨rfl, hb14⟩; have hB14 := Below.step hB13 hB13.size hb14)
            | (go_at_call 15; (with_reducible refine (AL.out _).mono ?_); rintro e w15 ⟨rfl, hb15⟩; have hB15 := Below.step hB14 hB14.size hb15))
          go_ret
          exact ⟨rfl, hB15⟩
        · have hk1 : (K != 0) = true := by simpa using hk0
          clear hk0
          go_wp2_with (go_at_call 13; (with_reducible refine (K1.out _ ⟨P1, P2, some ⟨g9, 0, none⟩, P4, P5, k1, k2, k9, k4, k5⟩ hT12x.out hT11x.out.2).mono ?_); rintro e w13 ⟨rfl, hb13⟩; have hB13 := Below.step hB12x hB12x.size hb13; have hU13 := hU12x.keep hb13 hU12x.lt; have hD13 := hD12x.keep hb13 hD12x.lt; have hM13 := Lib.hid (hM12x.out.to hb13 hb13.size); clear y0 y1 y2 y3 y4 y5; obtain ⟨c0', c1', c2', c3', c4'⟩ := hU13.box; obtain ⟨d0', d1', d2', d3', d4'⟩ := hD13.box; obtain ⟨hCn, hCl, hCi, hDn, hDl, hDi⟩ := HZ.out; rw [hCi] at c0'; rw [hCl] at c1'; rw [hCn] at c2'; rw [hDi] at d0'; rw [hDl] at d1'; rw [hDn] at d2'; clear hCn hCl hCi hDn hDl hDi hU12x hD12x hU13 hD13)
          go_wp2_with (go_at_call 15; (with_reducible refine (AL.out _).mono ?_); rintro e w15 ⟨rfl, hb15⟩; have hB15 := Below.step hB13 hB13.size hb15)
          go_ret
          exact ⟨rfl, hB15⟩
  · go_enter Try.func7, Try.ntmps7
    go_wp2_with (go_at_call 16; refine (oGreat_any c0 p0 _).mono ?_; rintro e w1 ⟨rfl, hb1⟩; have hB1 : Below w.heap.size w w1 := Below.step (by go_grown) (by go_size) hb1; have hA1 : Has w1 w.heap.size 32 (rc c0 p0) := (Has.new w 32 (rc c0 p0)).keep hb1 (by simp); obtain ⟨x0, x1, x2, x3, x4, x5⟩ := hA1.rbox)
    go_wp2_with (go_at_call 15; (with_reducible refine (AL.out _).mono ?_); rintro e w2 ⟨rfl, hb2⟩; have hB2 := Below.step hB1 hB1.size hb2)
    go_ret
    exact ⟨rfl, hB2⟩

set_option maxRecDepth 100000 in
theorem lifted (os : Os) (started : os.Started) (H : Type) (enc : TypeId × Value → H) :
    ReturnsInHanded {} Try.checked os 7 .any (Rows.orderTurnedSpec.pre6 enc Try.prog Try.f7 Rows.orderTurnedRow.domain false) (Rows.orderTurnedSpec.post enc Try.prog Try.f7 false true false false) := by
  refine returnsInHanded_of_change (C := Try.checked) own started (by kernel_rfl) Try.func7
    (ChangeSpec.witness6 (enc := enc) (C := Try.checked) false ⟨#[], #[.agg #[.int .i64 0, .slice none 0 0, .slice none 0 0, .slice none 0 0, .slice none 0 0, .slice none 0 0], .int .i64 0], []⟩ 12 (by kernel_rfl) (by kernel_rfl) (by kernel_rfl) (by kernel_rfl)) ?_
  intro W base args ds gs before hval0 hW hcnd _
  have hval : ∀ (j : Nat) t v, Try.f7.params[j]? = some t → args[j]? = some v → Value.okWide Try.prog W .any base t v := hval0
  have hW' := hW
  have hlt : ∀ x ∈ before, x.block < W.heap.size := fun x hx => by simpa using hW'.lt x hx
  obtain ⟨p, q, hA0, hV, rfl, hfz, hnd⟩ := hW
  have hA : DataW.TrodAll enc Try.prog W 0 (fun _ => true) true Try.f7.params.toList args.toList ds p := hA0
  rw [Try.params7] at hA hval
  obtain ⟨v0, vs0, d0, ds0, b0, q0, hargs, rfl, rfl, h0, r0⟩ := trodAll_cons hA
  obtain ⟨v1, vs1, d1, ds1, b1, q1, rfl, rfl, rfl, h1, r1⟩ := trodAll_cons r0
  obtain ⟨rfl, rfl, rfl⟩ := trodAll_nil r1
  obtain rfl : args = #[v0, v1] := by cases args; simp_all
  obtain ⟨rfl, rfl⟩ := trodVars_none hV
  obtain ⟨c0, p0, rfl, hm0, hN0, hv0, hC0⟩ := open_raw (hval 0 32 v0 rfl rfl) h0
  obtain ⟨a1, rfl, rfl, rfl, w1⟩ := open_int Try.underlying3 (hval 1 3 v1 rfl rfl) h1
  have hlo : laidOutB Try.prog = true := by kernel_rfl
  clear hA0 hval0
  simp only [List.append_nil] at hW' hlt
  refine (walk c0 p0 a1 W hm0 hN0 hv0 hC0 w1).mono fun e W' ⟨he, hb⟩ => ?_
  subst he
  have hback := (trodAll_cons_mk (arg_back (W' := W') hlo (by kernel_rfl) (of_decide_eq_true (by kernel_rfl)) h0 hb (fun x hx => hlt x (by simp [hx]))) (trodAll_cons_mk (shut_int (enc := enc) (w := W') (base := 0) (spare := fun b => decide (b < W.heap.size)) (held := true) Try.underlying3 w1) trodAll_mk0))
  simp only [List.append_nil, List.nil_append] at hback
  exact ⟨_, rfl, law_post hW' (trodAll_cons_mk (shut_bool Try.underlying4 _) trodAll_mk0) hback rfl hb⟩

theorem over : Rows.orderTurnedRow.holds Try.pinned (OpenSpec.ofChange Rows.orderTurnedSpec) :=
  OpenClaim.holds_of_wide 7 Try.f7 rfl rfl rfl rfl rfl rfl rfl ⟨rfl, rfl, rfl, rfl, rfl⟩ rfl rfl rfl rfl rfl (by kernel_rfl) Try.func7 (by kernel_rfl)
    (of_decide_eq_true (by kernel_rfl)) (by unfold Func.isWrapper; first | (rw [if_pos (by decide +kernel)]; kernel_rfl) | (rw [if_neg (by decide +kernel)]; exact ⟨rfl, rfl⟩))
    (fun os started H enc _ => lifted os started H enc)

theorem proved : Rows.OrderTurnedSaid :=
  over
end Go.Proofs.Ytpdfdbnmohippaa.orderTurned
